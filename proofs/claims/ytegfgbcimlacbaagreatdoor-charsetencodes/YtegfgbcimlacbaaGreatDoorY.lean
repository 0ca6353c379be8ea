
import Derived.Test.YtegfgbcimlacbaaGreatDoorX
import Derived.Test.YtegfgbcimlacbaaGreatDoorL
import Derived.SliceStrings
import Derived.SizedLaws
/-
  DERIVED. Terms that came in, read; how long they can be.
-/
namespace Go.Proofs.YtegfgbcimlacbaaGreatDoor
open Go Go.Proofs Go.RowKit Go.ChangeShapes Go.WideShapes

theorem bytes9 : Tryz.prog.bytesOf 9 = 16 := by kernel_rfl
theorem reachIs : reachBytes = 140737488351232 := rfl

theorem terms_open {H : Type} {enc : TypeId × Value → H} {W : World} {base : Nat} {spare : Nat → Bool} {held : Bool} {fuel : Nat} {a0 : Option Addr} {len cap : Nat} {x : DataW H × List MemPlace}
    (hf : DataW.trod enc Tryz.prog W base spare held fuel 22 [.slice a0 len cap] = some x) : ∃ T : List ByteArray, T.length = len ∧ TS W (.slice a0 len cap) T ∧ (T = [] ∨ ∃ sp, x.1 = .slice (strs T) sp) := by
  rcases open_strings Tryz.underlying22 Tryz.underlying9 cells9 hf with ⟨hcs, _⟩ | ⟨a, len', cap', ss, hcs, _, hl, hm, hz, hx, hcell, hwz⟩
  · simp only [List.cons.injEq, and_true, Value.slice.injEq] at hcs
    obtain ⟨rfl, rfl, rfl⟩ := hcs
    exact ⟨[], rfl, ⟨none, 0, rfl, fun h => by simp at h⟩, .inl rfl⟩
  · simp only [List.cons.injEq, and_true, Value.slice.injEq] at hcs
    obtain ⟨rfl, rfl, rfl⟩ := hcs
    have hzl : len ≤ ss.length := by rw [hz]; split <;> omega
    have hlen : (ss.take len).length = len := by simp; omega
    refine ⟨ss.take len, hlen, ⟨_, cap, by rw [hlen], fun hp => ?_⟩, .inr ⟨_, by rw [hx]⟩⟩
    rw [hlen] at hp
    obtain ⟨b, off, sp⟩ := a
    have hs : sp = none := by
      have := World.cell?_spot (hcell 0 (by omega))
      simpa [Addr.add] using this
    subst hs
    refine ⟨b, off, rfl, fun k s hk => ?_⟩
    have hk1 : k < len := by have := (List.getElem?_eq_some_iff.1 hk).1; omega
    have hc := hcell k (by omega)
    have hadd : (⟨b, off, none⟩ : Addr).add k = ⟨b, off + k, none⟩ := by
      unfold Addr.add
      by_cases hz : k = 0
      · rw [if_pos hz, hz]; rfl
      · rw [if_neg hz]
    rw [hadd] at hc
    rw [hc]
    rw [List.getElem?_take, if_pos hk1] at hk
    rw [List.getD_eq_getElem?_getD, hk]
    rfl

theorem row_weights {H : Type} (l : List (DataW H)) : ∀ d ∈ l, d.weights Tryz.prog 9 ⊆ DataW.weightsAll Tryz.prog 9 l := by
  induction l with
  | nil => intro d hd; cases hd
  | cons x l ih =>
    intro d hd n hn
    rw [DataW.weightsAll, List.mem_append]
    cases hd with
    | head => exact .inl hn
    | tail _ h => exact .inr (ih d h hn)

theorem strs_sized {H : Type} {ts : List TypeId} {ds : List (DataW H)} (h : (DataW.weightsEach Tryz.prog ts ds).all (· ≤ reachBytes) = true) {j : Nat} {T : List ByteArray} {sp : List (DataW H)} (ht : ts[j]? = some 22) (hd : ds[j]? = some (.slice (strs T) sp)) :
    T.length ≤ 8796093021952 ∧ ∀ s ∈ T, s.size ≤ 140737488351232 := by
  constructor
  · have := sized_slice h (e := 9) ht hd Tryz.underlying22
    rw [bytes9, reachIs] at this
    have hl : (strs (H := H) T).length = T.length := by simp [strs]
    omega
  · intro s hs
    have hm : (DataW.lit (.string s.data.toList) : DataW H) ∈ strs T := List.mem_map.2 ⟨s, hs, rfl⟩
    have hw : s.data.toList.length ∈ (DataW.slice (strs T) sp : DataW H).weights Tryz.prog 22 := by
      have h1 : s.data.toList.length ∈ (DataW.lit (.string s.data.toList) : DataW H).weights Tryz.prog 9 := by rw [DataW.weights]; exact List.mem_cons_self
      have h2 := row_weights (strs T) _ hm h1
      rw [DataW.weights, Tryz.underlying22]
      exact List.mem_cons_of_mem _ (List.mem_append_left _ h2)
    have := List.all_eq_true.1 h _ (DataW.weights_mem_each ht hd _ hw)
    rw [decide_eq_true_eq, reachIs, Array.length_toList] at this
    exact this
end Go.Proofs.YtegfgbcimlacbaaGreatDoor
