import Derived.Test.YtilkogodhjnemaaGreatDoorBv
import Derived.ChangeArms
import Derived.SizedLaws
import Derived.OpenShut
/-
  DERIVED. Nodes that came in, read.
-/
namespace Go.Proofs.YtilkogodhjnemaaGreatDoor
open Go Go.Proofs Go.RowKit
open Wk (Nd NV)

section
variable {H : Type} {enc : TypeId × Value → H} {W : World} {base : Nat} {spare : Nat → Bool} {held : Bool}

/-- These cells read as something of that type; nothing in it is longer than a machine holds. -/
def Rd (enc : TypeId × Value → H) (W : World) (base : Nat) (spare : Nat → Bool) (held : Bool) (t : TypeId) (cs : List Value) : Prop :=
  ∃ fuel d p, DataW.trod enc Tryz.prog W base spare held fuel t cs = some (d, p) ∧ ∀ n ∈ d.weights Tryz.prog t, n ≤ reachBytes

theorem weights_all {t : TypeId} : ∀ {l : List (DataW H)} {i : Nat} {d : DataW H}, l[i]? = some d → ∀ n ∈ d.weights Tryz.prog t, n ∈ DataW.weightsAll Tryz.prog t l
  | [], _, _, h, _, _ => by simp at h
  | x :: l, 0, d, h, n, hn => by simp at h; subst h; simp [DataW.weightsAll, hn]
  | x :: l, i + 1, d, h, n, hn => by simp at h; simp only [DataW.weightsAll, List.mem_append]; exact .inr (weights_all h n hn)

theorem Rd.field {t : TypeId} {fs : Array Field} {cs : List Value} (h : Rd enc W base spare held t cs) (ht : Tryz.prog.underlying t = some (.struct fs)) (i : Nat) (f : Field) (hf : fs[i]? = some f) : Rd enc W base spare held f.type ((cs.drop f.offset).take (Tryz.prog.cellsOf f.type)) := by
  obtain ⟨fu, d, p, h, hw⟩ := h
  obtain ⟨xs, n, rfl, hx, hl, hxl, hall⟩ := DataW.trod_struct ht h
  have hi : i < fs.size := (Array.getElem?_eq_some_iff.1 hf).1
  obtain ⟨b, hb⟩ : ∃ b, xs[i]? = some b := ⟨xs[i]'(by omega), List.getElem?_eq_getElem (by omega)⟩
  have h1 := hall i f hf
  rw [hb] at h1
  refine ⟨n, b.1, b.2, h1, fun m hm => hw m ?_⟩
  have hd : d = .agg (xs.map (·.1)) := congrArg Prod.fst hx
  subst hd
  simp only [DataW.weights, ht]
  exact DataW.weights_mem_each (j := i) (t := f.type) (d := b.1) (by simp [hf]) (by simp [hb]) m hm

theorem Rd.at {t ty : TypeId} {fs : Array Field} {cs : List Value} (h : Rd enc W base spare held t cs) (ht : Tryz.prog.underlying t = some (.struct fs)) (i o n : Nat) (hf : (fs[i]?).map (fun f => (f.type, f.offset)) = some (ty, o)) (hc : Tryz.prog.cellsOf ty = n) : Rd enc W base spare held ty ((cs.drop o).take n) := by
  obtain ⟨f, hf1, hf2⟩ := Option.map_eq_some_iff.1 hf
  simp only [Prod.mk.injEq] at hf2
  have := h.field ht i f hf1
  rw [hf2.1, hf2.2, hc] at this
  exact this
/-- A slice, element by element. -/
theorem Rd.slice {t e : TypeId} {m : Nat} {cs : List Value} (h : Rd enc W base spare held t cs) (ht : Tryz.prog.underlying t = some (.slice e)) (hm : Tryz.prog.cellsOf e = m) (hm0 : 0 < m) :
    ∃ ao n cap, cs = [.slice ao n cap] ∧ n * Tryz.prog.bytesOf e ≤ reachBytes ∧ n ≤ cap ∧ (0 < n → ∃ b off, ao = some ⟨b, off, none⟩ ∧ ∀ i, i < n → ∃ es : List Value, es.length = m ∧ W.rangeAt b (off + i * m) es ∧ Rd enc W base spare held e es) := by
  obtain ⟨fu, d, p, h, hw⟩ := h
  rcases DataW.trod_slice ht h with ⟨rfl, _⟩ | ⟨a, len, cap, elems, rest, n, rfl, rfl, hx, hb, hlc, hcm, hel, hall, _, _⟩
  · exact ⟨none, 0, 0, rfl, by simp, by omega, fun h => by omega⟩
  · have hd : d = .slice (elems.map (·.1)) (rest.map (·.1)) := congrArg Prod.fst hx
    subst hd
    simp only [DataW.weights, ht] at hw
    have hwl := hw _ (List.mem_cons_self ..)
    refine ⟨some a, len, cap, rfl, ?_, hlc, fun hn => ?_⟩
    · simp only [List.length_map] at hwl
      exact Nat.le_trans (Nat.mul_le_mul_right _ (by omega)) hwl
    · rw [hm] at hall
      have hone : ∀ i, i < len → ∃ es x, W.cells? base (a.add (i * m)) m = some es ∧ DataW.trod enc Tryz.prog W base spare held n e es = some x ∧ elems[i]? = some x := fun i hi => by
        have h1 := hall i hi
        rw [List.getElem?_eq_getElem (by omega)] at h1
        obtain ⟨es, he, hx⟩ := Option.bind_eq_some_iff.1 h1
        exact ⟨es, _, he, hx, List.getElem?_eq_getElem (by omega)⟩
      obtain ⟨es0, x0, hc0, _, _⟩ := hone 0 hn
      obtain ⟨b, off, sp⟩ := a
      have hs : sp = none := by
        have h3 := World.cells?_some hc0
        have h4 := h3.2.2 0 hm0
        rw [List.getElem?_eq_getElem (by omega)] at h4
        have := World.cell?_spot h4
        simpa [Addr.add] using this
      subst hs
      refine ⟨b, off, rfl, fun i hi => ?_⟩
      obtain ⟨es, x, hc, hx, hei⟩ := hone i hi
      have h3 := World.cells?_some hc
      refine ⟨es, h3.2.1, fun j v hv => ?_, n, x.1, x.2, hx, fun w hww => hw w ?_⟩
      · have hj : j < m := by have := (List.getElem?_eq_some_iff.1 hv).1; omega
        have h4 := h3.2.2 j hj
        rw [Addr.add_mid, Addr.add_mid] at h4
        exact h4.trans hv
      · refine List.mem_cons_of_mem _ (List.mem_append.2 (.inl (weights_all (i := i) ?_ w hww)))
        simp [hei]

theorem cells3 : Tryz.prog.cellsOf 3 = 1 := by kernel_rfl
theorem cells9 : Tryz.prog.cellsOf 9 = 1 := by kernel_rfl
theorem cells34 : Tryz.prog.cellsOf 44 = 1 := by kernel_rfl
theorem cells35 : Tryz.prog.cellsOf 45 = 1 := by kernel_rfl
theorem Rd.node {cs : List Value} (h : Rd enc W base spare held 47 cs) (hl : cs.length = 4) : ∃ a : Nd, cs = a.cs ∧ (0 ≤ a.t ∧ a.t < 4294967296) ∧ (-9223372036854775808 ≤ a.n ∧ a.n ≤ 9223372036854775807) ∧ a.s.size ≤ 140737488351232 := by
  match cs, hl with
  | [c0, c1, c2, c3], _ =>
    have r0 : Rd enc W base spare held 44 [c0] := h.at Tryz.underlying47 0 0 1 rfl cells34
    have r1 : Rd enc W base spare held 45 [c1] := h.at Tryz.underlying47 1 1 1 rfl cells35
    have r2 : Rd enc W base spare held 3 [c2] := h.at Tryz.underlying47 2 2 1 rfl cells3
    have r3 : Rd enc W base spare held 9 [c3] := h.at Tryz.underlying47 3 3 1 rfl cells9
    obtain ⟨f0, d0, p0, q0, -⟩ := r0
    obtain ⟨f1, d1, p1, q1, -⟩ := r1
    obtain ⟨f2, d2, p2, q2, -⟩ := r2
    obtain ⟨f3, d3, p3, q3, w3⟩ := r3
    obtain ⟨t, e0, -, hw0⟩ := DataW.trod_int Tryz.underlying44 q0
    obtain ⟨v, e1, -, -⟩ := DataW.trod_int Tryz.underlying45 q1
    obtain ⟨z, e2, -, hw2⟩ := DataW.trod_int Tryz.underlying3 q2
    obtain ⟨s, e3, hx3, -⟩ := DataW.trod_string Tryz.underlying9 q3
    simp only [List.cons.injEq, and_true] at e0 e1 e2 e3
    subst e0 e1 e2 e3
    simp only [Lit.wf, Bool.and_eq_true, decide_eq_true_eq, show IntKind.u32.min = 0 from rfl, show IntKind.u32.max = 4294967295 from rfl] at hw0
    simp only [Lit.wf, Bool.and_eq_true, decide_eq_true_eq, show IntKind.i64.min = -9223372036854775808 from rfl, show IntKind.i64.max = 9223372036854775807 from rfl] at hw2
    refine ⟨⟨t, v, z, s⟩, rfl, ⟨hw0.1, by simp only; omega⟩, hw2, ?_⟩
    have hd : d3 = .lit (.string s.data.toList) := congrArg Prod.fst hx3
    subst hd
    have := w3 s.data.toList.length (by simp [DataW.weights])
    rw [Array.length_toList] at this
    exact this
theorem Rd.nodes {v : Value} (h : Rd enc W base spare held 22 [v]) : ∃ a n cap L, v = .slice a n cap ∧ NV W a n cap L ∧ TagsOk L ∧ ∀ y ∈ L, y.s.size ≤ 140737488351232 := by
  obtain ⟨ao, n, cap, hv, hb, hc, hel⟩ := h.slice Tryz.underlying22 (m := 4) (by kernel_rfl) (by omega)
  simp only [List.cons.injEq, and_true] at hv
  subst hv
  rw [show Tryz.prog.bytesOf 47 = 40 by kernel_rfl, show reachBytes = 140737488351232 from rfl] at hb
  by_cases hn : 0 < n
  · obtain ⟨b, off, rfl, he⟩ := hel hn
    have hz : ∀ i, ∃ q : Nd, i < n → (∀ k u, q.cs[k]? = some u → W.cell? ⟨b, off + i * 4 + k, none⟩ = some u) ∧ (0 ≤ q.t ∧ q.t < 4294967296) ∧ (-9223372036854775808 ≤ q.n ∧ q.n ≤ 9223372036854775807) ∧ q.s.size ≤ 140737488351232 := fun i => by
      by_cases hi : i < n
      · obtain ⟨es, h1, h2, h3⟩ := he i hi
        obtain ⟨q, rfl, k1, k2, k3⟩ := h3.node h1
        exact ⟨q, fun _ => ⟨fun k u hu => h2 k u hu, k1, k2, k3⟩⟩
      · exact ⟨⟨0, 0, 0, ⟨#[]⟩⟩, fun h => absurd h hi⟩
    obtain ⟨F, hF⟩ := Classical.axiomOfChoice hz
    have hmem : ∀ y ∈ (List.range n).map F, ∃ i, i < n ∧ F i = y := fun y hy => by
      obtain ⟨i, hi, rfl⟩ := List.mem_map.1 hy
      exact ⟨i, List.mem_range.1 hi, rfl⟩
    refine ⟨_, n, cap, (List.range n).map F, rfl, ⟨by simp, hc, by omega, fun _ => ⟨b, off, rfl, fun i hi => ?_⟩, fun y hy => ?_⟩, fun y hy => ?_, fun y hy => ?_⟩
    · have hi' : i < n := by simpa using hi
      have e : ((List.range n).map F)[i]'hi = F i := by simp
      rw [e]
      have hk := (hF i hi').1
      exact ⟨hk 0 _ rfl, hk 1 _ rfl, hk 2 _ rfl, hk 3 _ rfl⟩
    · obtain ⟨i, hi, rfl⟩ := hmem y hy
      exact (hF i hi).2.2.1
    · obtain ⟨i, hi, rfl⟩ := hmem y hy
      exact (hF i hi).2.1
    · obtain ⟨i, hi, rfl⟩ := hmem y hy
      exact (hF i hi).2.2.2
  · obtain rfl : n = 0 := by omega
    exact ⟨ao, 0, cap, [], rfl, ⟨rfl, Nat.zero_le _, by omega, fun h => absurd h (by omega), fun y hy => by simp at hy⟩, fun y hy => by simp at hy, fun y hy => by simp at hy⟩
end
end Go.Proofs.YtilkogodhjnemaaGreatDoor
