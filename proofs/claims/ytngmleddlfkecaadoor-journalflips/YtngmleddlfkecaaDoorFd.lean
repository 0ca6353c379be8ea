import Derived.Test.YtngmleddlfkecaaDoorFc
import Derived.Test.YtngmleddlfkecaaDoorX
namespace Go.Proofs.YtngmleddlfkecaaDoor
open Go Go.Proofs Go.RowKit

/-- A list of byte slices, read. -/
def VS (w : World) (v : Value) (bss : List (List Nat)) : Prop :=
  ∃ ao cap, v = .slice ao bss.length cap ∧ (0 < bss.length → ∃ b off, ao = some ⟨b, off, none⟩ ∧ ∀ i, i < bss.length → ∃ x, w.cell? ⟨b, off + i, none⟩ = some x ∧ V w x (bss.getD i []))

theorem VS.next {w w' : World} {v : Value} {bss : List (List Nat)} (h : VS w v bss) (hb : Below w.heap.size w w') : VS w' v bss := by
  obtain ⟨ao, cap, rfl, hf⟩ := h
  refine ⟨ao, cap, rfl, fun hp => ?_⟩
  obtain ⟨b, off, rfl, hc⟩ := hf hp
  refine ⟨b, off, rfl, fun i hi => ?_⟩
  obtain ⟨x, hx, hv⟩ := hc i hi
  exact ⟨x, (hb.cell (p := ⟨b, off + i, none⟩) (cell_lt hx)).trans hx, hv.next hb⟩

/-- How many bytes the frames have. -/
def sizeL : List (List Nat) → Nat
  | [] => 0
  | b :: r => 17 + b.length + sizeL r

theorem sizeL_snoc : ∀ (l : List (List Nat)) (b : List Nat), sizeL (l ++ [b]) = sizeL l + (17 + b.length)
  | [], b => by simp [sizeL]
  | a :: l, b => by simp only [List.cons_append, sizeL, sizeL_snoc l b]; omega

theorem take_snoc {bss : List (List Nat)} {k : Nat} (hk : k < bss.length) : bss.take (k + 1) = bss.take k ++ [bss.getD k []] := by
  rw [List.take_add_one, List.getElem?_eq_getElem hk, Option.toList_some]
  simp [List.getD_eq_getElem?_getD, List.getElem?_eq_getElem hk]

/-- A bound for each and all. -/
def Few (bss : List (List Nat)) : Prop := bss.length ≤ 700 ∧ sizeL bss ≤ 411900

theorem sizeL_take_le (bss : List (List Nat)) (k : Nat) : sizeL (bss.take k) ≤ sizeL bss := by
  have : ∀ (l1 l2 : List (List Nat)), sizeL l1 ≤ sizeL (l1 ++ l2) := by
    intro l1 l2
    induction l1 with
    | nil => simp [sizeL]
    | cons a l ih => simp only [List.cons_append, sizeL]; omega
  have h := this (bss.take k) (bss.drop k)
  rwa [List.take_append_drop] at h

theorem Few.len {bss : List (List Nat)} (h : Few bss) {k : Nat} (hk : k < bss.length) : sizeL (bss.take k) + (17 + (bss.getD k []).length) ≤ 411900 := by
  have h1 := sizeL_take_le bss (k + 1)
  rw [take_snoc hk, sizeL_snoc] at h1
  have := h.2
  omega

set_option maxRecDepth 100000 in
/-- framesSize. -/
theorem fsize_any {w : World} {v : Value} {bss : List (List Nat)} (h : VS w v bss) (hF : Few bss) :
    Calls Tryd.prog 42 #[v] w fun e w' => e = .returned (.int .i64 (sizeL bss : Nat)) ∧ w = w' := by
  obtain ⟨ao, cap, rfl, hf⟩ := h
  obtain ⟨n, hn⟩ : ∃ n, bss.length = n := ⟨_, rfl⟩
  have HN : Hid (bss.length = n) := hn
  have HF : Hid (Few bss) := hF
  have hn7 : n ≤ 700 := by rw [← hn]; exact hF.1
  have HC : Hid (0 < n → ∃ b off, ao = some ⟨b, off, none⟩ ∧ ∀ i, i < n → ∃ x, w.cell? ⟨b, off + i, none⟩ = some x ∧ V w x (bss.getD i [])) := by rw [← hn]; exact hf
  rw [hn]
  clear hf hF hn
  go_enter Tryd.func42, Tryd.ntmps42
  go_wp2
  go_loop [3, 8] (fun s i => ∃ k t : Nat, k ≤ n ∧ i = .int .i64 k ∧ s = .int .i64 t ∧ t ≤ 411900 ∧ Hid (t = sizeL (bss.take k))) (fun _ i => n - (intOf i).toNat)
  case atStart => exact ⟨0, 0, Nat.zero_le _, rfl, rfl, by omega, rfl⟩
  case round =>
    obtain ⟨k, t, hk, rfl, rfl, ht, HT⟩ := hrel
    by_cases hkn : k < n
    · obtain ⟨b, off, rfl, hc⟩ := HC.out (by omega)
      obtain ⟨x, hx, hv⟩ := hc k hkn
      obtain ⟨a1, c1, rfl, _, _⟩ := hv.form
      obtain ⟨m, hm⟩ : ∃ m, (bss.getD k []).length = m := ⟨_, rfl⟩
      have hkl : k < bss.length := by rw [HN.out]; exact hkn
      have h1 := HF.out.len hkl
      rw [hm, ← HT.out] at h1
      have HE : Hid (t + (17 + m) = sizeL (bss.take (k + 1))) := by
        show _ = _
        rw [take_snoc hkl, sizeL_snoc, hm, HT.out]
      rw [hm] at hx
      clear hv hc hkl hm
      go_wp2
      go_round
      case rel => exact ⟨k + 1, t + (17 + m), by omega, by go_num, by go_num, by omega, HE⟩
      case measure => simp [intOf]; omega
    · have hkn' : k = n := by omega
      subst hkn'
      go_wp2
      go_ret
      exact ⟨by rw [HT.out, ← HN.out, List.take_length]; rfl, rfl⟩

/-- The first that is too long. -/
def longAt : Nat → List (List Nat) → Option (Int × Int)
  | _, [] => none
  | i, b :: r => if b.length ≤ 131072 then longAt (i + 1) r else some ((i : Int), 40)

def baseE (bss : List (List Nat)) : Option (Int × Int) := if bss.length ≤ 600 then longAt 0 bss else some (0, 42)

theorem longAt_drop {bss : List (List Nat)} {k : Nat} (hk : k < bss.length) : longAt k (bss.drop k) = if (bss.getD k []).length ≤ 131072 then longAt (k + 1) (bss.drop (k + 1)) else some ((k : Int), 40) := by
  rw [List.drop_eq_getElem_cons hk, longAt]
  simp [List.getD_eq_getElem?_getD, List.getElem?_eq_getElem hk]

set_option maxRecDepth 100000 in
/-- checkBase. -/
theorem check_any {w : World} {v : Value} {bss : List (List Nat)} (h : VS w v bss) :
    Calls Tryd.prog 27 #[v] w fun e w' => ∃ ve, e = .returned ve ∧ PE w' ve (baseE bss) ∧ Below w.heap.size w w' := by
  obtain ⟨ao, cap, rfl, hf⟩ := h
  obtain ⟨n, hn⟩ : ∃ n, bss.length = n := ⟨_, rfl⟩
  have HN : Hid (bss.length = n) := hn
  have HC : Hid (0 < n → ∃ b off, ao = some ⟨b, off, none⟩ ∧ ∀ i, i < n → ∃ x, w.cell? ⟨b, off + i, none⟩ = some x ∧ V w x (bss.getD i [])) := by rw [← hn]; exact hf
  unfold baseE
  rw [hn]
  by_cases h6 : n ≤ 600
  · rw [if_pos h6]
    clear hf hn
    go_enter Tryd.func27, Tryd.ntmps27
    go_wp2
    go_loop [3, 4, 11] (fun _ _ i => ∃ k : Nat, k ≤ n ∧ i = .int .i64 k ∧ Hid (longAt 0 bss = longAt k (bss.drop k))) (fun _ _ i => n - (intOf i).toNat)
    case atStart => exact ⟨0, Nat.zero_le _, rfl, rfl⟩
    case round =>
      obtain ⟨k, hk, rfl, HK⟩ := hrel
      by_cases hkn : k < n
      · obtain ⟨b, off, rfl, hc⟩ := HC.out (by omega)
        obtain ⟨x, hx, hv⟩ := hc k hkn
        obtain ⟨a1, c1, rfl, _, _⟩ := hv.form
        obtain ⟨m, hm⟩ : ∃ m, (bss.getD k []).length = m := ⟨_, rfl⟩
        have hl := longAt_drop (k := k) (bss := bss) (by rw [HN.out]; exact hkn)
        rw [hm] at hx hl
        by_cases hm1 : m ≤ 131072
        · rw [if_pos hm1] at hl
          have HL : Hid (longAt 0 bss = longAt (k + 1) (bss.drop (k + 1))) := HK.out.trans hl
          clear hl hv hc hm
          go_wp2
          go_round
          case rel => exact ⟨k + 1, by omega, by go_num, HL⟩
          case measure => simp [intOf]; omega
        · rw [if_neg hm1] at hl
          have HL : Hid (longAt 0 bss = some ((k : Int), 40)) := HK.out.trans hl
          clear hl hv hc hm
          go_wp2_with (go_at_call 26; refine (refusal_fault _ _ _).mono ?_; rintro e W2 ⟨q, rfl, hf, hq, hb2⟩)
          go_ret
          refine ⟨_, rfl, ?_, hb2⟩
          rw [HL.out]
          exact ⟨q, rfl, hf⟩
      · have hkn' : k = n := by omega
        subst hkn'
        go_wp2
        go_ret
        refine ⟨_, rfl, ?_, Below.refl _ _⟩
        rw [HK.out, List.drop_eq_nil_of_le (by rw [HN.out]; exact Nat.le_refl _)]
        rfl
  · rw [if_neg h6]
    clear hf HC hn
    go_enter Tryd.func27, Tryd.ntmps27
    go_wp2_with (go_at_call 26; refine (refusal_fault _ _ _).mono ?_; rintro e W2 ⟨q, rfl, hf, hq, hb2⟩)
    go_ret
    exact ⟨_, rfl, ⟨q, rfl, hf⟩, hb2⟩
end Go.Proofs.YtngmleddlfkecaaDoor
