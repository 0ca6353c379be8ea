import Derived.Test.YtngmleddlfkecaaDoorFd
namespace Go.Proofs.YtngmleddlfkecaaDoor
open Go Go.Proofs Go.RowKit

def sumL : List (List Nat) → Nat
  | [] => 0
  | b :: r => b.length + sumL r

theorem sumL_snoc : ∀ (l : List (List Nat)) (b : List Nat), sumL (l ++ [b]) = sumL l + b.length
  | [], b => by simp [sumL]
  | a :: l, b => by simp only [List.cons_append, sumL, sumL_snoc l b]; omega

theorem sumL_size : ∀ (l : List (List Nat)), sizeL l = 17 * l.length + sumL l
  | [] => rfl
  | a :: l => by simp only [sizeL, sumL, List.length_cons, sumL_size l]; omega

def fewB (bss : List (List Nat)) : Bool := decide (bss.length ≤ 700) && decide (sumL bss ≤ 400000)

theorem Few.of {bss : List (List Nat)} (h : fewB bss = true) : Few bss := by
  unfold fewB at h
  simp only [Bool.and_eq_true, decide_eq_true_eq] at h
  exact ⟨h.1, by rw [sumL_size]; omega⟩

set_option maxRecDepth 100000 in
/-- few. -/
theorem few_any {w : World} {v : Value} {bss : List (List Nat)} (h : VS w v bss) (hr : ∀ b ∈ bss, b.length ≤ 140737488351232) (hlen : bss.length ≤ 140737488351232) :
    Calls Tryd.prog 19 #[v] w fun e w' => e = .returned (.bool (fewB bss)) ∧ w = w' := by
  obtain ⟨ao, cap, rfl, hf⟩ := h
  obtain ⟨n, hn⟩ : ∃ n, bss.length = n := ⟨_, rfl⟩
  have HN : Hid (bss.length = n) := hn
  have HR : Hid (∀ b ∈ bss, b.length ≤ 140737488351232) := hr
  have HC : Hid (0 < n → ∃ b off, ao = some ⟨b, off, none⟩ ∧ ∀ i, i < n → ∃ x, w.cell? ⟨b, off + i, none⟩ = some x ∧ V w x (bss.getD i [])) := by rw [← hn]; exact hf
  rw [hn] at hlen ⊢
  unfold fewB
  rw [hn]
  clear hf hr hn
  by_cases h7 : n ≤ 700
  · rw [decide_eq_true h7, Bool.true_and]
    go_enter Tryd.func19, Tryd.ntmps19
    go_wp2
    go_loop [3, 4] (fun s i => ∃ k t : Nat, k ≤ n ∧ i = .int .i64 k ∧ s = .int .i64 t ∧ t ≤ k * 140737488351232 ∧ Hid (t = sumL (bss.take k))) (fun _ i => n - (intOf i).toNat)
    case atStart => exact ⟨0, 0, Nat.zero_le _, rfl, rfl, by omega, rfl⟩
    case round =>
      obtain ⟨k, t, hk, rfl, rfl, ht, HT⟩ := hrel
      by_cases hkn : k < n
      · obtain ⟨b, off, rfl, hc⟩ := HC.out (by omega)
        obtain ⟨x, hx, hv⟩ := hc k hkn
        obtain ⟨a1, c1, rfl, _, _⟩ := hv.form
        obtain ⟨m, hm⟩ : ∃ m, (bss.getD k []).length = m := ⟨_, rfl⟩
        have hkl : k < bss.length := by rw [HN.out]; exact hkn
        have hml : m ≤ 140737488351232 := by
          rw [← hm]
          exact HR.out _ (by rw [List.getD_eq_getElem?_getD, List.getElem?_eq_getElem hkl]; exact List.getElem_mem _)
        have HE : Hid (t + m = sumL (bss.take (k + 1))) := by
          show _ = _
          rw [take_snoc hkl, sumL_snoc, hm, HT.out]
        rw [hm] at hx
        have hb1 : t + m ≤ 98657979334213632 := by omega
        clear hv hc hkl hm
        go_wp2
        go_round
        case rel => exact ⟨k + 1, t + m, by omega, by go_num, by go_num, by omega, HE⟩
        case measure => simp [intOf]; omega
      · have hkn' : k = n := by omega
        subst hkn'
        have hd : decide ((k : Int) ≤ 700) = true := by simp; omega
        have HE : Hid (sumL bss = t) := by show _ = _; rw [HT.out, ← HN.out, List.take_length]
        by_cases ht4 : t ≤ 400000
        · have HF : Hid (decide (sumL bss ≤ 400000) = true) := by show _ = _; rw [HE.out]; simpa using ht4
          have hd4 : decide ((t : Int) ≤ 400000) = true := by simp; omega
          go_wp2
          go_ret
          exact ⟨by rw [HF.out]; rfl, rfl⟩
        · have HF : Hid (decide (sumL bss ≤ 400000) = false) := by show _ = _; rw [HE.out]; simpa using ht4
          have hd4 : decide ((t : Int) ≤ 400000) = false := by simp; omega
          go_wp2
          go_ret
          exact ⟨by rw [HF.out]; rfl, rfl⟩
  · rw [decide_eq_false h7, Bool.false_and]
    go_enter Tryd.func19, Tryd.ntmps19
    go_wp2
    go_loop [3, 4] (fun s i => ∃ (k : Nat) (t : Int), k ≤ n ∧ i = .int .i64 k ∧ s = .int .i64 t) (fun _ i => n - (intOf i).toNat)
    case atStart => exact ⟨0, 0, Nat.zero_le _, rfl, rfl⟩
    case round =>
      obtain ⟨k, t, hk, rfl, rfl⟩ := hrel
      by_cases hkn : k < n
      · obtain ⟨b, off, rfl, hc⟩ := HC.out (by omega)
        obtain ⟨x, hx, hv⟩ := hc k hkn
        obtain ⟨a1, c1, rfl, _, _⟩ := hv.form
        clear hv hc
        go_wp2
        go_round
        case rel => exact ⟨k + 1, _, by omega, by go_num, rfl⟩
        case measure => simp [intOf]; omega
      · have hkn' : k = n := by omega
        subst hkn'
        have hd : decide ((k : Int) ≤ 700) = false := by simp; omega
        go_wp2
        go_ret
        exact ⟨rfl, rfl⟩
end Go.Proofs.YtngmleddlfkecaaDoor
