import Derived.Test.YtggdlagopgpnhaaDoorE
/-
  DERIVED. Days: which are days, and their numbers.
-/
namespace Go.Proofs.YtggdlagopgpnhaaDoor
open Go Go.Proofs Go.RowKit

def dv (y m d : Int) : Value := .agg #[.int .i64 y, .int .i64 m, .int .i64 d]

/-- The first field that may not be. -/
def uf (y m d : Int) : Int := if y < 1 ∨ 9999 < y then 0 else if m < 1 ∨ 12 < m then 1 else if d < 1 ∨ (md y.toNat m.toNat : Int) < d then 2 else -1

set_option maxRecDepth 100000 in
set_option maxHeartbeats 1000000 in
theorem unfit_any (w : World) (y m d : Int) (hT : Mt w) : Calls Tryd.prog 27 #[dv y m d] w fun e w' => e = .returned (.int .i64 (uf y m d)) ∧ Below w.heap.size w w' := by
  obtain ⟨W, hW⟩ : ∃ W, w.alloc (.cells #[.int .i64 y, .int .i64 m, .int .i64 d] 23) = W := ⟨_, rfl⟩
  have HB : Hid (Below w.heap.size w W) := hW ▸ (Below.refl _ _).alloc (Nat.le_refl _) _
  have q0 : W.cell? ⟨w.heap.size, 0, none⟩ = some (.int .i64 y) := by rw [← hW]; simp
  have q1 : W.cell? ⟨w.heap.size, 1, none⟩ = some (.int .i64 m) := by rw [← hW]; simp
  have q2 : W.cell? ⟨w.heap.size, 2, none⟩ = some (.int .i64 d) := by rw [← hW]; simp
  have HT : Hid (Mt W) := hT.on HB.out
  clear hT
  unfold uf dv
  by_cases h1 : y < 1
  · rw [if_pos (.inl h1)]
    go_enter Tryd.func27, Tryd.ntmps27
    go_wp2
    go_ret
    exact ⟨rfl, HB.out⟩
  · by_cases h2 : 9999 < y
    · rw [if_pos (.inr h2)]
      go_enter Tryd.func27, Tryd.ntmps27
      go_wp2
      go_ret
      exact ⟨rfl, HB.out⟩
    · rw [if_neg (fun h => by omega)]
      by_cases h3 : m < 1
      · rw [if_pos (.inl h3)]
        go_enter Tryd.func27, Tryd.ntmps27
        go_wp2
        go_ret
        exact ⟨rfl, HB.out⟩
      · by_cases h4 : 12 < m
        · rw [if_pos (.inr h4)]
          go_enter Tryd.func27, Tryd.ntmps27
          go_wp2
          go_ret
          exact ⟨rfl, HB.out⟩
        · rw [if_neg (fun h => by omega)]
          obtain ⟨yn, rfl⟩ : ∃ yn : Nat, y = yn := ⟨y.toNat, by omega⟩
          obtain ⟨mn, rfl⟩ : ∃ mn : Nat, m = mn := ⟨m.toNat, by omega⟩
          have c := fun W' (h : Mt W') => month_any W' yn mn h
          rw [Int.toNat_natCast, Int.toNat_natCast]
          generalize md yn mn = L at *
          have c' := fun n => c (W.drewN n) ⟨HT.out.p⟩
          have h1' : decide ((yn : Int) < 1) = false := by simp; omega
          have h2' : decide ((9999 : Int) < (yn : Int)) = false := by simp; omega
          have h3' : decide ((mn : Int) < 1) = false := by simp; omega
          have h4' : decide ((12 : Int) < (mn : Int)) = false := by simp; omega
          by_cases h5 : d < 1
          · rw [if_pos (.inl h5)]
            have h5' : decide (d < 1) = true := by simpa using h5
            clear c c'
            go_enter Tryd.func27, Tryd.ntmps27
            go_wp2
            go_quiet (fail)
            go_wp2
            go_ret
            exact ⟨rfl, below_drewN HB.out _⟩
          · have h5' : decide (d < 1) = false := by simpa using h5
            by_cases h6 : (L : Int) < d
            · rw [if_pos (.inr h6)]
              have h6' : decide ((L : Int) < d) = true := by simpa using h6
              clear h5 h6
              go_enter Tryd.func27, Tryd.ntmps27
              go_wp2
              go_quiet (first | (go_at_call 26; exact (c' _).mono fun _ _ h => ⟨h.1, _, h.2.symm⟩) | fail)
              go_wp2
              go_ret
              exact ⟨rfl, below_drewN HB.out _⟩
            · rw [if_neg (fun h => by omega)]
              have h6' : decide ((L : Int) < d) = false := by simpa using h6
              clear h5 h6
              go_enter Tryd.func27, Tryd.ntmps27
              go_wp2
              go_quiet (first | (go_at_call 26; exact (c' _).mono fun _ _ h => ⟨h.1, _, h.2.symm⟩) | fail)
              go_wp2
              go_ret
              exact ⟨rfl, below_drewN HB.out _⟩

end Go.Proofs.YtggdlagopgpnhaaDoor
