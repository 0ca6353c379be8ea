
import Derived.Test.YtfhapcnnalagjaaDoorB
import Derived.Deep.OwnRows
/-
  DERIVED. The number of a day.
-/
namespace Go.Proofs.YtfhapcnnalagjaaDoor
open Go Go.Proofs Go.RowKit

/-- The days of so many months. -/
def cu (y : Nat) : Nat → Nat
  | 0 => 0
  | k + 1 => cu y k + md y (k + 1)
theorem md_le (y m : Nat) : md y m ≤ 31 := by
  unfold md
  split
  · omega
  · split
    · omega
    · unfold mL
      rename_i h _
      have : m - 1 < 12 := by omega
      generalize m - 1 = k at *
      rcases (by omega : k = 0 ∨ k = 1 ∨ k = 2 ∨ k = 3 ∨ k = 4 ∨ k = 5 ∨ k = 6 ∨ k = 7 ∨ k = 8 ∨ k = 9 ∨ k = 10 ∨ k = 11) with rfl | rfl | rfl | rfl | rfl | rfl | rfl | rfl | rfl | rfl | rfl | rfl <;> decide
theorem cu_le (y : Nat) : ∀ k, cu y k ≤ 31 * k
  | 0 => by simp [cu]
  | k + 1 => by have := cu_le y k; have := md_le y (k + 1); rw [cu]; omega

/-- A day that is one. -/
def Day (y m d : Nat) : Prop := 1 ≤ y ∧ y ≤ 9999 ∧ 1 ≤ m ∧ m ≤ 12 ∧ 1 ≤ d ∧ d ≤ md y m
def num (y m d : Nat) : Nat := dA y + cu y (m - 1) + d - 1
theorem dA_le {y : Nat} (h : y ≤ 10000) : dA y ≤ 3652059 := by unfold dA; omega

set_option maxRecDepth 100000 in
set_option maxHeartbeats 1000000 in
theorem number_any (w : World) (y m d : Nat) (hd : Day y m d) (hT : Mt w) : Calls Tryd.prog 24 #[dv y m d] w fun e w' => e = .returned (.int .i64 (num y m d : Nat)) ∧ Below w.heap.size w w' := by
  obtain ⟨hy1, hy2, hm1, hm2, hd1, hd2⟩ := hd
  have hd31 : d ≤ 31 := Nat.le_trans hd2 (md_le y m)
  have hA := dA_le (y := y) (by omega)
  obtain ⟨W, hW⟩ : ∃ W, w.alloc (.cells #[.int .i64 (y : Int), .int .i64 (m : Int), .int .i64 (d : Int)] 45) = W := ⟨_, rfl⟩
  have HB : Hid (Below w.heap.size w W) := hW ▸ (Below.refl _ _).alloc (Nat.le_refl _) _
  have q0 : W.cell? ⟨w.heap.size, 0, none⟩ = some (.int .i64 (y : Int)) := by rw [← hW]; simp
  have q1 : W.cell? ⟨w.heap.size, 1, none⟩ = some (.int .i64 (m : Int)) := by rw [← hW]; simp
  have q2 : W.cell? ⟨w.heap.size, 2, none⟩ = some (.int .i64 (d : Int)) := by rw [← hW]; simp
  have HT : Hid (Mt W) := hT.on HB.out
  have c25 := fun n => ahead_any (W.drewN n) y hy1 (by omega)
  have c26 := fun k n => month_any (W.drewN n) y k ⟨HT.out.p⟩
  have HE : Hid (num y m d = dA y + d - 1 + cu y (m - 1)) := by show _ = _; unfold num; omega
  generalize num y m d = N at *
  generalize dA y = A at *
  clear hT hd2 hy1 hy2
  unfold dv
  go_enter Tryd.func24, Tryd.ntmps24
  go_wp2
  go_quiet (first | (go_at_call 49; exact (c25 _).mono fun _ _ h => ⟨h.1, _, h.2.symm⟩) | fail)
  go_wp2
  go_loopg [3, 4] (m - 1) (fun g s3 s4 wx => ∃ k : Nat, s4 = .int .i64 (k : Int) ∧ 1 ≤ k ∧ k ≤ m ∧ g + k = m ∧ (∃ S : Nat, s3 = .int .i64 (S : Int) ∧ S ≤ 3700000 ∧ Hid (S = A + d - 1 + cu y (k - 1))) ∧ W.drewN nq = wx)
  case atStart => exact ⟨1, rfl, by omega, by omega, by omega, ⟨A + d - 1, by congr 1; omega, by omega, rfl⟩, rfl⟩
  case round =>
    obtain ⟨k, rfl, hk1, hkm, hg, ⟨S, rfl, hS, HS⟩, rfl⟩ := hrel
    by_cases hk : k < m
    · have hkI : (k : Int) < (m : Int) := by omega
      have c := c26 k nq
      have HS2 : Hid (S + md y k = A + d - 1 + cu y (k + 1 - 1)) := by
        obtain ⟨j, rfl⟩ : ∃ j, k = j + 1 := ⟨k - 1, by omega⟩
        show _ = _
        rw [HS.out, show j + 1 + 1 - 1 = j + 1 by omega, show j + 1 - 1 = j by omega, cu]
        omega
      have hS2 : S + md y k ≤ 3700000 := by
        rw [HS2.out]
        have := cu_le y (k + 1 - 1)
        omega
      generalize md y k = L at *
      have hLS : L ≤ 3700000 := by omega
      clear c25 c26
      go_wp2_with (go_at_call 50; refine c.mono ?_; rintro e w' ⟨rfl, rfl⟩)
      go_roundg (m - (k + 1))
      case measure => omega
      case rel => exact ⟨k + 1, by simp, by omega, by omega, by omega, ⟨S + L, by simp, hS2, HS2⟩, rfl⟩
    · obtain rfl : k = m := by omega
      have hkI : ¬ ((k : Int) < (k : Int)) := by omega
      obtain rfl : S = N := HS.out.trans HE.out.symm
      go_wp2
      go_ret
      exact ⟨rfl, below_drewN HB.out _⟩

end Go.Proofs.YtfhapcnnalagjaaDoor
