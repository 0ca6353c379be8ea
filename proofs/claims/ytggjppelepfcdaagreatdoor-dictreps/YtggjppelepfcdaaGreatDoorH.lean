import Derived.Test.YtggjppelepfcdaaGreatDoorE
import Derived.Test.YtggjppelepfcdaaGreatDoorG
/-
  DERIVED. The program's padding.
-/
namespace Go.Proofs.YtggjppelepfcdaaGreatDoor
open Go Go.Proofs Go.RowKit

theorem trim_any (w : World) (v : Int) (s : ByteArray) (hs : s.size ≤ 140737488351232) : Calls Tryz.prog 15 #[.int .i64 v, .string s] w fun e w' => e = .returned (.string (if tx (vn v) then trimB s else s)) ∧ Below w.heap.size w w' := by
  have c13 := text_any w v
  have c36 := fun W => trimmed_any s W hs
  generalize trimB s = r at c36 ⊢
  cases ht : tx (vn v) with
  | true =>
    rw [ht] at c13
    clear ht
    go_enter Tryz.func15, Tryz.ntmps15
    go_wp2_with (first | (go_at_call 13; refine c13.mono ?_; rintro e W1 ⟨rfl, hb1⟩) | (go_at_call 36; refine (c36 _).mono ?_; rintro e W2 ⟨rfl, hb2⟩))
    go_ret
    exact ⟨rfl, hb1.trans (hb2.mono hb1.size)⟩
  | false =>
    rw [ht] at c13
    clear ht
    go_enter Tryz.func15, Tryz.ntmps15
    go_wp2_with (first | (go_at_call 13; refine c13.mono ?_; rintro e W1 ⟨rfl, hb1⟩) | fail)
    go_ret
    exact ⟨rfl, hb1⟩

theorem pd_two : ∀ k : Fin 29, pd k.val = 32 ∨ pd k.val = 0 := by decide +kernel

/-- A text, padded. -/
def padB (p : Int) (s : ByteArray) : ByteArray := if s.size % 2 = 0 then s else s ++ (if p = 32 then ⟨#[32]⟩ else ⟨#[0]⟩)

set_option maxRecDepth 100000 in
theorem pad_any (w : World) (v : Int) (s : ByteArray) (hs : s.size ≤ 140737488351232) : Calls Tryz.prog 17 #[.int .i64 v, .string s] w fun e w' => e = .returned (.string (padB (pd (vn v)) s)) ∧ Below w.heap.size w w' := by
  obtain ⟨cf, ff, hcf, hff, c⟩ := repOf_open w v
  have hp2 := pd_two ⟨vn v, vn_lt v⟩
  simp only at hp2
  generalize nm (vn v) = n at c
  generalize pd (vn v) = p at c hp2 ⊢
  generalize un (vn v) = u at c
  generalize mo (vn v) = m at c
  generalize tx (vn v) = t at c
  generalize ch (vn v) = c' at c
  generalize mu (vn v) = q at c
  generalize lo (vn v) = l at c
  generalize decide (1 ≤ v ∧ v ≤ 28) = b at c
  by_cases he : s.size % 2 = 0
  · have hP : padB p s = s := by unfold padB; rw [if_pos he]
    rw [hP]
    have hi : ((s.size : Int) % 2 == 0) = true := by simp; omega
    go_enter Tryz.func17, Tryz.ntmps17
    go_wp2
    go_ret
    exact ⟨rfl, Below.refl _ _⟩
  · have hP : padB p s = s ++ (if p = 32 then ⟨#[32]⟩ else ⟨#[0]⟩) := by unfold padB; rw [if_neg he]
    rw [hP]
    have hi : ((s.size : Int) % 2 == 0) = false := by simp; omega
    have e32 : Utf8.encode 32 = ⟨#[32]⟩ := by kernel_rfl
    have e0 : Utf8.encode 0 = ⟨#[0]⟩ := by kernel_rfl
    have hz : (⟨#[32]⟩ : ByteArray).size = 1 := rfl
    have hz0 : (⟨#[0]⟩ : ByteArray).size = 1 := rfl
    clear hP
    rcases hp2 with rfl | rfl <;> rcases hcf with rfl | ⟨j, rfl⟩ <;> rcases hff with rfl | ⟨j2, rfl⟩
    all_goals go_enter Tryz.func17, Tryz.ntmps17
    all_goals go_wp2_with (first | (go_at_call 32; refine c.mono ?_; rintro e W1 ⟨rfl, hb⟩) | fail)
    all_goals go_ret
    all_goals exact ⟨rfl, hb.alloc hb.size _⟩
end Go.Proofs.YtggjppelepfcdaaGreatDoor
