import Derived.Test.YtdggplhkeekdjaaGreatDoorCh
import Derived.Test.YtdggplhkeekdjaaGreatDoorRK
/-
  DERIVED. Faults in chains, held against each other.
-/
namespace Go.Proofs.YtdggplhkeekdjaaGreatDoor
open Go Go.Proofs Go.RowKit

structure StopF (p : Prop) : Prop where
  out : p
/-- Links lie there. -/
def LkAt (w : World) (g : Nat) (ls : List Lk) : Prop := ∀ i (h : i < ls.length), w.cell? ⟨g, i * 2, none⟩ = some (.string (ls[i]'h).1) ∧ w.cell? ⟨g, i * 2 + 1, none⟩ = some (.int .i64 (ls[i]'h).2)
theorem LkAt.on {w w' : World} {g : Nat} {ls : List Lk} (h : LkAt w g ls) (hb : Below w.heap.size w w') : LkAt w' g ls := fun i hi => ⟨(hb.cell (Rp.cell_lt (h i hi).1)).trans (h i hi).1, (hb.cell (Rp.cell_lt (h i hi).2)).trans (h i hi).2⟩
theorem lk_own {w : World} {base g n cap : Nat} {ls : List Lk} (h : w.ownsRow base 134 2 (.slice (some ⟨g, 0, none⟩) n cap) n (lkc ls)) (hn : n = ls.length) : LkAt w g ls := fun i hi => by
  have h1 := World.ownsRow.cellAt h
  exact ⟨(h1 (i * 2) (by omega)).trans (lkc_get ls i hi).1, (h1 (i * 2 + 1) (by omega)).trans (lkc_get ls i hi).2⟩

set_option maxRecDepth 100000 in
set_option maxHeartbeats 2000000 in
theorem same_chain (w : World) (ls : List Lk) (g h cg ch k : Nat) (c : Int) (hk : k = ls.length) (hs : k ≤ 100) (hg : LkAt w g ls) (hh : LkAt w h ls) :
    Calls Tryz.prog 29 #[.agg #[.slice (some ⟨g, 0, none⟩) k cg, .int .i64 c], .agg #[.slice (some ⟨h, 0, none⟩) k ch, .int .i64 c]] w fun e w' => e = .returned (.bool true) ∧ Hid (Below w.heap.size w w') := by
  have HG : Hid (LkAt w g ls) := hg
  have HH : Hid (LkAt w h ls) := hh
  have HK : Hid (k = ls.length) := hk
  clear hg hh hk
  obtain ⟨W1, hW1⟩ : ∃ W1, (w.alloc (.cells #[.slice (some ⟨g, 0, none⟩) k cg, .int .i64 c] 45)).alloc (.cells #[.slice (some ⟨h, 0, none⟩) k ch, .int .i64 c] 45) = W1 := ⟨_, rfl⟩
  have HB1 : Hid (Below w.heap.size w W1) := by rw [← hW1]; exact ((Below.refl _ _).alloc (Nat.le_refl _) _).alloc (by simp) _
  have a0 : W1.cell? ⟨w.heap.size, 0, none⟩ = some (.slice (some ⟨g, 0, none⟩) k cg) := by rw [← hW1]; simp
  have a1 : W1.cell? ⟨w.heap.size, 1, none⟩ = some (.int .i64 c) := by rw [← hW1]; simp
  have b0 : W1.cell? ⟨w.heap.size + 1, 0, none⟩ = some (.slice (some ⟨h, 0, none⟩) k ch) := by rw [← hW1]; simp
  have b1 : W1.cell? ⟨w.heap.size + 1, 1, none⟩ = some (.int .i64 c) := by rw [← hW1]; simp
  go_enter Tryz.func29, Tryz.ntmps29
  go_wp2
  clear hW1
  go_loopw [5] (fun x5 wr => ∃ i : Nat, x5 = .int .i64 (i : Int) ∧ i ≤ k ∧ ∃ m, wr = W1.drewN m) (fun x5 _ => 200 - (intOf x5).toNat)
  case atStart => exact ⟨0, rfl, by omega, 0, rfl⟩
  case round =>
    obtain ⟨i, rfl, hi, m, rfl⟩ := hrel
    by_cases hlt : i < k
    · have hltI : (i : Int) < (k : Int) := by omega
      have hil : i < ls.length := by rw [← HK.out]; exact hlt
      obtain ⟨x0, x1⟩ := HG.out.on HB1.out i hil
      obtain ⟨y0, y1⟩ := HH.out.on HB1.out i hil
      generalize ls[i]'hil = q at x0 x1 y0 y1
      go_wp2
      go_quiet (fail)
      go_wp2
      go_roundw
      case rel => exact ⟨i + 1, by go_num, by omega, _, rfl⟩
      case measure => simp [intOf]; omega
    · have hltI : ¬ (i : Int) < (k : Int) := by omega
      go_wp2
      go_ret
      exact ⟨rfl, Wk.below_drw HB1.out _⟩

set_option maxRecDepth 100000 in
set_option maxHeartbeats 2000000 in
theorem is_chain (w : World) (ls : List Lk) (c : Int) (v : Value) (g cg k : Nat) (h : Chain w ls c v) (hc : c ≠ 0) (hk : k = ls.length) (h1 : 0 < k) (h11 : k ≤ 11) (hg : LkAt w g ls) :
    Calls Tryz.prog 11 #[v, .agg #[.slice (some ⟨g, 0, none⟩) k cg, .int .i64 c]] w fun e w' => e = .returned (.bool true) ∧ Below w.heap.size w w' := by
  obtain ⟨W1, hW1⟩ : ∃ W1, w.alloc (.cells #[.slice (some ⟨g, 0, none⟩) k cg, .int .i64 c] 45) = W1 := ⟨_, rfl⟩
  have hb1 : Below w.heap.size w W1 := hW1 ▸ (Below.refl _ _).alloc (Nat.le_refl _) _
  have hs1 : w.heap.size < W1.heap.size := by rw [← hW1]; simp
  have a0 : W1.cell? ⟨w.heap.size, 0, none⟩ = some (.slice (some ⟨g, 0, none⟩) k cg) := by rw [← hW1]; simp
  have a1 : W1.cell? ⟨w.heap.size, 1, none⟩ = some (.int .i64 c) := by rw [← hW1]; simp
  have ht := told_any W1 ls c v (h.on hb1) hc (by omega) (by omega)
  rw [← hk] at ht
  have HG1 : Hid (LkAt W1 g ls) := hg.on hb1
  have HB1 : Hid (Below w.heap.size w W1) := hb1
  have HK : Hid (k = ls.length) := hk
  clear h hg hk hb1 hc
  go_enter Tryz.func11, Tryz.ntmps11
  go_wp2_with (go_at_call 28; refine StopF.out ?_)
  refine ⟨Calls.mono ht ?_⟩
  rintro e W2 ⟨g4, cap4, rfl, hb2, ho2⟩
  have e0 := (hb2.out.cell (p := ⟨w.heap.size, 0, none⟩) hs1).trans a0
  have e1 := (hb2.out.cell (p := ⟨w.heap.size, 1, none⟩) hs1).trans a1
  have hs2 : w.heap.size < W2.heap.size := Nat.lt_of_lt_of_le hs1 hb2.out.size
  have HG2 : Hid (LkAt W2 g ls) := HG1.out.on hb2.out
  have HL2 : Hid (LkAt W2 g4 ls) := lk_own ho2.out HK.out
  have HB2 : Hid (Below w.heap.size w W2) := HB1.out.trans (hb2.out.mono HB1.out.size)
  clear ht hb2 ho2 a0 a1 hW1
  have hb3 : Below W2.heap.size W2 (W2.alloc (.cells #[.slice (some ⟨g4, 0, none⟩) k cap4, .int .i64 c] 45)) := (Below.refl _ _).alloc (Nat.le_refl _) _
  have c27 := same_chain (W2.alloc (.cells #[.slice (some ⟨g4, 0, none⟩) k cap4, .int .i64 c] 45)) ls g g4 cg cap4 k c HK.out (by omega) (HG2.out.on hb3) (HL2.out.on hb3)
  go_wp2_with (go_at_call 29; refine StopF.out ?_)
  refine ⟨Calls.mono c27 ?_⟩
  rintro e W3 ⟨rfl, hb4⟩
  go_wp2
  go_ret
  exact ⟨rfl, HB2.out.trans ((hb3.trans (hb4.out.mono hb3.size)).mono HB2.out.size)⟩
end Go.Proofs.YtdggplhkeekdjaaGreatDoor
