import Derived.Test.YtnheeenkdjmhoaaDoorIk
import Derived.Test.YtnheeenkdjmhoaaDoorIj
/-
  DERIVED. The law of Splits.
-/
namespace Go.Proofs.YtnheeenkdjmhoaaDoor
open Go Go.Proofs Go.RowKit Go.Sort

set_option maxRecDepth 100000 in
set_option maxHeartbeats 4000000 in
theorem splits_law (w : World) (tx mk pc : ByteArray) (h1 : tx.size ≤ 16000000) (h2 : pc.size ≤ 16000000) (hg : Glob w) :
    Calls Tryd.prog 4 #[.string tx, .string mk, .string pc] w fun e w' => e = .returned (.bool true) ∧ Below w.heap.size w w' := by
  obtain ⟨o1, L, hs⟩ := spl_is (tl tx)
  obtain ⟨o2, out, hp⟩ := pl_is (tl mk) (tl pc)
  have z1 : ∀ a c, o1 = some (a, c) → (c != 0) = true := by
    cases hs <;> (intro a c hh; cases hh; try rfl)
  have z2 : ∀ a c, o2 = some (a, c) → (c != 0) = true := by
    cases hp <;> (intro a c hh; cases hh; try rfl)
  go_enter Tryd.func4, Tryd.ntmps4
  go_wp2_with (go_at_call 10; refine StopF.out ?_)
  refine StopF.mk ((Split_any w tx h1 o1 L hs).mono ?_)
  rintro e W1 ⟨v1, u1, rfl, sa1, pe1, b1⟩
  go_wp2_with (go_at_call 12; refine StopF.out ?_)
  refine StopF.mk ((splitR_any W1 tx h1 o1 L hs).mono ?_)
  rintro e W2 ⟨v2, u2, rfl, sa2, re1, b2⟩
  obtain ⟨ga, gn, gp, ge, rfl⟩ := re1.form
  obtain ⟨W3, hW3⟩ : ∃ W3, W2.alloc (.cells #[.slice ga gn gp, .int .i64 ge] 44) = W3 := ⟨_, rfl⟩
  have b3 : Below W2.heap.size W2 W3 := hW3 ▸ (Below.refl _ _).alloc (Nat.le_refl _) _
  have y0 : W3.cell? ⟨W2.heap.size, 0, none⟩ = some (.slice ga gn gp) := by rw [← hW3]; simp
  have y1 : W3.cell? ⟨W2.heap.size, 1, none⟩ = some (.int .i64 ge) := by rw [← hW3]; simp
  have B3 : Hid (Below w.heap.size w W3) := (b1.trans (b2.mono b1.size)).trans (b3.mono (Nat.le_trans b1.size b2.size))
  have SA1 : Hid (SegsAt W3 (w.heap.size + 1) v1 L) := (sa1.on b2).on b3
  have SA2 : Hid (SegsAt W3 (W1.heap.size + 1) v2 L) := sa2.on b3
  have PE1 : Hid (PErr W3 u1 o1) := (pe1.next b2).next b3
  have RE1 : Hid (RErr W3 (.agg #[.slice ga gn gp, .int .i64 ge]) o1) := re1.next b3
  have HG3 : Hid (Glob W3) := hg.on B3.out
  have Y0 : Hid (W3.cell? ⟨W2.heap.size, 0, none⟩ = some (.slice ga gn gp)) := y0
  have Y1 : Hid (W3.cell? ⟨W2.heap.size, 1, none⟩ = some (.int .i64 ge)) := y1
  obtain ⟨A1, hA1⟩ : ∃ A, W2.heap.size = A := ⟨_, rfl⟩
  rw [hA1] at Y0 Y1
  clear sa1 sa2 pe1 re1 b1 b2 b3 y0 y1
  go_wp2_with (go_at_call 11; refine StopF.out ?_)
  clear hW3
  refine StopF.mk ((Plain_any W3 mk pc h2 HG3.out o2 out hp).mono ?_)
  rintro e W4 ⟨u3, rfl, pe2, b4⟩
  go_wp2_with (go_at_call 13; refine StopF.out ?_)
  refine StopF.mk ((plainR_any W4 mk pc h2 o2 out hp).mono ?_)
  rintro e W5 ⟨u4, rfl, re2, b5⟩
  obtain ⟨fa, fn, fp, fe, rfl⟩ := re2.form
  obtain ⟨W6, hW6⟩ : ∃ W6, W5.alloc (.cells #[.slice fa fn fp, .int .i64 fe] 44) = W6 := ⟨_, rfl⟩
  have b6 : Below W5.heap.size W5 W6 := hW6 ▸ (Below.refl _ _).alloc (Nat.le_refl _) _
  have y0 : W6.cell? ⟨W5.heap.size, 0, none⟩ = some (.slice fa fn fp) := by rw [← hW6]; simp
  have y1 : W6.cell? ⟨W5.heap.size, 1, none⟩ = some (.int .i64 fe) := by rw [← hW6]; simp
  have b36 : Below W3.heap.size W3 W6 := (b4.trans (b5.mono b4.size)).trans (b6.mono (Nat.le_trans b4.size b5.size))
  have B6 : Hid (Below w.heap.size w W6) := B3.out.trans (b36.mono B3.out.size)
  have SB1 : Hid (SegsAt W6 (w.heap.size + 1) v1 L) := SA1.out.on b36
  have SB2 : Hid (SegsAt W6 (W1.heap.size + 1) v2 L) := SA2.out.on b36
  have PF1 : Hid (PErr W6 u1 o1) := PE1.out.next b36
  have RF1 : Hid (RErr W6 (.agg #[.slice ga gn gp, .int .i64 ge]) o1) := RE1.out.next b36
  have PF2 : Hid (PErr W6 u3 o2) := (pe2.next b5).next b6
  have RF2 : Hid (RErr W6 (.agg #[.slice fa fn fp, .int .i64 fe]) o2) := re2.next b6
  have x0 := carryC Y0.out b36
  have x1 := carryC Y1.out b36
  have hsm := same_any W6 v1 v2 L SB1.out.lens.1 SB1.out.lens.2 SB1.out.rd SB2.out.rd
  have X0 : Hid (W6.cell? ⟨A1, 0, none⟩ = some (.slice ga gn gp)) := x0
  have X1 : Hid (W6.cell? ⟨A1, 1, none⟩ = some (.int .i64 ge)) := x1
  obtain ⟨A2, hA2⟩ : ∃ A, W5.heap.size = A := ⟨_, rfl⟩
  have X2 : Hid (W6.cell? ⟨A2, 0, none⟩ = some (.slice fa fn fp)) := hA2 ▸ y0
  have X3 : Hid (W6.cell? ⟨A2, 1, none⟩ = some (.int .i64 fe)) := hA2 ▸ y1
  clear x0 x1 y0 y1 pe2 re2 b4 b5 b6 b36 SA1 SA2 PE1 RE1 Y0 Y1 B3 HG3 hg hs hp
  go_wp2_with (go_at_call 14; refine StopF.out ?_)
  clear hW6
  refine StopF.mk (hsm.mono ?_)
  rintro e W7 ⟨rfl, m, rfl⟩
  clear hsm
  have b7 : Below W6.heap.size W6 (W6.drewN m) := below_drewN _ _
  have B7 : Hid (Below w.heap.size w (W6.drewN m)) := B6.out.trans (b7.mono B6.out.size)
  have PG1 : Hid (PErr (W6.drewN m) u1 o1) := PF1.out.next b7
  have RG1 : Hid (RErr (W6.drewN m) (.agg #[.slice ga gn gp, .int .i64 ge]) o1) := RF1.out.next b7
  have PG2 : Hid (PErr (W6.drewN m) u3 o2) := PF2.out.next b7
  have RG2 : Hid (RErr (W6.drewN m) (.agg #[.slice fa fn fp, .int .i64 fe]) o2) := RF2.out.next b7
  have c0 := carryC X0.out b7
  have c1 := carryC X1.out b7
  have C2 : Hid ((W6.drewN m).cell? ⟨A2, 0, none⟩ = some (.slice fa fn fp)) := carryC X2.out b7
  have C3 : Hid ((W6.drewN m).cell? ⟨A2, 1, none⟩ = some (.int .i64 fe)) := carryC X3.out b7
  clear PF1 PF2 RF1 RF2 X0 X1 X2 X3 SB1 SB2 B6 b7
  generalize W6.drewN m = W7 at *
  go_wp2_with (go_at_call 15; refine StopF.out ?_)
  refine StopF.mk ((is_yes PG1.out RG1.out z1).mono ?_)
  rintro e W8 ⟨rfl, b8⟩
  have B8 : Hid (Below w.heap.size w W8) := B7.out.trans (b8.mono B7.out.size)
  have PH2 : Hid (PErr W8 u3 o2) := PG2.out.next b8
  have RH2 : Hid (RErr W8 (.agg #[.slice fa fn fp, .int .i64 fe]) o2) := RG2.out.next b8
  have c2 := carryC C2.out b8
  have c3 := carryC C3.out b8
  clear c0 c1 C2 C3 b8 PG1 PG2 RG1 RG2
  go_wp2_with (go_at_call 15; refine StopF.out ?_)
  refine StopF.mk ((is_yes PH2.out RH2.out z2).mono ?_)
  rintro e W9 ⟨rfl, b9⟩
  have B9 : Hid (Below w.heap.size w W9) := B8.out.trans (b9.mono B8.out.size)
  clear b9 c2 c3
  go_wp2
  exact bodyPost_ret (v := .bool true) (by simp [results, Tryd.results4, go_sem]) rfl ⟨rfl, B9.out⟩
end Go.Proofs.YtnheeenkdjmhoaaDoor
