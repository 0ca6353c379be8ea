import Derived.Test.YtoikdpjjcnmgeaaGreatDoorVf
import Derived.Test.YtoikdpjjcnmgeaaGreatDoorEc
/-
  DERIVED. Is nothing more in the innermost span?
-/
namespace Go.Proofs.YtoikdpjjcnmgeaaGreatDoor
open Go Go.Proofs Go.RowKit
open Wk (Nd nds)
open Go.Sort

theorem ahead {base : Nat} {w w' : World} (h : Below w.heap.size w w') (hb : base ≤ w.heap.size) : Below base w w' := h.mono hb
theorem PR.lt {base rb : Nat} {bv nv sv : Value} {W : World} {k : Nat} {M : List Nd} {st : List Sp} (h : PR base rb bv W k M st nv sv) : base ≤ W.heap.size := Nat.le_trans h.hb (Nat.le_of_lt (Rp.cell_lt h.c0))

set_option maxRecDepth 100000 in
set_option maxHeartbeats 2000000 in
theorem atEnd_any (w : World) (base rb : Nat) (a : Option Addr) (n cap k : Nat) (ys : List UInt8) (M : List Nd) (sp : Sp) (r : List Sp) (nv : Value) (g sc : Nat) (hP : PR base rb (.slice a n cap) w k M (sp :: r) nv (.slice (some ⟨g, 0, none⟩) (r.length + 1) sc)) (hV : BV base w a n cap ys) (hI : PI n k M (sp :: r)) :
    Calls Tryz.prog 58 #[.pointer (some ⟨rb, 0, none⟩), .pointer (some ⟨g, r.length * 6, none⟩)] w (AtP base rb (.slice a n cap) w k M (sp :: r) nv (.slice (some ⟨g, 0, none⟩) (r.length + 1) sc) (endS (srcS ys) k sp)) := by
  have hn := hV.s
  have hln := hI.ln
  simp only [List.length_cons] at hln
  obtain ⟨hk, hf⟩ := hI.le
  have hml : r.length ≤ 4000000 := by omega
  obtain ⟨s0, s1, s2, s3, s4, s5⟩ := hP.sc
  have c1 := hP.c1
  have c0 := hP.c0
  have CN := need_any w rb g r.length sc k sp.fin 8 hml hP.c1 hP.c3 s1 hk (by omega)
  obtain ⟨m, hm⟩ : ∃ m, r.length = m := ⟨_, rfl⟩
  obtain ⟨R, hR⟩ : ∃ R, endS (srcS ys) k sp = R := ⟨_, rfl⟩
  have HR : Hid _ := hR
  rw [hR]
  unfold endS at HR
  obtain ⟨node, fin, opn, it, ex, last⟩ := sp
  simp only at s1 s2 s3 hk hf CN HR
  clear hR
  rw [hm] at hP s0 s1 s2 s3 s4 s5 ⊢
  have HP : Hid _ := hP
  have HV : Hid _ := hV
  have k1 := fun d os => cell_regrown c1 d os
  have k2 := fun d os => cell_regrown s1 d os
  have k3 := fun d os => cell_regrown s2 d os
  have CB : Hid (8 ≤ fin - k → ∃ b off, a = some ⟨b, off, none⟩ ∧ ∀ W, Below w.heap.size w W → (∀ j, j < n → W.cell? ⟨b, off + j, none⟩ = some (.int .u8 (gB ys j : Int)))) := fun h8 => by
    obtain ⟨b, off, e, h1, h2⟩ := hV.at (by omega)
    exact ⟨b, off, e, fun W hb j hj => (hb.cell (Rp.cell_lt (h2 j hj))).trans (h2 j hj)⟩
  have hcn := hV.c
  have hsn := hV.s
  clear s0 s4 s5 hV hI
  cases opn with
  | false =>
    by_cases hkf : k = fin
    · have HR1 : Hid (R = .yes k) := by show _ = _; rw [← HR.out, if_pos ⟨rfl, hkf⟩]
      have b1 : ((k : Int) == (fin : Int)) = true := beq_iff_eq.2 (by omega)
      clear HR CN hkf hP
      go_enter Tryz.func58, Tryz.ntmps58
      go_wp2
      refine wp_region_quiet_below hmix (by kernel_rfl) ?_
      iterate 15 (quiet_step (fail))
      refine ShutQ.out ?_
      refine sq_pick (.tmp 10) (.tmp 19) (.const (.bool false)) true rfl (by kernel_rfl) (by kernel_rfl) ?_
      refine ⟨wpQuiet_nil ?_⟩
      intro _ hw'
      obtain ⟨⟨dq, osq⟩, hw''⟩ := hw'
      subst hw''
      have hbq := below_regrown w dq osq
      generalize grow (redrawn w dq) osq = W1 at hbq
      go_wp2
      go_ret
      rw [HR1.out]
      exact ⟨⟨rfl, HP.out.on hbq⟩, ahead hbq HP.out.lt⟩
    · have b1 : ((k : Int) == (fin : Int)) = false := beq_eq_false_iff_ne.2 (by omega)
      by_cases h8 : fin - k < 8
      · have HR1 : Hid (R = .bad 122) := by show _ = _; rw [← HR.out, if_neg (fun h => hkf h.2), if_pos h8]
        have CN2 : Hid (∀ W, Below w.heap.size w W → Calls Tryz.prog 89 #[.pointer (some ⟨rb, 0, none⟩), .int .i64 8] W (NeedP W k true)) := fun W hb => by
          have := need_any W rb g m sc k fin 8 (by omega) ((hb.cell (Rp.cell_lt hP.c1)).trans hP.c1) ((hb.cell (Rp.cell_lt hP.c3)).trans hP.c3) ((hb.cell (Rp.cell_lt s1)).trans s1) hk (by omega)
          rw [decide_eq_true h8] at this
          exact this
        clear HR CN hkf hP h8
        go_enter Tryz.func58, Tryz.ntmps58
        go_wp2
        refine wp_region_quiet_below hmix (by kernel_rfl) ?_
        iterate 15 (quiet_step (fail))
        refine ShutQ.out ?_
        refine sq_pick (.tmp 10) (.tmp 19) (.const (.bool false)) true rfl (by kernel_rfl) (by kernel_rfl) ?_
        refine ⟨wpQuiet_nil ?_⟩
        intro _ hw'
        obtain ⟨⟨dq, osq⟩, hw''⟩ := hw'
        subst hw''
        have hbq := below_regrown w dq osq
        generalize grow (redrawn w dq) osq = W1 at hbq
        go_wp2_with (go_at_call 89; refine StopV.out ?_)
        refine ⟨Calls.mono (CN2.out W1 hbq) ?_⟩
        rintro e W2 ⟨⟨q, rfl, hc⟩, hB⟩
        refine ⟨rfl, ?_⟩
        rw [HR1.out]
        exact ⟨⟨q, rfl, hc⟩, (ahead hbq HP.out.lt).trans (hB.mono (Nat.le_trans HP.out.lt hbq.size))⟩
      · have HR1 : Hid (R = .no) := by show _ = _; rw [← HR.out, if_neg (fun h => hkf h.2), if_neg h8, if_neg (fun h => by cases h.1)]
        have CN2 : Hid (∀ W, Below w.heap.size w W → Calls Tryz.prog 89 #[.pointer (some ⟨rb, 0, none⟩), .int .i64 8] W (NeedP W k false)) := fun W hb => by
          have := need_any W rb g m sc k fin 8 (by omega) ((hb.cell (Rp.cell_lt hP.c1)).trans hP.c1) ((hb.cell (Rp.cell_lt hP.c3)).trans hP.c3) ((hb.cell (Rp.cell_lt s1)).trans s1) hk (by omega)
          rw [decide_eq_false h8] at this
          exact this
        clear HR CN hkf hP h8
        go_enter Tryz.func58, Tryz.ntmps58
        go_wp2
        refine wp_region_quiet_below hmix (by kernel_rfl) ?_
        iterate 15 (quiet_step (fail))
        refine ShutQ.out ?_
        refine sq_pick (.tmp 10) (.tmp 19) (.const (.bool false)) true rfl (by kernel_rfl) (by kernel_rfl) ?_
        refine ⟨wpQuiet_nil ?_⟩
        intro _ hw'
        obtain ⟨⟨dq, osq⟩, hw''⟩ := hw'
        subst hw''
        have hbq := below_regrown w dq osq
        generalize grow (redrawn w dq) osq = W1 at hbq
        go_wp2_with (go_at_call 89; refine StopV.out ?_)
        refine ⟨Calls.mono (CN2.out W1 hbq) ?_⟩
        rintro e W2 ⟨he, hB⟩
        obtain rfl : e = .returned (.tuple #[]) := he
        have hB2 := hbq.trans (hB.mono hbq.size)
        have s22 := (hB2.cell (Rp.cell_lt s2)).trans s2
        go_wp2
        go_ret
        rw [HR1.out]
        exact ⟨⟨rfl, HP.out.on hB2⟩, ahead hB2 HP.out.lt⟩
  | true =>
    by_cases h8 : fin - k < 8
    · have HR1 : Hid (R = .bad 122) := by show _ = _; rw [← HR.out, if_neg (fun h => by cases h.1), if_pos h8]
      have CN2 : Hid (∀ W, Below w.heap.size w W → Calls Tryz.prog 89 #[.pointer (some ⟨rb, 0, none⟩), .int .i64 8] W (NeedP W k true)) := fun W hb => by
        have := need_any W rb g m sc k fin 8 (by omega) ((hb.cell (Rp.cell_lt hP.c1)).trans hP.c1) ((hb.cell (Rp.cell_lt hP.c3)).trans hP.c3) ((hb.cell (Rp.cell_lt s1)).trans s1) hk (by omega)
        rw [decide_eq_true h8] at this
        exact this
      clear HR CN hP h8
      go_enter Tryz.func58, Tryz.ntmps58
      go_wp2
      refine wp_region_quiet_below hmix (by kernel_rfl) ?_
      iterate 5 (quiet_step (fail))
      refine ShutQ.out ?_
      refine sq_move (.tmp 9) rfl (by kernel_rfl) ?_
      iterate 9 (refine sq_skip (by kernel_rfl) ?_)
      refine sq_pick (.tmp 10) (.tmp 19) (.const (.bool false)) false rfl (by kernel_rfl) (by kernel_rfl) ?_
      refine ⟨wpQuiet_nil ?_⟩
      intro _ hw'
      obtain ⟨⟨dq, osq⟩, hw''⟩ := hw'
      subst hw''
      have hbq := below_regrown w dq osq
      generalize grow (redrawn w dq) osq = W1 at hbq
      go_simp
      go_wp2_with (go_at_call 89; refine StopV.out ?_)
      refine ⟨Calls.mono (CN2.out W1 hbq) ?_⟩
      rintro e W2 ⟨⟨q, rfl, hc⟩, hB⟩
      refine ⟨rfl, ?_⟩
      rw [HR1.out]
      exact ⟨⟨q, rfl, hc⟩, (ahead hbq HP.out.lt).trans (hB.mono (Nat.le_trans HP.out.lt hbq.size))⟩
    · obtain ⟨b, off, rfl, HBY⟩ := CB.out (by omega)
      have CT : Hid (∀ W, Below w.heap.size w W → Calls Tryz.prog 90 #[.pointer (some ⟨rb, 0, none⟩)] W fun e w' => e = .returned (.int .u32 (tagS ys k : Int)) ∧ Below W.heap.size W w') := fun W hb => tag_any W rb b off n cap k ys (by omega) hcn hsn ((hb.cell (Rp.cell_lt c0)).trans c0) ((hb.cell (Rp.cell_lt c1)).trans c1) (HBY W hb)
      have CM : Hid (∀ W, Below w.heap.size w W → Calls Tryz.prog 92 #[.pointer (some ⟨rb, 0, none⟩), .int .i64 4, .int .i64 4] W fun e w' => e = .returned (.int .u32 (numS ys (k + 4) : Int)) ∧ W = w') := fun W hb => number4_any W rb b off n cap k 4 ys (by omega) hcn hsn ((hb.cell (Rp.cell_lt c0)).trans c0) ((hb.cell (Rp.cell_lt c1)).trans c1) (HBY W hb)
      have CG : Hid (∀ W, Below w.heap.size w W → Calls Tryz.prog 93 #[.pointer (some ⟨rb, 0, none⟩), .int .i64 125] W fun e w' => Hid (Pan w' k 125 e) ∧ Hid (Below W.heap.size W w')) := fun W hb => giveUp_any W rb k 125 ((hb.cell (Rp.cell_lt c1)).trans c1)
      have CN2 : Hid (∀ W, Below w.heap.size w W → Calls Tryz.prog 89 #[.pointer (some ⟨rb, 0, none⟩), .int .i64 8] W (NeedP W k false)) := fun W hb => by
        have := need_any W rb g m sc k fin 8 (by omega) ((hb.cell (Rp.cell_lt hP.c1)).trans hP.c1) ((hb.cell (Rp.cell_lt hP.c3)).trans hP.c3) ((hb.cell (Rp.cell_lt s1)).trans s1) hk (by omega)
        rw [decide_eq_false h8] at this
        exact this
      have HR2 : Hid _ := (if_neg h8).symm.trans ((if_neg (fun h : true = false ∧ k = fin => by cases h.1)).symm.trans HR.out)
      clear HR CN hP h8 CB HBY
      have HR3 : Hid ((if (true = true ∧ tagS ys k = mark it) then (if numS ys (k + 4) ≠ 0 then EndR.bad 125 else .yes (k + 8)) else .no) = R) := HR2.out
      clear HR2
      generalize tagS ys k = T at CT HR3
      generalize numS ys (k + 4) = Z at CM HR3
      by_cases hT : T = mark it
      · have b1 : ((T : Int) != (mark it : Int)) = false := by rw [hT]; simp
        rw [if_pos ⟨rfl, hT⟩] at HR3
        clear hT
        by_cases hZ : Z = 0
        · have HR1 : Hid (R = .yes (k + 8)) := by show _ = _; rw [← HR3.out, if_neg (by omega)]
          subst hZ
          clear HR3
          go_enter Tryz.func58, Tryz.ntmps58
          go_wp2
          refine wp_region_quiet_below hmix (by kernel_rfl) ?_
          iterate 5 (quiet_step (fail))
          refine ShutQ.out ?_
          refine sq_move (.tmp 9) rfl (by kernel_rfl) ?_
          iterate 9 (refine sq_skip (by kernel_rfl) ?_)
          refine sq_pick (.tmp 10) (.tmp 19) (.const (.bool false)) false rfl (by kernel_rfl) (by kernel_rfl) ?_
          refine ⟨wpQuiet_nil ?_⟩
          intro _ hw'
          obtain ⟨⟨dq, osq⟩, hw''⟩ := hw'
          subst hw''
          have hbq := below_regrown w dq osq
          generalize grow (redrawn w dq) osq = W1 at hbq
          go_simp
          go_wp2_with (go_at_call 89; refine StopV.out ?_)
          refine ⟨Calls.mono (CN2.out W1 hbq) ?_⟩
          rintro e W2 ⟨he, hB⟩
          obtain rfl : e = .returned (.tuple #[]) := he
          have hB2 := hbq.trans (hB.mono hbq.size)
          have s22 := (hB2.cell (Rp.cell_lt s2)).trans s2
          have s32 := (hB2.cell (Rp.cell_lt s3)).trans s3
          go_wp2_with (go_at_call 90; refine StopV.out ?_)
          refine ⟨Calls.mono (CT.out W2 hB2) ?_⟩
          rintro e W3 ⟨rfl, hB3⟩
          have hB4 := hB2.trans (hB3.mono hB2.size)
          have s33 := (hB4.cell (Rp.cell_lt s3)).trans s3
          go_wp2_with (go_at_call 91; refine StopV.out ?_)
          refine ⟨Calls.mono (mark_any W3 g m it s33) ?_⟩
          rintro e W4 ⟨rfl, rfl⟩
          go_wp2_with (go_at_call 92; refine StopV.out ?_)
          refine ⟨Calls.mono (CM.out _ hB4) ?_⟩
          rintro e W5 ⟨rfl, rfl⟩
          have c11 := (hB4.cell (Rp.cell_lt c1)).trans c1
          have hz := (HP.out.on hB4).fz 1
          have hw8 : IntKind.i64.wrap ((k : Int) + 8) = ((k + 8 : Nat) : Int) := by rw [IntKind.wrap_i64]; omega
          go_wp2
          go_ret
          rw [HR1.out]
          exact ⟨⟨rfl, (HP.out.on hB4).setAt (k + 8)⟩, (ahead hB4 HP.out.lt).setCell (p := ⟨rb, 1, none⟩) HP.out.hb _⟩
        · have HR1 : Hid (R = .bad 125) := by show _ = _; rw [← HR3.out, if_pos hZ]
          have b2 : ((Z : Int) != 0) = true := bne_iff_ne.2 (by omega)
          clear HR3 hZ
          go_enter Tryz.func58, Tryz.ntmps58
          go_wp2
          refine wp_region_quiet_below hmix (by kernel_rfl) ?_
          iterate 5 (quiet_step (fail))
          refine ShutQ.out ?_
          refine sq_move (.tmp 9) rfl (by kernel_rfl) ?_
          iterate 9 (refine sq_skip (by kernel_rfl) ?_)
          refine sq_pick (.tmp 10) (.tmp 19) (.const (.bool false)) false rfl (by kernel_rfl) (by kernel_rfl) ?_
          refine ⟨wpQuiet_nil ?_⟩
          intro _ hw'
          obtain ⟨⟨dq, osq⟩, hw''⟩ := hw'
          subst hw''
          have hbq := below_regrown w dq osq
          generalize grow (redrawn w dq) osq = W1 at hbq
          go_simp
          go_wp2_with (go_at_call 89; refine StopV.out ?_)
          refine ⟨Calls.mono (CN2.out W1 hbq) ?_⟩
          rintro e W2 ⟨he, hB⟩
          obtain rfl : e = .returned (.tuple #[]) := he
          have hB2 := hbq.trans (hB.mono hbq.size)
          have s22 := (hB2.cell (Rp.cell_lt s2)).trans s2
          have s32 := (hB2.cell (Rp.cell_lt s3)).trans s3
          go_wp2_with (go_at_call 90; refine StopV.out ?_)
          refine ⟨Calls.mono (CT.out W2 hB2) ?_⟩
          rintro e W3 ⟨rfl, hB3⟩
          have hB4 := hB2.trans (hB3.mono hB2.size)
          have s33 := (hB4.cell (Rp.cell_lt s3)).trans s3
          go_wp2_with (go_at_call 91; refine StopV.out ?_)
          refine ⟨Calls.mono (mark_any W3 g m it s33) ?_⟩
          rintro e W4 ⟨rfl, rfl⟩
          go_wp2_with (go_at_call 92; refine StopV.out ?_)
          refine ⟨Calls.mono (CM.out _ hB4) ?_⟩
          rintro e W5 ⟨rfl, rfl⟩
          go_wp2_with (go_at_call 93; refine StopV.out ?_)
          refine ⟨Calls.mono (CG.out _ hB4) ?_⟩
          rintro e W6 ⟨⟨q, rfl, hc⟩, hB6⟩
          refine ⟨rfl, ?_⟩
          rw [HR1.out]
          exact ⟨⟨q, rfl, hc⟩, (ahead hB4 HP.out.lt).trans (hB6.out.mono (Nat.le_trans HP.out.lt hB4.size))⟩
      · have b1 : ((T : Int) != (mark it : Int)) = true := bne_iff_ne.2 (by omega)
        have HR1 : Hid (R = .no) := by show _ = _; rw [← HR3.out, if_neg (fun h => hT h.2)]
        clear HR3 hT
        go_enter Tryz.func58, Tryz.ntmps58
        go_wp2
        refine wp_region_quiet_below hmix (by kernel_rfl) ?_
        iterate 5 (quiet_step (fail))
        refine ShutQ.out ?_
        refine sq_move (.tmp 9) rfl (by kernel_rfl) ?_
        iterate 9 (refine sq_skip (by kernel_rfl) ?_)
        refine sq_pick (.tmp 10) (.tmp 19) (.const (.bool false)) false rfl (by kernel_rfl) (by kernel_rfl) ?_
        refine ⟨wpQuiet_nil ?_⟩
        intro _ hw'
        obtain ⟨⟨dq, osq⟩, hw''⟩ := hw'
        subst hw''
        have hbq := below_regrown w dq osq
        generalize grow (redrawn w dq) osq = W1 at hbq
        go_simp
        go_wp2_with (go_at_call 89; refine StopV.out ?_)
        refine ⟨Calls.mono (CN2.out W1 hbq) ?_⟩
        rintro e W2 ⟨he, hB⟩
        obtain rfl : e = .returned (.tuple #[]) := he
        have hB2 := hbq.trans (hB.mono hbq.size)
        have s22 := (hB2.cell (Rp.cell_lt s2)).trans s2
        have s32 := (hB2.cell (Rp.cell_lt s3)).trans s3
        go_wp2_with (go_at_call 90; refine StopV.out ?_)
        refine ⟨Calls.mono (CT.out W2 hB2) ?_⟩
        rintro e W3 ⟨rfl, hB3⟩
        have hB4 := hB2.trans (hB3.mono hB2.size)
        have s33 := (hB4.cell (Rp.cell_lt s3)).trans s3
        go_wp2_with (go_at_call 91; refine StopV.out ?_)
        refine ⟨Calls.mono (mark_any W3 g m it s33) ?_⟩
        rintro e W4 ⟨rfl, rfl⟩
        go_wp2
        go_ret
        rw [HR1.out]
        exact ⟨⟨rfl, HP.out.on hB4⟩, ahead hB4 HP.out.lt⟩
end Go.Proofs.YtoikdpjjcnmgeaaGreatDoor
