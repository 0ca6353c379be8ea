import Derived.Test.YtfoodjhffehgpaaGreatDoorVf
import Derived.Test.YtfoodjhffehgpaaGreatDoorEc
section
/-
  DERIVED. Is nothing more in the innermost span?
-/
namespace Go.Proofs.YtfoodjhffehgpaaGreatDoor
open Go Go.Proofs Go.RowKit
open Wk (Nd nds)
open Go.Sort

theorem ahead {base : Nat} {w w' : World} (h : Below w.heap.size w w') (hb : base ≤ w.heap.size) : Below base w w' := h.mono hb
theorem PR.lt {base rb : Nat} {bv nv sv : Value} {W : World} {k : Nat} {M : List Nd} {st : List Sp} (h : PR base rb bv W k M st nv sv) : base ≤ W.heap.size := Nat.le_trans h.hb (Nat.le_of_lt (Rp.cell_lt h.c0))

set_option maxRecDepth 100000 in
set_option maxHeartbeats 2000000 in
theorem atEnd_any (w : World) (base rb : Nat) (a : Option Addr) (n cap k : Nat) (ys : List UInt8) (M : List Nd) (sp : Sp) (r : List Sp) (nv : Value) (g sc : Nat) (hP : PR base rb (.slice a n cap) w k M (sp :: r) nv (.slice (some ⟨g, 0, none⟩) (r.length + 1) sc)) (hV : BV base w a n cap ys) (hI : PI n k M (sp :: r)) :
    Calls Tryz.prog 44 #[.pointer (some ⟨rb, 0, none⟩), .pointer (some ⟨g, r.length * 6, none⟩)] w (AtP base rb (.slice a n cap) w k M (sp :: r) nv (.slice (some ⟨g, 0, none⟩) (r.length + 1) sc) (endS (srcS ys) k sp)) := by
  have hn := hV.s
  have hln := hI.ln
  simp only [List.length_cons] at hln
  obtain ⟨hk, hf⟩ := hI.le
  have hml : r.length ≤ 4000000 := by omega
  obtain ⟨s0, s1, s2, s3, s4, s5⟩ := hP.sc
  have c1 := hP.c1
  have c0 := hP.c0
  have CN := need_any w rb g r.length sc k sp.fin 8 hml hP.c1 hP.c3 s1 hk (by omega)
  obtain ⟨m, hm⟩ : ∃ m, r.length = m := ⟨_, rfl⟩
  obtain ⟨R, hR⟩ : ∃ R, endS (srcS ys) k sp = R := ⟨_, rfl⟩
  have HR : Hid _ := hR
  rw [hR]
  unfold endS at HR
  obtain ⟨node, fin, opn, it, ex, last⟩ := sp
  simp only at s1 s2 s3 hk hf CN HR
  clear hR
  rw [hm] at hP s0 s1 s2 s3 s4 s5 ⊢
  have HP : Hid _ := hP
  have HV : Hid _ := hV
  have k1 := fun d os => cell_regrown c1 d os
  have k2 := fun d os => cell_regrown s1 d os
  have k3 := fun d os => cell_regrown s2 d os
  have CB : Hid (8 ≤ fin - k → ∃ b off, a = some ⟨b, off, none⟩ ∧ ∀ W, Below w.heap.size w W → (∀ j, j < n → W.cell? ⟨b, off + j, none⟩ = some (.int .u8 (gB ys j : Int)))) := fun h8 => by
    obtain ⟨b, off, e, h1, h2⟩ := hV.at (by omega)
    exact ⟨b, off, e, fun W hb j hj => (hb.cell (Rp.cell_lt (h2 j hj))).trans (h2 j hj)⟩
  have hcn := hV.c
  have hsn := hV.s
  clear s0 s4 s5 hV hI
  cases opn with
  | false =>
    by_cases hkf : k = fin
    · have HR1 : Hid (R = .yes k) := by show _ = _; rw [← HR.out, if_pos ⟨rfl, hkf⟩]
      have b1 : ((k : Int) == (fin : Int)) = true := beq_iff_eq.2 (by omega)
      clear HR CN hkf hP
      go_enter Tryz.func44, Tryz.ntmps44
      go_wp2
      refine wp_region_quiet_below hmix (by kernel_rfl) ?_
      iterate 15 (quiet_step (fail))
      refine ShutQ.out ?_
      refine sq_pick (.tmp 10) (.tmp 19) (.const (.bool false)) true rfl (by kernel_rfl) (by kernel_rfl) ?_
      refine ⟨wpQuiet_nil ?_⟩
      intro _ hw'
      obtain ⟨⟨dq, osq⟩, hw''⟩ := hw'
      subst hw''
      have hbq := below_regrown w dq osq
      generalize grow (redrawn w dq) osq = W1 at hbq
      go_wp2
      go_ret
      rw [HR1.out]
      exact ⟨⟨rfl, HP.out.on hbq⟩, ahead hbq HP.out.lt⟩
    · have b1 : ((k : Int) == (fin : Int)) = false := beq_eq_false_iff_ne.2 (by omega)
      by_cases h8 : fin - k < 8
      · have HR1 : Hid (R = .bad 122) := by show _ = _; rw [← HR.out, if_neg (fun h => hkf h.2), if_pos h8]
        have CN2 : Hid (∀ W, Below w.heap.size w W → Calls Tryz.prog 61 #[.pointer (some ⟨rb, 0, none⟩), .int .i64 8] W (NeedP W k true)) := fun W hb => by
          have := need_any W rb g m sc k fin 8 (by omega) ((hb.cell (Rp.cell_lt hP.c1)).trans hP.c1) ((hb.cell (Rp.cell_lt hP.c3)).trans hP.c3) ((hb.cell (Rp.cell_lt s1)).trans s1) hk (by omega)
          rw [decide_eq_true h8] at this
          exact this
        clear HR CN hkf hP h8
        go_enter Tryz.func44, Tryz.ntmps44
        go_wp2
        refine wp_region_quiet_below hmix (by kernel_rfl) ?_
        iterate 15 (quiet_step (fail))
        refine ShutQ.out ?_
        refine sq_pick (.tmp 10) (.tmp 19) (.const (.bool false)) true rfl (by kernel_rfl) (by kernel_rfl) ?_
        refine ⟨wpQuiet_nil ?_⟩
        intro _ hw'
        obtain ⟨⟨dq, osq⟩, hw''⟩ := hw'
        subst hw''
        have hbq := below_regrown w dq osq
        generalize grow (redrawn w dq) osq = W1 at hbq
        go_wp2_with (go_at_call 61; refine StopV.out ?_)
        refine ⟨Calls.mono (CN2.out W1 hbq) ?_⟩
        rintro e W2 ⟨⟨q, rfl, hc⟩, hB⟩
        refine ⟨rfl, ?_⟩
        rw [HR1.out]
        exact ⟨⟨q, rfl, hc⟩, (ahead hbq HP.out.lt).trans (hB.mono (Nat.le_trans HP.out.lt hbq.size))⟩
      · have HR1 : Hid (R = .no) := by show _ = _; rw [← HR.out, if_neg (fun h => hkf h.2), if_neg h8, if_neg (fun h => by cases h.1)]
        have CN2 : Hid (∀ W, Below w.heap.size w W → Calls Tryz.prog 61 #[.pointer (some ⟨rb, 0, none⟩), .int .i64 8] W (NeedP W k false)) := fun W hb => by
          have := need_any W rb g m sc k fin 8 (by omega) ((hb.cell (Rp.cell_lt hP.c1)).trans hP.c1) ((hb.cell (Rp.cell_lt hP.c3)).trans hP.c3) ((hb.cell (Rp.cell_lt s1)).trans s1) hk (by omega)
          rw [decide_eq_false h8] at this
          exact this
        clear HR CN hkf hP h8
        go_enter Tryz.func44, Tryz.ntmps44
        go_wp2
        refine wp_region_quiet_below hmix (by kernel_rfl) ?_
        iterate 15 (quiet_step (fail))
        refine ShutQ.out ?_
        refine sq_pick (.tmp 10) (.tmp 19) (.const (.bool false)) true rfl (by kernel_rfl) (by kernel_rfl) ?_
        refine ⟨wpQuiet_nil ?_⟩
        intro _ hw'
        obtain ⟨⟨dq, osq⟩, hw''⟩ := hw'
        subst hw''
        have hbq := below_regrown w dq osq
        generalize grow (redrawn w dq) osq = W1 at hbq
        go_wp2_with (go_at_call 61; refine StopV.out ?_)
        refine ⟨Calls.mono (CN2.out W1 hbq) ?_⟩
        rintro e W2 ⟨he, hB⟩
        obtain rfl : e = .returned (.tuple #[]) := he
        have hB2 := hbq.trans (hB.mono hbq.size)
        have s22 := (hB2.cell (Rp.cell_lt s2)).trans s2
        go_wp2
        go_ret
        rw [HR1.out]
        exact ⟨⟨rfl, HP.out.on hB2⟩, ahead hB2 HP.out.lt⟩
  | true =>
    by_cases h8 : fin - k < 8
    · have HR1 : Hid (R = .bad 122) := by show _ = _; rw [← HR.out, if_neg (fun h => by cases h.1), if_pos h8]
      have CN2 : Hid (∀ W, Below w.heap.size w W → Calls Tryz.prog 61 #[.pointer (some ⟨rb, 0, none⟩), .int .i64 8] W (NeedP W k true)) := fun W hb => by
        have := need_any W rb g m sc k fin 8 (by omega) ((hb.cell (Rp.cell_lt hP.c1)).trans hP.c1) ((hb.cell (Rp.cell_lt hP.c3)).trans hP.c3) ((hb.cell (Rp.cell_lt s1)).trans s1) hk (by omega)
        rw [decide_eq_true h8] at this
        exact this
      clear HR CN hP h8
      go_enter Tryz.func44, Tryz.ntmps44
      go_wp2
      refine wp_region_quiet_below hmix (by kernel_rfl) ?_
      iterate 5 (quiet_step (fail))
      refine ShutQ.out ?_
      refine sq_move (.tmp 9) rfl (by kernel_rfl) ?_
      iterate 9 (refine sq_skip (by kernel_rfl) ?_)
      refine sq_pick (.tmp 10) (.tmp 19) (.const (.bool false)) false rfl (by kernel_rfl) (by kernel_rfl) ?_
      refine ⟨wpQuiet_nil ?_⟩
      intro _ hw'
      obtain ⟨⟨dq, osq⟩, hw''⟩ := hw'
      subst hw''
      have hbq := below_regrown w dq osq
      generalize grow (redrawn w dq) osq = W1 at hbq
      go_simp
      go_wp2_with (go_at_call 61; refine StopV.out ?_)
      refine ⟨Calls.mono (CN2.out W1 hbq) ?_⟩
      rintro e W2 ⟨⟨q, rfl, hc⟩, hB⟩
      refine ⟨rfl, ?_⟩
      rw [HR1.out]
      exact ⟨⟨q, rfl, hc⟩, (ahead hbq HP.out.lt).trans (hB.mono (Nat.le_trans HP.out.lt hbq.size))⟩
    · obtain ⟨b, off, rfl, HBY⟩ := CB.out (by omega)
      have CT : Hid (∀ W, Below w.heap.size w W → Calls Tryz.prog 62 #[.pointer (some ⟨rb, 0, none⟩)] W fun e w' => e = .returned (.int .u32 (tagS ys k : Int)) ∧ Below W.heap.size W w') := fun W hb => tag_any W rb b off n cap k ys (by omega) hcn hsn ((hb.cell (Rp.cell_lt c0)).trans c0) ((hb.cell (Rp.cell_lt c1)).trans c1) (HBY W hb)
      have CM : Hid (∀ W, Below w.heap.size w W → Calls Tryz.prog 64 #[.pointer (some ⟨rb, 0, none⟩), .int .i64 4, .int .i64 4] W fun e w' => e = .returned (.int .u32 (numS ys (k + 4) : Int)) ∧ W = w') := fun W hb => number4_any W rb b off n cap k 4 ys (by omega) hcn hsn ((hb.cell (Rp.cell_lt c0)).trans c0) ((hb.cell (Rp.cell_lt c1)).trans c1) (HBY W hb)
      have CG : Hid (∀ W, Below w.heap.size w W → Calls Tryz.prog 65 #[.pointer (some ⟨rb, 0, none⟩), .int .i64 125] W fun e w' => Hid (Pan w' k 125 e) ∧ Hid (Below W.heap.size W w')) := fun W hb => giveUp_any W rb k 125 ((hb.cell (Rp.cell_lt c1)).trans c1)
      have CN2 : Hid (∀ W, Below w.heap.size w W → Calls Tryz.prog 61 #[.pointer (some ⟨rb, 0, none⟩), .int .i64 8] W (NeedP W k false)) := fun W hb => by
        have := need_any W rb g m sc k fin 8 (by omega) ((hb.cell (Rp.cell_lt hP.c1)).trans hP.c1) ((hb.cell (Rp.cell_lt hP.c3)).trans hP.c3) ((hb.cell (Rp.cell_lt s1)).trans s1) hk (by omega)
        rw [decide_eq_false h8] at this
        exact this
      have HR2 : Hid _ := (if_neg h8).symm.trans ((if_neg (fun h : true = false ∧ k = fin => by cases h.1)).symm.trans HR.out)
      clear HR CN hP h8 CB HBY
      have HR3 : Hid ((if (true = true ∧ tagS ys k = mark it) then (if numS ys (k + 4) ≠ 0 then EndR.bad 125 else .yes (k + 8)) else .no) = R) := HR2.out
      clear HR2
      generalize tagS ys k = T at CT HR3
      generalize numS ys (k + 4) = Z at CM HR3
      by_cases hT : T = mark it
      · have b1 : ((T : Int) != (mark it : Int)) = false := by rw [hT]; simp
        rw [if_pos ⟨rfl, hT⟩] at HR3
        clear hT
        by_cases hZ : Z = 0
        · have HR1 : Hid (R = .yes (k + 8)) := by show _ = _; rw [← HR3.out, if_neg (by omega)]
          subst hZ
          clear HR3
          go_enter Tryz.func44, Tryz.ntmps44
          go_wp2
          refine wp_region_quiet_below hmix (by kernel_rfl) ?_
          iterate 5 (quiet_step (fail))
          refine ShutQ.out ?_
          refine sq_move (.tmp 9) rfl (by kernel_rfl) ?_
          iterate 9 (refine sq_skip (by kernel_rfl) ?_)
          refine sq_pick (.tmp 10) (.tmp 19) (.const (.bool false)) false rfl (by kernel_rfl) (by kernel_rfl) ?_
          refine ⟨wpQuiet_nil ?_⟩
          intro _ hw'
          obtain ⟨⟨dq, osq⟩, hw''⟩ := hw'
          subst hw''
          have hbq := below_regrown w dq osq
          generalize grow (redrawn w dq) osq = W1 at hbq
          go_simp
          go_wp2_with (go_at_call 61; refine StopV.out ?_)
          refine ⟨Calls.mono (CN2.out W1 hbq) ?_⟩
          rintro e W2 ⟨he, hB⟩
          obtain rfl : e = .returned (.tuple #[]) := he
          have hB2 := hbq.trans (hB.mono hbq.size)
          have s22 := (hB2.cell (Rp.cell_lt s2)).trans s2
          have s32 := (hB2.cell (Rp.cell_lt s3)).trans s3
          go_wp2_with (go_at_call 62; refine StopV.out ?_)
          refine ⟨Calls.mono (CT.out W2 hB2) ?_⟩
          rintro e W3 ⟨rfl, hB3⟩
          have hB4 := hB2.trans (hB3.mono hB2.size)
          have s33 := (hB4.cell (Rp.cell_lt s3)).trans s3
          go_wp2_with (go_at_call 63; refine StopV.out ?_)
          refine ⟨Calls.mono (mark_any W3 g m it s33) ?_⟩
          rintro e W4 ⟨rfl, rfl⟩
          go_wp2_with (go_at_call 64; refine StopV.out ?_)
          refine ⟨Calls.mono (CM.out _ hB4) ?_⟩
          rintro e W5 ⟨rfl, rfl⟩
          have c11 := (hB4.cell (Rp.cell_lt c1)).trans c1
          have hz := (HP.out.on hB4).fz 1
          have hw8 : IntKind.i64.wrap ((k : Int) + 8) = ((k + 8 : Nat) : Int) := by rw [IntKind.wrap_i64]; omega
          go_wp2
          go_ret
          rw [HR1.out]
          exact ⟨⟨rfl, (HP.out.on hB4).setAt (k + 8)⟩, (ahead hB4 HP.out.lt).setCell (p := ⟨rb, 1, none⟩) HP.out.hb _⟩
        · have HR1 : Hid (R = .bad 125) := by show _ = _; rw [← HR3.out, if_pos hZ]
          have b2 : ((Z : Int) != 0) = true := bne_iff_ne.2 (by omega)
          clear HR3 hZ
          go_enter Tryz.func44, Tryz.ntmps44
          go_wp2
          refine wp_region_quiet_below hmix (by kernel_rfl) ?_
          iterate 5 (quiet_step (fail))
          refine ShutQ.out ?_
          refine sq_move (.tmp 9) rfl (by kernel_rfl) ?_
          iterate 9 (refine sq_skip (by kernel_rfl) ?_)
          refine sq_pick (.tmp 10) (.tmp 19) (.const (.bool false)) false rfl (by kernel_rfl) (by kernel_rfl) ?_
          refine ⟨wpQuiet_nil ?_⟩
          intro _ hw'
          obtain ⟨⟨dq, osq⟩, hw''⟩ := hw'
          subst hw''
          have hbq := below_regrown w dq osq
          generalize grow (redrawn w dq) osq = W1 at hbq
          go_simp
          go_wp2_with (go_at_call 61; refine StopV.out ?_)
          refine ⟨Calls.mono (CN2.out W1 hbq) ?_⟩
          rintro e W2 ⟨he, hB⟩
          obtain rfl : e = .returned (.tuple #[]) := he
          have hB2 := hbq.trans (hB.mono hbq.size)
          have s22 := (hB2.cell (Rp.cell_lt s2)).trans s2
          have s32 := (hB2.cell (Rp.cell_lt s3)).trans s3
          go_wp2_with (go_at_call 62; refine StopV.out ?_)
          refine ⟨Calls.mono (CT.out W2 hB2) ?_⟩
          rintro e W3 ⟨rfl, hB3⟩
          have hB4 := hB2.trans (hB3.mono hB2.size)
          have s33 := (hB4.cell (Rp.cell_lt s3)).trans s3
          go_wp2_with (go_at_call 63; refine StopV.out ?_)
          refine ⟨Calls.mono (mark_any W3 g m it s33) ?_⟩
          rintro e W4 ⟨rfl, rfl⟩
          go_wp2_with (go_at_call 64; refine StopV.out ?_)
          refine ⟨Calls.mono (CM.out _ hB4) ?_⟩
          rintro e W5 ⟨rfl, rfl⟩
          go_wp2_with (go_at_call 65; refine StopV.out ?_)
          refine ⟨Calls.mono (CG.out _ hB4) ?_⟩
          rintro e W6 ⟨⟨q, rfl, hc⟩, hB6⟩
          refine ⟨rfl, ?_⟩
          rw [HR1.out]
          exact ⟨⟨q, rfl, hc⟩, (ahead hB4 HP.out.lt).trans (hB6.out.mono (Nat.le_trans HP.out.lt hB4.size))⟩
      · have b1 : ((T : Int) != (mark it : Int)) = true := bne_iff_ne.2 (by omega)
        have HR1 : Hid (R = .no) := by show _ = _; rw [← HR3.out, if_neg (fun h => hT h.2)]
        clear HR3 hT
        go_enter Tryz.func44, Tryz.ntmps44
        go_wp2
        refine wp_region_quiet_below hmix (by kernel_rfl) ?_
        iterate 5 (quiet_step (fail))
        refine ShutQ.out ?_
        refine sq_move (.tmp 9) rfl (by kernel_rfl) ?_
        iterate 9 (refine sq_skip (by kernel_rfl) ?_)
        refine sq_pick (.tmp 10) (.tmp 19) (.const (.bool false)) false rfl (by kernel_rfl) (by kernel_rfl) ?_
        refine ⟨wpQuiet_nil ?_⟩
        intro _ hw'
        obtain ⟨⟨dq, osq⟩, hw''⟩ := hw'
        subst hw''
        have hbq := below_regrown w dq osq
        generalize grow (redrawn w dq) osq = W1 at hbq
        go_simp
        go_wp2_with (go_at_call 61; refine StopV.out ?_)
        refine ⟨Calls.mono (CN2.out W1 hbq) ?_⟩
        rintro e W2 ⟨he, hB⟩
        obtain rfl : e = .returned (.tuple #[]) := he
        have hB2 := hbq.trans (hB.mono hbq.size)
        have s22 := (hB2.cell (Rp.cell_lt s2)).trans s2
        have s32 := (hB2.cell (Rp.cell_lt s3)).trans s3
        go_wp2_with (go_at_call 62; refine StopV.out ?_)
        refine ⟨Calls.mono (CT.out W2 hB2) ?_⟩
        rintro e W3 ⟨rfl, hB3⟩
        have hB4 := hB2.trans (hB3.mono hB2.size)
        have s33 := (hB4.cell (Rp.cell_lt s3)).trans s3
        go_wp2_with (go_at_call 63; refine StopV.out ?_)
        refine ⟨Calls.mono (mark_any W3 g m it s33) ?_⟩
        rintro e W4 ⟨rfl, rfl⟩
        go_wp2
        go_ret
        rw [HR1.out]
        exact ⟨⟨rfl, HP.out.on hB4⟩, ahead hB4 HP.out.lt⟩
end Go.Proofs.YtfoodjhffehgpaaGreatDoor
end

section
/-
  DERIVED. A head's length, looked at.
-/
namespace Go.Proofs.YtfoodjhffehgpaaGreatDoor
open Go Go.Proofs Go.RowKit
open Wk (Nd nds)
open Go.Sort

/-- A head as a value. -/
def hdV (v : Int) (len sz : Nat) (x : Nat) : Value := .agg #[.int .i64 v, .int .u32 (len : Int), .int .i64 (sz : Int), .iface x (.agg #[])]
/-- A head in memory. -/
structure HC (W : World) (g : Nat) (v : Int) (len sz x : Nat) : Prop where
  h0 : W.cell? ⟨g, 0, none⟩ = some (.int .i64 v)
  h1 : W.cell? ⟨g, 1, none⟩ = some (.int .u32 (len : Int))
  h2 : W.cell? ⟨g, 2, none⟩ = some (.int .i64 (sz : Int))
  h3 : W.cell? ⟨g, 3, none⟩ = some (.iface x (.agg #[]))
theorem HC.on {W W' : World} {g : Nat} {v : Int} {len sz x : Nat} (h : HC W g v len sz x) (hb : Below W.heap.size W W') : HC W' g v len sz x :=
  ⟨(hb.cell (Rp.cell_lt h.h0)).trans h.h0, (hb.cell (Rp.cell_lt h.h1)).trans h.h1, (hb.cell (Rp.cell_lt h.h2)).trans h.h2, (hb.cell (Rp.cell_lt h.h3)).trans h.h3⟩
theorem HC.new (w : World) (v : Int) (len sz x : Nat) : HC (w.alloc (.cells #[.int .i64 v, .int .u32 (len : Int), .int .i64 (sz : Int), .iface x (.agg #[])] 131)) w.heap.size v len sz x := ⟨by simp, by simp, by simp, by simp⟩

set_option maxRecDepth 100000 in
set_option maxHeartbeats 2000000 in
theorem needLen_any (w : World) (rb g m cap k fin : Nat) (v : Int) (len sz x : Nat) (hm : m ≤ 4000000) (c1 : w.cell? ⟨rb, 1, none⟩ = some (.int .i64 (k : Int))) (c3 : w.cell? ⟨rb, 3, none⟩ = some (.slice (some ⟨g, 0, none⟩) (m + 1) cap)) (s1 : w.cell? ⟨g, m * 6 + 1, none⟩ = some (.int .i64 (fin : Int))) (hk : k + sz ≤ fin) (hf : fin ≤ 1048576) :
    Calls Tryz.prog 68 #[.pointer (some ⟨rb, 0, none⟩), hdV v len sz x] w (NeedP w k (decide (len ≠ und ∧ fin - k - sz < len))) := by
  obtain ⟨W0, hW0⟩ : ∃ W0, w.alloc (.cells #[.int .i64 v, .int .u32 (len : Int), .int .i64 (sz : Int), .iface x (.agg #[])] 131) = W0 := ⟨_, rfl⟩
  have hb0 : Below w.heap.size w W0 := by rw [← hW0]; exact (Below.refl _ _).alloc (Nat.le_refl _) _
  have HH : Hid (HC W0 w.heap.size v len sz x) := by rw [← hW0]; exact HC.new w v len sz x
  have d1 := (hb0.cell (Rp.cell_lt c1)).trans c1
  have d3 := (hb0.cell (Rp.cell_lt c3)).trans c3
  have d4 := (hb0.cell (Rp.cell_lt s1)).trans s1
  obtain ⟨y0, y1, y2, y3⟩ := HH.out
  have k1 := fun d os => cell_regrown d1 d os
  have k4 := fun d os => cell_regrown d4 d os
  have k5 := fun d os => cell_regrown y1 d os
  have k6 := fun d os => cell_regrown y2 d os
  have cM : ∀ d os, Calls Tryz.prog 43 #[.pointer (some ⟨rb, 0, none⟩)] (grow (redrawn W0 d) os) fun x w'' => x = .returned (.pointer (some ⟨g, m * 6, none⟩)) ∧ ∃ p : Regrown, w'' = grow (redrawn W0 p.d) p.os := fun d os => Calls.regrown_of (inner_any _ rb g m cap hm (cell_regrown d3 d os))
  have CG : Hid (∀ W, Below W0.heap.size W0 W → Calls Tryz.prog 65 #[.pointer (some ⟨rb, 0, none⟩), .int .i64 122] W fun e w' => Hid (Pan w' k 122 e) ∧ Hid (Below W.heap.size W w')) := fun W hb => giveUp_any W rb k 122 ((hb.cell (Rp.cell_lt d1)).trans d1)
  obtain ⟨F, hF⟩ : ∃ F, fin - k - sz = F := ⟨_, rfl⟩
  have e1 : IntKind.i64.wrap ((fin : Int) - (k : Int)) = (fin : Int) - (k : Int) := by rw [IntKind.wrap_i64]; omega
  have e2 : IntKind.i64.wrap (F : Int) = (F : Int) := by rw [IntKind.wrap_i64]; omega
  have e5 : wrap64 (F : Int) = (F : Int) := by unfold wrap64; omega
  have e6 : (F : Int) % 4294967296 = (F : Int) := by omega
  have e3 : (fin : Int) - (k : Int) - (sz : Int) = (F : Int) := by omega
  have e4 : IntKind.u32.wrap (F : Int) = (F : Int) := by rw [IntKind.wrap_u32]; omega
  rw [hF]
  clear hF c1 c3 s1 d3 hk hf
  by_cases hu : len = und
  · have b1 : ((len : Int) != 4294967295) = false := by rw [hu]; rfl
    have hS : decide (len ≠ und ∧ F < len) = false := decide_eq_false (fun h => h.1 hu)
    rw [hS]
    clear hS hu
    unfold hdV
    go_enter Tryz.func68, Tryz.ntmps68
    go_wp2
    refine wp_region_quiet_below hmix (by kernel_rfl) ?_
    repeat (quiet_step (first | exact cM _ _))
    refine wpQuiet_nil ?_
    intro _ hw'
    obtain ⟨⟨dq, osq⟩, hw''⟩ := hw'
    subst hw''
    have hbq := below_regrown W0 dq osq
    have z1 := k5 dq osq
    generalize grow (redrawn W0 dq) osq = W1 at hbq z1
    go_wp2
    exact bodyPost_end (results_none rfl _ _ _) rfl ⟨rfl, hb0.trans (hbq.mono hb0.size)⟩
  · have b1 : ((len : Int) != 4294967295) = true := bne_iff_ne.2 (by unfold und at hu; omega)
    by_cases hs : F < len
    · have b2 : decide (F < len) = true := decide_eq_true hs
      have hS : decide (len ≠ und ∧ F < len) = true := decide_eq_true ⟨hu, hs⟩
      rw [hS]
      clear hS hu hs
      unfold hdV
      go_enter Tryz.func68, Tryz.ntmps68
      go_wp2
      refine wp_region_quiet_below hmix (by kernel_rfl) ?_
      repeat (quiet_step (first | exact cM _ _))
      refine wpQuiet_nil ?_
      intro _ hw'
      obtain ⟨⟨dq, osq⟩, hw''⟩ := hw'
      subst hw''
      have hbq := below_regrown W0 dq osq
      have z1 := k5 dq osq
      generalize grow (redrawn W0 dq) osq = W1 at hbq z1
      go_wp2_with (go_at_call 65; refine StopV.out ?_)
      refine ⟨Calls.mono (CG.out W1 hbq) ?_⟩
      rintro e W2 ⟨⟨q, rfl, hc⟩, HB⟩
      exact ⟨rfl, ⟨q, rfl, hc⟩, (hb0.trans (hbq.mono hb0.size)).trans (HB.out.mono (Nat.le_trans hb0.size hbq.size))⟩
    · have b2 : decide (F < len) = false := decide_eq_false hs
      have hS : decide (len ≠ und ∧ F < len) = false := decide_eq_false (fun h => hs h.2)
      rw [hS]
      clear hS hu hs
      unfold hdV
      go_enter Tryz.func68, Tryz.ntmps68
      go_wp2
      refine wp_region_quiet_below hmix (by kernel_rfl) ?_
      repeat (quiet_step (first | exact cM _ _))
      refine wpQuiet_nil ?_
      intro _ hw'
      obtain ⟨⟨dq, osq⟩, hw''⟩ := hw'
      subst hw''
      have hbq := below_regrown W0 dq osq
      have z1 := k5 dq osq
      generalize grow (redrawn W0 dq) osq = W1 at hbq z1
      go_wp2
      exact bodyPost_end (results_none rfl _ _ _) rfl ⟨rfl, hb0.trans (hbq.mono hb0.size)⟩

/-- What a length may be refused for. -/
def lenC (v : Int) (len sz F : Nat) : Nat :=
  if badLen ⟨v, sz, len, true⟩ = true then 125 else if v ≠ 18 ∧ 65534 < len then 121 else if len ≠ und ∧ F < len then 122 else 0
def LenP (w : World) (k c : Nat) (e : Ending) (w' : World) : Prop := (if c = 0 then e = .returned (.tuple #[]) else Pan w' k c e) ∧ Below w.heap.size w w'
set_option maxRecDepth 100000 in
set_option maxHeartbeats 2000000 in
theorem checkLen_any (w : World) (rb g m cap k fin : Nat) (v : Int) (len sz x : Nat) (hm : m ≤ 4000000) (c1 : w.cell? ⟨rb, 1, none⟩ = some (.int .i64 (k : Int))) (c3 : w.cell? ⟨rb, 3, none⟩ = some (.slice (some ⟨g, 0, none⟩) (m + 1) cap)) (s1 : w.cell? ⟨g, m * 6 + 1, none⟩ = some (.int .i64 (fin : Int))) (hk : k + sz ≤ fin) (hf : fin ≤ 1048576) (hl : len < 4294967296) :
    Calls Tryz.prog 72 #[.pointer (some ⟨rb, 0, none⟩), hdV v len sz x] w (LenP w k (lenC v len sz (fin - k - sz))) := by
  obtain ⟨W0, hW0⟩ : ∃ W0, w.alloc (.cells #[.int .i64 v, .int .u32 (len : Int), .int .i64 (sz : Int), .iface x (.agg #[])] 131) = W0 := ⟨_, rfl⟩
  have hb0 : Below w.heap.size w W0 := by rw [← hW0]; exact (Below.refl _ _).alloc (Nat.le_refl _) _
  have HH : Hid (HC W0 w.heap.size v len sz x) := by rw [← hW0]; exact HC.new w v len sz x
  have d1 := (hb0.cell (Rp.cell_lt c1)).trans c1
  have d3 := (hb0.cell (Rp.cell_lt c3)).trans c3
  have d4 := (hb0.cell (Rp.cell_lt s1)).trans s1
  obtain ⟨y0, y1, y2, y3⟩ := HH.out
  have CG : Hid (∀ c : Nat, Calls Tryz.prog 65 #[.pointer (some ⟨rb, 0, none⟩), .int .i64 (c : Int)] W0 fun e w' => Hid (Pan w' k c e) ∧ Hid (Below W0.heap.size W0 w')) := fun c => giveUp_any W0 rb k c d1
  have CN : Hid (Calls Tryz.prog 68 #[.pointer (some ⟨rb, 0, none⟩), .agg #[.int .i64 v, .int .u32 (len : Int), .int .i64 (sz : Int), .iface x (.agg #[])]] W0 (NeedP W0 k (decide (len ≠ und ∧ fin - k - sz < len)))) := needLen_any W0 rb g m cap k fin v len sz x hm d1 d3 d4 hk hf
  have CO := odd_any W0 len hl
  obtain ⟨F, hF⟩ : ∃ F, fin - k - sz = F := ⟨_, rfl⟩
  rw [hF] at CN ⊢
  obtain ⟨C, hC⟩ : ∃ C, lenC v len sz F = C := ⟨_, rfl⟩
  have HCC : Hid _ := hC
  rw [hC]
  unfold lenC badLen at HCC
  clear hF c1 c3 s1 d1 d3 d4 hk hf hC
  have finish : ∀ c, c = C → c ≠ 0 → ∀ {e : Ending} {W2 : World}, Pan W2 k c e → Below W0.heap.size W0 W2 → LenP w k C e W2 := fun c hc h0 e W2 hp hB => by
    subst hc
    exact ⟨by rw [if_neg h0]; exact hp, hb0.trans (hB.mono hb0.size)⟩
  have HFN : Hid _ := @finish
  clear finish
  by_cases hv : v = 18
  · have b1 : (v != 18) = false := by rw [hv]; rfl
    by_cases hu : len = und
    · have b0 : ((len : Int) == 4294967295) = true := by rw [hu]; rfl
      have HC1 : Hid (0 = C) := by show _ = _; rw [← HCC.out]; simp [hu, hv]
      have hod : (!decide (len = und) && decide (len % 2 = 1)) = false := by simp [hu]
      rw [hod] at CO
      rw [decide_eq_false (fun h : len ≠ und ∧ F < len => h.1 hu)] at CN
      clear hu hv HCC hod
      unfold hdV
      go_enter Tryz.func72, Tryz.ntmps72
      go_wp2_with (go_at_call 66; refine StopV.out ?_)
      refine ⟨Calls.mono CO ?_⟩
      rintro e W1 ⟨rfl, rfl⟩
      go_wp2_with (go_at_call 68; refine StopV.out ?_)
      refine ⟨Calls.mono CN.out ?_⟩
      rintro e W2 ⟨he, HB⟩
      obtain rfl : e = .returned (.tuple #[]) := he
      go_wp2
      exact bodyPost_end (results_none rfl _ _ _) rfl ⟨by rw [← HC1.out]; rfl, hb0.trans (HB.mono hb0.size)⟩
    · have b0 : ((len : Int) == 4294967295) = false := beq_eq_false_iff_ne.2 (by unfold und at hu; omega)
      by_cases ho : len % 2 = 1
      · have HC1 : Hid (125 = C) := by show _ = _; rw [← HCC.out]; simp [hu, ho]
        have hod : (!decide (len = und) && decide (len % 2 = 1)) = true := by simp [hu, ho]
        rw [hod] at CO
        clear hu hv ho HCC CN hod
        unfold hdV
        go_enter Tryz.func72, Tryz.ntmps72
        go_wp2_with (go_at_call 66; refine StopV.out ?_)
        refine ⟨Calls.mono CO ?_⟩
        rintro e W1 ⟨rfl, rfl⟩
        go_wp2_with (go_at_call 65; refine StopV.out ?_)
        refine ⟨Calls.mono (CG.out 125) ?_⟩
        rintro e W2 ⟨⟨q, rfl, hc⟩, HB⟩
        exact ⟨rfl, HFN.out 125 HC1.out (by decide) ⟨q, rfl, hc⟩ HB.out⟩
      · have hod : (!decide (len = und) && decide (len % 2 = 1)) = false := by simp [ho]
        rw [hod] at CO
        by_cases hs : F < len
        · have HC1 : Hid (122 = C) := by show _ = _; rw [← HCC.out]; simp [hu, hv, ho, hs]
          rw [decide_eq_true (⟨hu, hs⟩ : len ≠ und ∧ F < len)] at CN
          clear hu hv ho HCC hod hs
          unfold hdV
          go_enter Tryz.func72, Tryz.ntmps72
          go_wp2_with (go_at_call 66; refine StopV.out ?_)
          refine ⟨Calls.mono CO ?_⟩
          rintro e W1 ⟨rfl, rfl⟩
          go_wp2_with (go_at_call 68; refine StopV.out ?_)
          refine ⟨Calls.mono CN.out ?_⟩
          rintro e W2 ⟨⟨q, rfl, hc⟩, HB⟩
          exact ⟨rfl, HFN.out 122 HC1.out (by decide) ⟨q, rfl, hc⟩ HB⟩
        · have HC1 : Hid (0 = C) := by show _ = _; rw [← HCC.out]; simp [hu, hv, ho, hs]
          rw [decide_eq_false (fun h : len ≠ und ∧ F < len => hs h.2)] at CN
          clear hu hv ho HCC hod hs
          unfold hdV
          go_enter Tryz.func72, Tryz.ntmps72
          go_wp2_with (go_at_call 66; refine StopV.out ?_)
          refine ⟨Calls.mono CO ?_⟩
          rintro e W1 ⟨rfl, rfl⟩
          go_wp2_with (go_at_call 68; refine StopV.out ?_)
          refine ⟨Calls.mono CN.out ?_⟩
          rintro e W2 ⟨he, HB⟩
          obtain rfl : e = .returned (.tuple #[]) := he
          go_wp2
          exact bodyPost_end (results_none rfl _ _ _) rfl ⟨by rw [← HC1.out]; rfl, hb0.trans (HB.mono hb0.size)⟩
  · have b1 : (v != 18) = true := bne_iff_ne.2 hv
    by_cases hu : len = und
    · have b0 : ((len : Int) == 4294967295) = true := by rw [hu]; rfl
      have HC1 : Hid (125 = C) := by show _ = _; rw [← HCC.out]; simp [hu, hv]
      clear hu hv HCC CO CN
      unfold hdV
      go_enter Tryz.func72, Tryz.ntmps72
      go_wp2_with (go_at_call 65; refine StopV.out ?_)
      refine ⟨Calls.mono (CG.out 125) ?_⟩
      rintro e W2 ⟨⟨q, rfl, hc⟩, HB⟩
      exact ⟨rfl, HFN.out 125 HC1.out (by decide) ⟨q, rfl, hc⟩ HB.out⟩
    · have b0 : ((len : Int) == 4294967295) = false := beq_eq_false_iff_ne.2 (by unfold und at hu; omega)
      by_cases ho : len % 2 = 1
      · have HC1 : Hid (125 = C) := by show _ = _; rw [← HCC.out]; simp [hu, ho]
        have hod : (!decide (len = und) && decide (len % 2 = 1)) = true := by simp [hu, ho]
        rw [hod] at CO
        clear hu hv ho HCC CN hod
        unfold hdV
        go_enter Tryz.func72, Tryz.ntmps72
        go_wp2_with (go_at_call 66; refine StopV.out ?_)
        refine ⟨Calls.mono CO ?_⟩
        rintro e W1 ⟨rfl, rfl⟩
        go_wp2_with (go_at_call 65; refine StopV.out ?_)
        refine ⟨Calls.mono (CG.out 125) ?_⟩
        rintro e W2 ⟨⟨q, rfl, hc⟩, HB⟩
        exact ⟨rfl, HFN.out 125 HC1.out (by decide) ⟨q, rfl, hc⟩ HB.out⟩
      · have hod : (!decide (len = und) && decide (len % 2 = 1)) = false := by simp [ho]
        rw [hod] at CO
        by_cases hL : 65534 < len
        · have HC1 : Hid (121 = C) := by show _ = _; rw [← HCC.out]; simp [hu, hv, ho, hL]
          have b5 : decide ((65534 : Int) < (len : Int)) = true := decide_eq_true (by omega)
          clear hu hv ho HCC CN hod hL
          unfold hdV
          go_enter Tryz.func72, Tryz.ntmps72
          go_wp2_with (go_at_call 66; refine StopV.out ?_)
          refine ⟨Calls.mono CO ?_⟩
          rintro e W1 ⟨rfl, rfl⟩
          go_wp2_with (go_at_call 65; refine StopV.out ?_)
          refine ⟨Calls.mono (CG.out 121) ?_⟩
          rintro e W2 ⟨⟨q, rfl, hc⟩, HB⟩
          exact ⟨rfl, HFN.out 121 HC1.out (by decide) ⟨q, rfl, hc⟩ HB.out⟩
        · have b5 : decide ((65534 : Int) < (len : Int)) = false := decide_eq_false (by omega)
          by_cases hs : F < len
          · have HC1 : Hid (122 = C) := by show _ = _; rw [← HCC.out]; simp [hu, hv, ho, hs, hL]
            rw [decide_eq_true (⟨hu, hs⟩ : len ≠ und ∧ F < len)] at CN
            clear hu hv ho HCC hod hs
            unfold hdV
            go_enter Tryz.func72, Tryz.ntmps72
            go_wp2_with (go_at_call 66; refine StopV.out ?_)
            refine ⟨Calls.mono CO ?_⟩
            rintro e W1 ⟨rfl, rfl⟩
            go_wp2_with (go_at_call 68; refine StopV.out ?_)
            refine ⟨Calls.mono CN.out ?_⟩
            rintro e W2 ⟨⟨q, rfl, hc⟩, HB⟩
            exact ⟨rfl, HFN.out 122 HC1.out (by decide) ⟨q, rfl, hc⟩ HB⟩
          · have HC1 : Hid (0 = C) := by show _ = _; rw [← HCC.out]; simp [hu, hv, ho, hs, hL]
            rw [decide_eq_false (fun h : len ≠ und ∧ F < len => hs h.2)] at CN
            clear hu hv ho HCC hod hs
            unfold hdV
            go_enter Tryz.func72, Tryz.ntmps72
            go_wp2_with (go_at_call 66; refine StopV.out ?_)
            refine ⟨Calls.mono CO ?_⟩
            rintro e W1 ⟨rfl, rfl⟩
            go_wp2_with (go_at_call 68; refine StopV.out ?_)
            refine ⟨Calls.mono CN.out ?_⟩
            rintro e W2 ⟨he, HB⟩
            obtain rfl : e = .returned (.tuple #[]) := he
            go_wp2
            exact bodyPost_end (results_none rfl _ _ _) rfl ⟨by rw [← HC1.out]; rfl, hb0.trans (HB.mono hb0.size)⟩
end Go.Proofs.YtfoodjhffehgpaaGreatDoor
end
