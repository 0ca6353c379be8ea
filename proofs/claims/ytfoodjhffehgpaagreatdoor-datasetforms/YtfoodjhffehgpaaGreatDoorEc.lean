import Derived.Test.YtfoodjhffehgpaaGreatDoorBn
import Derived.Lib.QuietBelow
/-
  DERIVED. Which node may stand where the levels are: the program's look.
-/
namespace Go.Proofs.YtfoodjhffehgpaaGreatDoor
open Go Go.Proofs Go.RowKit Go.Sort
open Wk (Nd)

theorem hmix : Tryz.prog.follows .mixedOrders = true := by kernel_rfl
/-- A goal that no look goes into. -/
structure ShutQ (p : Prop) : Prop where
  out : p
theorem sq_skip {P : Program} {ops : Array Oper} {C : World → Prop} {Q : Act → Prop} {a : Act} {o : Oper} {rest : List Oper} (hwant : Region.wanted o (yielded ops a.tmps) = false) (h : ShutQ (wpQuiet P ops C Q rest (a.put o.dst undef))) : ShutQ (wpQuiet P ops C Q (o :: rest) a) := by
  refine ⟨?_⟩
  unfold wpQuiet
  rw [if_neg (by simp [hwant])]
  exact h.out
theorem sq_move {P : Program} {ops : Array Oper} {C : World → Prop} {Q : Act → Prop} {a : Act} {o : Oper} {rest : List Oper} (x : Operand) (ho : o.op = .move x) (hwant : Region.wanted o (yielded ops a.tmps) = true) (h : ShutQ (wpQuiet P ops C Q rest (a.put o.dst (a.eval x)))) : ShutQ (wpQuiet P ops C Q (o :: rest) a) := by
  refine ⟨?_⟩
  unfold wpQuiet
  rw [if_pos hwant]
  refine ⟨a.eval x, fun w hw => ?_, h.out⟩
  unfold Oper.quietAt execOp
  simp only [ho, Sem.run_pure]
  exact ⟨rfl, rfl⟩
theorem sq_pick {P : Program} {ops : Array Oper} {C : World → Prop} {Q : Act → Prop} {a : Act} {o : Oper} {rest : List Oper} (c x y : Operand) (b : Bool) (ho : o.op = .pick c x y) (hc : a.eval c = .bool b) (hwant : Region.wanted o (yielded ops a.tmps) = true) (h : ShutQ (wpQuiet P ops C Q rest (a.put o.dst (if b = true then a.eval x else a.eval y)))) : ShutQ (wpQuiet P ops C Q (o :: rest) a) := by
  refine ⟨?_⟩
  unfold wpQuiet
  rw [if_pos hwant]
  refine ⟨_, fun w hw => ?_, h.out⟩
  unfold Oper.quietAt execOp
  simp only [ho, hc, asBool, Sem.run_bind, Sem.run_pure, Result.andThen_ok]
  exact ⟨rfl, rfl⟩

set_option maxRecDepth 100000 in
set_option maxHeartbeats 2000000 in
theorem isRight_item (w : World) (a : Nd) (g k c : Nat) (hk : k < 100) (he : (k + 1) % 2 = 0) :
    Calls Tryz.prog 86 #[.agg #[.int .u32 a.t, .int .i64 a.v, .int .i64 a.n, .string a.s], .slice (some ⟨g, 0, none⟩) (k + 1) c] w fun e w' => e = .returned (.bool (itemOk a && decide ((k + 1) / 2 ≤ 4))) ∧ Below w.heap.size w w' := by
  have c21 := fun W => wants_any W (some ⟨g, 0, none⟩) (k + 1) c true (by simp [he])
  have c22 := fun W => isItem_any W a
  obtain ⟨R, hR⟩ : ∃ R, (itemOk a && decide ((k + 1) / 2 ≤ 4)) = R := ⟨_, rfl⟩
  rw [hR]
  have HR : Hid _ := hR
  clear hR
  generalize itemOk a = z at c22 HR
  obtain ⟨t, v, n, s⟩ := a
  simp only at *
  obtain ⟨W1, hW1⟩ : ∃ W1, w.alloc (.cells #[.int .u32 t, .int .i64 v, .int .i64 n, .string s] 48) = W1 := ⟨_, rfl⟩
  have HN1 : Hid (NC W1 w.heap.size t v n s) := by rw [← hW1]; exact ⟨by simp, by simp, by simp, by simp⟩
  have HB1 : Hid (Below w.heap.size w W1) := by rw [← hW1]; exact (Below.refl _ _).alloc (Nat.le_refl _) _
  obtain ⟨y0, y1, y2, y3⟩ := HN1.out
  have HQ : Hid (decide ((k + 1) / 2 ≤ 4) = decide (((k : Int) + 1) / 2 ≤ 4)) := by
    show _ = _
    by_cases h : (k + 1) / 2 ≤ 4
    · rw [show decide ((k + 1) / 2 ≤ 4) = true by simpa using h]; symm; simp; omega
    · rw [show decide ((k + 1) / 2 ≤ 4) = false by simpa using h]; symm; simp; omega
  clear he
  cases z with
  | false =>
    have HR2 : Hid (R = false) := HR.out.symm
    go_enter Tryz.func86, Tryz.ntmps86
    go_wp2_with (first | (go_at_call 97; refine (c21 _).mono ?_; rintro e W2 ⟨rfl, rfl⟩) | (go_at_call 98; refine (c22 _).mono ?_; rintro e W2 ⟨rfl, hb2⟩))
    go_ret
    exact ⟨by rw [HR2.out]; rfl, HB1.out.trans (hb2.mono HB1.out.size)⟩
  | true =>
    have HR2 : Hid (R = decide (((k : Int) + 1) / 2 ≤ 4)) := by rw [← HQ.out]; exact HR.out.symm
    go_enter Tryz.func86, Tryz.ntmps86
    go_wp2_with (first | (go_at_call 97; refine (c21 _).mono ?_; rintro e W2 ⟨rfl, rfl⟩) | (go_at_call 98; refine (c22 _).mono ?_; rintro e W2 ⟨rfl, hb2⟩))
    go_ret
    exact ⟨by rw [HR2.out]; rfl, HB1.out.trans (hb2.mono HB1.out.size)⟩

set_option maxRecDepth 100000 in
set_option maxHeartbeats 2000000 in
theorem isRight_elem (w : World) (a : Nd) (h0 : 0 ≤ a.t) (h1 : a.t < 4294967296) (g k c : Nat) (hk : k < 100) (he : (k + 1) % 2 = 1) (last : Int) (hl : w.cell? ⟨g, k * 2 + 1, none⟩ = some (.int .u32 last)) :
    Calls Tryz.prog 86 #[.agg #[.int .u32 a.t, .int .i64 a.v, .int .i64 a.n, .string a.s], .slice (some ⟨g, 0, none⟩) (k + 1) c] w fun e w' => e = .returned (.bool (elemOk a && decide (last < a.t))) ∧ Below w.heap.size w w' := by
  have c21 := fun W => wants_any W (some ⟨g, 0, none⟩) (k + 1) c false (by simp; omega)
  have c23 := fun W => isElement_any W a h0 h1
  obtain ⟨R, hR⟩ : ∃ R, (elemOk a && decide (last < a.t)) = R := ⟨_, rfl⟩
  rw [hR]
  have HR : Hid _ := hR
  clear hR
  generalize elemOk a = z at c23 HR
  obtain ⟨t, v, n, s⟩ := a
  simp only at *
  obtain ⟨W1, hW1⟩ : ∃ W1, w.alloc (.cells #[.int .u32 t, .int .i64 v, .int .i64 n, .string s] 48) = W1 := ⟨_, rfl⟩
  have HN1 : Hid (NC W1 w.heap.size t v n s) := by rw [← hW1]; exact ⟨by simp, by simp, by simp, by simp⟩
  have HB1 : Hid (Below w.heap.size w W1) := by rw [← hW1]; exact (Below.refl _ _).alloc (Nat.le_refl _) _
  obtain ⟨y0, y1, y2, y3⟩ := HN1.out
  have hl1 := (HB1.out.cell (p := ⟨g, k * 2 + 1, none⟩) (Tb.cell_lt hl)).trans hl
  have hs1 : w.heap.size ≤ W1.heap.size := HB1.out.size
  clear he hl
  have k0 := fun d os => cell_regrown y0 d os
  have k1 := fun d os => cell_regrown y1 d os
  have k2 := fun d os => cell_regrown y2 d os
  have k3 := fun d os => cell_regrown y3 d os
  have k4 := fun d os => cell_regrown hl1 d os
  have cM : ∀ d os, Calls Tryz.prog 99 #[.agg #[.int .u32 t, .int .i64 v, .int .i64 n, .string s]] (grow (redrawn W1 d) os) fun x w'' => x = .returned (.bool z) ∧ ∃ p : Regrown, w'' = grow (redrawn W1 p.d) p.os := fun d os => Calls.regrown_of (c23 _)
  clear c23
  have hwr : IntKind.i64.wrap (k : Int) = (k : Int) := by rw [IntKind.wrap_i64]; omega
  have hki : (k : Int) < (k : Int) + 1 := by omega
  cases z with
  | true =>
    have HR2 : Hid (R = decide (last < t)) := HR.out.symm
    go_enter Tryz.func86, Tryz.ntmps86
    go_wp2_with (first | (go_at_call 97; refine (c21 _).mono ?_; rintro e W2 ⟨rfl, rfl⟩) | fail)
    refine wp_region_quiet_below hmix (by kernel_rfl) ?_
    repeat (quiet_step (first | exact cM _ _))
    refine wpQuiet_nil ?_
    intro _ hw'
    obtain ⟨⟨dq, osq⟩, hw''⟩ := hw'
    subst hw''
    have hBW := below_regrown W1 dq osq
    have HB : Hid (Below w.heap.size w (grow (redrawn W1 dq) osq)) := HB1.out.trans (hBW.mono hs1)
    clear cM hBW k0 k1 k2 k3 k4
    go_wp2
    go_ret
    exact ⟨by rw [HR2.out]; rfl, HB.out⟩
  | false =>
    have HR2 : Hid (R = false) := HR.out.symm
    go_enter Tryz.func86, Tryz.ntmps86
    go_wp2_with (first | (go_at_call 97; refine (c21 _).mono ?_; rintro e W2 ⟨rfl, rfl⟩) | fail)
    refine wp_region_quiet_below hmix (by kernel_rfl) ?_
    iterate 2 (quiet_step (first | exact cM _ _))
    refine ShutQ.out ?_
    refine sq_move (.tmp 16) rfl (by kernel_rfl) ?_
    iterate 10 (refine sq_skip (by kernel_rfl) ?_)
    refine sq_pick (.tmp 17) (.tmp 27) (.const (.bool false)) false rfl (by kernel_rfl) (by kernel_rfl) ?_
    refine ⟨?_⟩
    quiet_step (fail)
    refine wpQuiet_nil ?_
    intro _ hw'
    obtain ⟨⟨dq, osq⟩, hw''⟩ := hw'
    subst hw''
    have hBW := below_regrown W1 dq osq
    have HB : Hid (Below w.heap.size w (grow (redrawn W1 dq) osq)) := HB1.out.trans (hBW.mono hs1)
    clear cM hBW k0 k1 k2 k3 k4
    try go_simp
    go_wp2
    go_ret
    exact ⟨by rw [HR2.out]; rfl, HB.out⟩
end Go.Proofs.YtfoodjhffehgpaaGreatDoor
