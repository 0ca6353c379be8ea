import Derived.Test.YtiieikdbhpflgaaDoorH
import Derived.Test.YtiieikdbhpflgaaDoorF
import Derived.Lib.QuietBelow
/-
  DERIVED. The law of what is beside the table.
-/
namespace Go.Proofs.YtiieikdbhpflgaaDoor
open Go Go.Proofs Go.RowKit Go.Sort

theorem still {f : FuncId} {args : Array Value} {w : World} {v : Value} (h : Calls Tryd.prog f args w fun e w' => e = .returned v ∧ w' = w) : Calls Tryd.prog f args w fun e w' => e = .returned v ∧ Below w.heap.size w w' :=
  h.mono fun _ _ ⟨h1, h2⟩ => ⟨h1, h2 ▸ Below.refl _ _⟩

theorem quiet_load {P : Program} {ops : Array Oper} {C : World → Prop} {Q : Act → Prop} {a : Act} {o : Oper} {rest : List Oper} (ty : TypeId) (x : Operand) (ho : o.op = .load ty x) (hwant : Region.wanted o (yielded ops a.tmps) = true)
    (ad : Addr) (hx : a.eval x = .pointer (some ad)) (v : Value) (hl : ∀ w, C w → (loadVar ty ad).run P w = .ok v w) (h : wpQuiet P ops C Q rest (a.put o.dst v)) : wpQuiet P ops C Q (o :: rest) a := by
  unfold wpQuiet
  rw [if_pos hwant]
  refine ⟨v, fun w hw => ?_, h⟩
  unfold Oper.quietAt execOp
  simp only [ho, hx, Instr.loadAt, Instr.sureAddr, Sem.run_bind, Sem.run_pure, Result.andThen_ok, hl w hw]
  exact ⟨rfl, rfl⟩

/-- A goal that no look goes into. -/
structure Shut (p : Prop) : Prop where
  out : p

theorem quiet_skip {P : Program} {ops : Array Oper} {C : World → Prop} {Q : Act → Prop} {a : Act} {o : Oper} {rest : List Oper} (hwant : Region.wanted o (yielded ops a.tmps) = false) (h : Shut (wpQuiet P ops C Q rest (a.put o.dst undef))) : Shut (wpQuiet P ops C Q (o :: rest) a) := by
  refine ⟨?_⟩
  unfold wpQuiet
  rw [if_neg (by simp [hwant])]
  exact h.out

theorem quiet_move {P : Program} {ops : Array Oper} {C : World → Prop} {Q : Act → Prop} {a : Act} {o : Oper} {rest : List Oper} (x : Operand) (ho : o.op = .move x) (hwant : Region.wanted o (yielded ops a.tmps) = true) (h : Shut (wpQuiet P ops C Q rest (a.put o.dst (a.eval x)))) : wpQuiet P ops C Q (o :: rest) a := by
  unfold wpQuiet
  rw [if_pos hwant]
  refine ⟨a.eval x, fun w hw => ?_, h.out⟩
  unfold Oper.quietAt execOp
  simp only [ho, Sem.run_pure]
  exact ⟨rfl, rfl⟩

theorem block_regrown {w : World} {g : Nat} {ob : Obj} (h : w.heap[g]? = some ob) (d : Nat) (os : Array Obj) : (grow (redrawn w d) os).heap[g]? = some ob :=
  ((below_regrown w d os).block g (Array.getElem?_eq_some_iff.1 h).1).trans h

theorem under40 : ∃ fs, Tryd.prog.underlying 40 = some (.struct fs) := ⟨_, Tryd.underlying40⟩

set_option maxRecDepth 100000 in
set_option maxHeartbeats 4000000 in
theorem beside_any (w : World) (s e a : Int) (asked bad : Bool) (k : Int) (c : Fin 18 → Value) (art : Int) (hT : Tb w) (hC : Cm w) :
    Calls Tryd.prog 6 #[.int .i64 s, .int .i64 e, .int .i64 a, .bool asked, .bool bad, .agg (Pd k c), .int .i64 art] w fun x w' => x = .returned (.bool true) ∧ Below w.heap.size w w' := by
  obtain ⟨W0, hW0⟩ : ∃ W0, w.alloc (.cells (Pd k c) 40) = W0 := ⟨_, rfl⟩
  have hb0 : Below w.heap.size w W0 := hW0 ▸ (Below.refl _ _).alloc (Nat.le_refl _) _
  have hs0 : w.heap.size ≤ W0.heap.size := hb0.size
  have y0 : W0.cell? ⟨w.heap.size, 0, none⟩ = some (.int .i64 k) := by rw [← hW0]; simp [Pd]
  have k0 := cell_regrown y0
  have hg0 : W0.heap[w.heap.size]? = some (.cells (Pd k c) 40) := by rw [← hW0]; exact alloc_new w _
  have hld : ∀ W, (∃ p : Regrown, W = grow (redrawn W0 p.d) p.os) → (loadVar 40 ⟨w.heap.size, 0, none⟩).run Tryd.prog W = .ok (.agg (Pd k c)) W := by
    rintro W ⟨p, rfl⟩
    obtain ⟨fs, hu⟩ := under40
    exact run_loadVar_row (P := Tryd.prog) _ _ _ 40 _ _ _ (block_regrown hg0 p.d p.os) hu rfl (by unfold Pd; kernel_rfl)
  have hE : ∀ d os, Below w.heap.size w (grow (redrawn W0 d) os) := fun d os => hb0.trans ((below_regrown W0 d os).mono hs0)
  have c8 : ∀ d os, Calls Tryd.prog 8 #[.int .i64 s, .int .i64 e] (grow (redrawn W0 d) os) fun x w'' => x = .returned (.int .i64 (actR s e)) ∧ ∃ p : Regrown, w'' = grow (redrawn W0 p.d) p.os := fun d os => Calls.regrown_of (still (act_both _ s e (hT.on (hE d os))))
  have c9 : ∀ d os, Calls Tryd.prog 9 #[.int .i64 s, .int .i64 e] (grow (redrawn W0 d) os) fun x w'' => x = .returned (.int .i64 (actR s e)) ∧ ∃ p : Regrown, w'' = grow (redrawn W0 p.d) p.os := fun d os => Calls.regrown_of (still (ract_any _ s e))
  have c10 : ∀ d os, Calls Tryd.prog 10 #[.int .i64 a, .int .i64 s, .bool asked, .bool bad] (grow (redrawn W0 d) os) fun x w'' => x = .returned (.int .i64 (afterR a s asked bad)) ∧ ∃ p : Regrown, w'' = grow (redrawn W0 p.d) p.os := fun d os => Calls.regrown_of (after_both _ a s asked bad)
  have c11 : ∀ d os, Calls Tryd.prog 11 #[.int .i64 a, .int .i64 s, .bool asked, .bool bad] (grow (redrawn W0 d) os) fun x w'' => x = .returned (.int .i64 (afterR a s asked bad)) ∧ ∃ p : Regrown, w'' = grow (redrawn W0 p.d) p.os := fun d os => Calls.regrown_of (still (rafter_any _ a s asked bad))
  have c16 : ∀ d os, Calls Tryd.prog 16 #[.agg (Pd k c)] (grow (redrawn W0 d) os) fun x w'' => x = .returned (.int .i64 (evR k)) ∧ ∃ p : Regrown, w'' = grow (redrawn W0 p.d) p.os := fun d os => Calls.regrown_of (ev_any _ k c (hC.on (hE d os)))
  have c17 : ∀ d os, Calls Tryd.prog 17 #[.int .i64 k] (grow (redrawn W0 d) os) fun x w'' => x = .returned (.int .i64 (evR k)) ∧ ∃ p : Regrown, w'' = grow (redrawn W0 p.d) p.os := fun d os => Calls.regrown_of (still (rev_any _ k))
  have hm : Tryd.prog.follows .mixedOrders = true := by kernel_rfl
  generalize actR s e = A1 at c8 c9
  generalize afterR a s asked bad = A2 at c10 c11
  generalize evR k = A3 at c16 c17
  have hsz : (Tryd.prog.info? 40).map (·.size) = some (Pd k c).size := by unfold Pd; kernel_rfl
  clear hg0 y0 hT hC
  generalize Pd k c = PP at *
  go_enter Tryd.func6, Tryd.ntmps6
  go_wp2
  clear hW0
  refine wp_region_quiet_below hm (by kernel_rfl) ?_
  repeat (first | (refine quiet_load 40 (.tmp 12) rfl rfl ⟨w.heap.size, 0, none⟩ rfl (.agg PP) hld ?_) | quiet_step (first | exact c8 _ _ | exact c9 _ _ | exact c10 _ _ | exact c11 _ _ | exact c16 _ _ | exact c17 _ _))
  refine wpQuiet_nil ?_
  intro _ hw'
  obtain ⟨⟨dq, osq⟩, hw''⟩ := hw'
  subst hw''
  have hBW := hE dq osq
  clear c8 c9 c10 c11 c16 c17 hE k0 hld hsz
  generalize grow (redrawn W0 dq) osq = W at hBW ⊢
  clear hb0 hs0
  by_cases ha : 1 ≤ art ∧ art ≤ 1000
  · have hn := new_ok W art ha.1 ha.2
    go_wp2_with (first | (go_at_call 12; refine hn.mono ?_; rintro x W1 ⟨rfl, hb1, hp1⟩) | (go_at_call 18; refine (rnew_ok _ art ha.1 ha.2).mono ?_; rintro x W2 ⟨q, rfl, hb2, hr2⟩))
    obtain ⟨W3, hW3⟩ : ∃ W3, W2.alloc (.cells #[.slice none 0 0, .int .i64 0] 64) = W3 := ⟨_, rfl⟩
    rw [hW3]
    have hb3 : Below W2.heap.size W2 W3 := hW3 ▸ (Below.refl _ _).alloc (Nat.le_refl _) _
    have y0 : W3.cell? ⟨W2.heap.size, 0, none⟩ = some (.slice none 0 0) := by rw [← hW3]; simp
    have y1 : W3.cell? ⟨W2.heap.size, 1, none⟩ = some (.int .i64 0) := by rw [← hW3]; simp
    have k0 := cell_regrown y0
    have k1 := cell_regrown y1
    have hp3 : Pv W3 W.heap.size art 0 1 false := (hp1.on hb2).on hb3
    have hr3 := hr2.on hb3
    have z1 := cell_regrown hr3.2.1
    have z2 := cell_regrown hr3.2.2.1
    have z3 := cell_regrown hr3.2.2.2.1
    have z4 := cell_regrown hr3.2.2.2.2
    have c19 : ∀ d os, Calls Tryd.prog 19 #[.nilIface, .agg #[.slice none 0 0, .int .i64 0]] (grow (redrawn W3 d) os) fun x w'' => x = .returned (.bool true) ∧ ∃ p : Regrown, w'' = grow (redrawn W3 p.d) p.os := fun d os => Calls.regrown_of (is_nil _)
    have c15 : ∀ d os, Calls Tryd.prog 15 #[.pointer (some ⟨W.heap.size, 0, none⟩)] (grow (redrawn W3 d) os) fun x w'' => x = .returned (.agg #[.int .i64 1, .bool false, .bool false, .int .i64 0]) ∧ ∃ p : Regrown, w'' = grow (redrawn W3 p.d) p.os := fun d os => Calls.regrown_of (by simpa using state_any _ _ art 0 1 false (hp3.on (below_regrown W3 d os)))
    have hfin : Below w.heap.size w W3 := ((hBW.trans (hb1.mono hBW.size)).trans (hb2.mono (Nat.le_trans hBW.size hb1.size))).trans (hb3.mono (Nat.le_trans (Nat.le_trans hBW.size hb1.size) hb2.size))
    clear hW3 hn hp1 hr2 hp3 hr3 y0 y1 hb1 hb2 hb3 hBW
    refine wp_region_quiet_below hm (by kernel_rfl) ?_
    repeat (quiet_step (first | exact c19 _ _ | exact c15 _ _))
    refine wpQuiet_nil ?_
    intro _ hw'
    obtain ⟨⟨d2, os2⟩, hw''⟩ := hw'
    subst hw''
    go_wp2
    go_ret
    exact ⟨rfl, hfin.trans ((below_regrown W3 d2 os2).mono hfin.size)⟩
  · have ha2 : art < 1 ∨ 1000 < art := by omega
    have hn := new_no W art ha2
    go_wp2_with (first | (go_at_call 12; refine hn.mono ?_; rintro x W1 ⟨v1, rfl, hb1, hp1⟩; have hp1c := hp1; obtain ⟨q1, hv1, hf1⟩ := hp1c; subst hv1) | (go_at_call 18; refine (rnew_no _ art ha2).mono ?_; rintro x W2 ⟨v2, rfl, hb2, hr2⟩; have hr2c := hr2; obtain ⟨g2, cg2, hv2, h20, h21⟩ := hr2c; subst hv2))
    obtain ⟨W3, hW3⟩ : ∃ W3, W2.alloc (.cells #[.slice (some ⟨g2, 0, none⟩) 1 cg2, .int .i64 180] 64) = W3 := ⟨_, rfl⟩
    rw [hW3]
    have hb3 : Below W2.heap.size W2 W3 := hW3 ▸ (Below.refl _ _).alloc (Nat.le_refl _) _
    have y0 : W3.cell? ⟨W2.heap.size, 0, none⟩ = some (.slice (some ⟨g2, 0, none⟩) 1 cg2) := by rw [← hW3]; simp
    have y1 : W3.cell? ⟨W2.heap.size, 1, none⟩ = some (.int .i64 180) := by rw [← hW3]; simp
    have k0 := cell_regrown y0
    have k1 := cell_regrown y1
    have hp3 := (hp1.next hb2).next hb3
    have hr3 := hr2.next hb3
    have c19 : ∀ d os, Calls Tryd.prog 19 #[.iface 138 (.pointer (some ⟨q1, 0, none⟩)), .agg #[.slice (some ⟨g2, 0, none⟩) 1 cg2, .int .i64 180]] (grow (redrawn W3 d) os) fun x w'' => x = .returned (.bool true) ∧ ∃ p : Regrown, w'' = grow (redrawn W3 p.d) p.os := fun d os => Calls.regrown_of (is_yes (hp3.next (below_regrown W3 d os)) (hr3.next (below_regrown W3 d os)) (fun a c h => by cases h; rfl))
    have hfin : Below w.heap.size w W3 := ((hBW.trans (hb1.mono hBW.size)).trans (hb2.mono (Nat.le_trans hBW.size hb1.size))).trans (hb3.mono (Nat.le_trans (Nat.le_trans hBW.size hb1.size) hb2.size))
    clear hW3 hn hp1 hr2 hp3 hr3 y0 y1 hb1 hb2 hb3 hBW h20 h21 hf1
    refine wp_region_quiet_below hm (by kernel_rfl) ?_
    iterate 13 (quiet_step (first | exact c19 _ _))
    refine quiet_move (.tmp 69) rfl (by kernel_rfl) ?_
    iterate 7 (refine quiet_skip (by kernel_rfl) ?_)
    go_simp
    refine ⟨?_⟩
    repeat (quiet_step (first | exact c19 _ _))
    refine wpQuiet_nil ?_
    rintro ⟨d2, os2⟩
    refine ‹∀ (a : Act) (w : World), _ → _› _ _ ?_
    go_wp2
    go_ret
    exact ⟨rfl, hfin.trans ((below_regrown W3 d2 os2).mono hfin.size)⟩
end Go.Proofs.YtiieikdbhpflgaaDoor
