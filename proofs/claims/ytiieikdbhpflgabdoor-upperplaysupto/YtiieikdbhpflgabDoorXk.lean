import Derived.Test.YtiieikdbhpflgabDoorXi
/-
  DERIVED. The actions: two acts; what an abort sends.
-/
namespace Go.Proofs.YtiieikdbhpflgabDoor
open Go Go.Proofs Go.RowKit

/-- Two acts: one with a PDU that says D, one with none. -/
def Act2 (w : World) (x y k : Int) (c : Fin 18 → Value) (D : PdD) (x2 y2 : Int) (e : Ending) (w' : World) : Prop :=
  ∃ g c', e = .returned (.slice (some ⟨g, 0, none⟩) 2 2) ∧ w.heap.size ≤ g ∧ w'.heap[g]? = some (.cells (Ac x y k c' ++ Ac x2 y2 0 zc) 61) ∧ OX w.heap.size w' c' D ∧ (∀ i, i ≠ 4 → i ≠ 12 → i ≠ 13 → i ≠ 17 → c' i = c i) ∧ Below w.heap.size w w'
theorem slice2 {ops : Array Oper} {rest : List Oper} {o : Oper} {a : Act} {w : World} {Q : Exit → Act → World → Prop} (hg : o.guard = none) (x x2 : Operand) (ho : o.op = .buildSlice 50 2 #[(0, x), (1, x2)]) (RQ R2 : Array Value) (p q k : Int) (c : Fin 18 → Value) (hR : Ac p q k c = RQ) (p2 q2 k2 : Int) (c2 : Fin 18 → Value) (hR2 : Ac p2 q2 k2 c2 = R2) (hx : a.eval x = .agg RQ) (hx2 : a.eval x2 = .agg R2)
    (h : wpList Tryd.prog ops Q rest (a.put o.dst (.slice (some ⟨w.heap.size, 0, none⟩) 2 2)) (w.alloc (.cells (RQ ++ R2) 61))) : wpList Tryd.prog ops Q (o :: rest) a w := by
  obtain ⟨i, hi, hz, hs⟩ := info57'
  subst hR hR2
  refine wpList_buildSlice hg 50 61 2 #[(0, x), (1, x2)] ho (Ac p q k c ++ Ac p2 q2 k2 c2) i (.agg Z57) Tryd.underlying50 hi hz (by rw [hs]; decide) (by rw [hs]; decide) ?_ h
  rw [hs]
  simp only [List.map_toArray, List.map_cons, List.map_nil, hx, hx2]
  exact fill2 p q k c p2 q2 k2 c2
theorem act2_of {w W3 W4 : World} {x y k x2 y2 : Int} {c c3 : Fin 18 → Value} {D : PdD} {RQ R2 : Array Value} (h1 : OX w.heap.size W3 c3 D) (h2 : ∀ i, i ≠ 4 → i ≠ 12 → i ≠ 13 → i ≠ 17 → c3 i = c i) (h3 : Below w.heap.size w W3) (hR : Ac x y k c3 = RQ) (hR2 : Ac x2 y2 0 zc = R2) (hb : Below W3.heap.size W3 W4) : Act2 w x y k c D x2 y2 (.returned (.slice (some ⟨W4.heap.size, 0, none⟩) 2 2)) (W4.alloc (.cells (RQ ++ R2) 61)) := by
  have s1 := h3.size
  have s2 := hb.size
  have hb2 : Below W3.heap.size W3 (W4.alloc (.cells (RQ ++ R2) 61)) := hb.alloc s2 _
  refine ⟨_, c3, rfl, by omega, ?_, h1.keep (fun b _ hlt => hb2.block b hlt), h2, h3.trans (hb2.mono s1)⟩
  rw [hR, hR2]
  exact alloc_new _ _
theorem act2_zero {w W4 : World} {x y k x2 y2 : Int} {c : Fin 18 → Value} (hc : ∀ i, (c i).oneCell' = true) (h4 : c 4 = .slice none 0 0) (h12 : c 12 = .slice none 0 0) (h13 : c 13 = .slice none 0 0) (h17 : c 17 = .slice none 0 0) {RQ R2 : Array Value} (hR : Ac x y k c = RQ) (hR2 : Ac x2 y2 0 zc = R2) (hb : Below w.heap.size w W4) : Act2 w x y k c D0 x2 y2 (.returned (.slice (some ⟨W4.heap.size, 0, none⟩) 2 2)) (W4.alloc (.cells (RQ ++ R2) 61)) :=
  act2_of (ox_zero _ _ _ hc h4 h12 h13 h17) (fun _ _ _ _ _ => rfl) (Below.refl _ _) hR hR2 hb
/-- What an abort of the provider's bears. -/
def abC (r : Int) : Fin 18 → Value := up (up zc 15 (.int .u8 2)) 16 (.int .u8 r)
theorem abC_one (r : Int) : ∀ i, (abC r i).oneCell' = true := fun i => by
  unfold abC up
  split
  · rfl
  split
  · rfl
  exact zc_one i
theorem pd_ab (r : Int) : Tryd.prog.built 46 [(0, .int .i64 7), (3, .int .u8 2), (4, .int .u8 r)] = some (Pd 7 (abC r)) := by kernel_rfl
set_option maxRecDepth 100000 in
set_option maxHeartbeats 2000000 in
theorem tellPduAndShut_any (w : World) (pv : Value) (e : Nat) (t : Int) (EV : Array Value) (kd k1 k2 : Int) (c1 c2 : Fin 18 → Value) (D1 D2 : PdD) (he : w.heap[e]? = some (.cells EV 48)) (hE : EvX w EV kd k1 c1 D1 k2 c2 D2) :
    Calls Tryd.prog 54 #[pv, .pointer (some ⟨e, 0, none⟩), .int .i64 t] w (Act2 w 5 t k1 c1 D1 4 0) := by
  have r3 : w.rangeAt e 1 (Pd k1 c1).toList := fun j v hv => by rw [cell_of_row w _ _ _ _ _ he]; exact hE.pdu j v hv
  have hcp := copied_any w k1 c1 D1 hE.r1
  obtain ⟨fs4, hu4⟩ := hu40
  clear he hE
  go_enter Tryd.func54, Tryd.ntmps54
  go_wp2_with (first | (refine wpList_load_mid rfl 46 (.tmp 10) rfl e 1 rfl (Pd k1 c1).toList _ r3 hu4 rfl (size40 k1 c1) ?_) | (go_at_call 68; refine hcp.mono ?_; refine Stop9.mk ?_))
  rintro x W3 ⟨c3, rfl, hox, hsc, hb3⟩
  have hst := told_any W3 t k1 c3 hox.one
  have HOX : Hid (OX w.heap.size W3 c3 D1 ∧ (∀ i, i ≠ 4 → i ≠ 12 → i ≠ 13 → i ≠ 17 → c3 i = c1 i) ∧ Below w.heap.size w W3) := ⟨hox, hsc, hb3⟩
  clear hox hsc hb3 hcp r3
  go_wp2_with (first | (go_at_call 70; refine hst.mono ?_; refine Stop9.mk ?_))
  rintro x W4 ⟨rfl, hb4⟩
  generalize hRQ : Ac 5 t k1 c3 = RQ
  have HRQ : Hid (Ac 5 t k1 c3 = RQ) := hRQ
  clear hRQ
  have HB4 : Hid (Below W3.heap.size W3 W4) := hb4
  clear hb4 hst
  have hb := ac_zero 4
  generalize hR2 : Ac 4 0 0 zc = R2 at hb
  have HR2 : Hid (Ac 4 0 0 zc = R2) := hR2
  clear hR2
  go_wp2_with (first | (refine step_build rfl 61 _ rfl R2 (by simp [Act.eval]; exact hb) ?_) | (refine slice2 rfl (.tmp 13) (.tmp 14) rfl RQ R2 5 t k1 c3 HRQ.out 4 0 0 zc HR2.out rfl rfl ?_))
  go_ret
  exact act2_of HOX.out.1 HOX.out.2.1 HOX.out.2.2 HRQ.out HR2.out HB4.out
set_option maxRecDepth 100000 in
set_option maxHeartbeats 2000000 in
theorem tellAndShut_any (w : World) (pv ev : Value) (t : Int) : Calls Tryd.prog 60 #[pv, ev, .int .i64 t] w (Act2 w 5 t 0 zc D0 4 0) := by
  have hb := pd_zero0
  have hst := told_any w t 0 zc zc_one
  generalize Pd 0 zc = PQ at hb hst
  go_enter Tryd.func60, Tryd.ntmps60
  go_wp2_with (first | (refine step_build rfl 46 _ rfl PQ (by simp [Act.eval]; exact hb) ?_) | (go_at_call 70; refine hst.mono ?_; refine Stop9.mk ?_))
  rintro x W4 ⟨rfl, hb4⟩
  generalize hRQ : Ac 5 t 0 zc = RQ
  have HRQ : Hid (Ac 5 t 0 zc = RQ) := hRQ
  clear hRQ
  have HB4 : Hid (Below w.heap.size w W4) := hb4
  clear hb4 hst hb
  have hb := ac_zero 4
  generalize hR2 : Ac 4 0 0 zc = R2 at hb
  have HR2 : Hid (Ac 4 0 0 zc = R2) := hR2
  clear hR2
  go_wp2_with (first | (refine step_build rfl 61 _ rfl R2 (by simp [Act.eval]; exact hb) ?_) | (refine slice2 rfl (.tmp 9) (.tmp 10) rfl RQ R2 5 t 0 zc HRQ.out 4 0 0 zc HR2.out rfl rfl ?_))
  go_ret
  exact act2_zero zc_one rfl rfl rfl rfl HRQ.out HR2.out HB4.out
set_option maxRecDepth 100000 in
set_option maxHeartbeats 2000000 in
theorem tellAbort_any (w : World) (pv : Value) (e : Nat) (word : Value) (EV : Array Value) (kd k1 k2 : Int) (s : Nat) (c1 c2 : Fin 18 → Value) (D1 D2 : PdD) (he : w.heap[e]? = some (.cells EV 48)) (hE : EvX w EV kd k1 c1 D1 k2 c2 D2) (hs : c1 15 = .int .u8 s) :
    Calls Tryd.prog 65 #[pv, .pointer (some ⟨e, 0, none⟩), word] w (Act2 w 5 (if s = 0 then 7 else 8) k1 c1 D1 4 0) := by
  have h16 : w.cell? ⟨e, 17, none⟩ = some (.int .u8 s) := by rw [cell_of_row w _ _ _ _ _ he, ← hs]; exact hE.pdu 16 (c1 15) rfl
  have hc7 := tellPduAndShut_any w pv e 7 EV kd k1 k2 c1 c2 D1 D2 he hE
  have hc8 := tellPduAndShut_any w pv e 8 EV kd k1 k2 c1 c2 D1 D2 he hE
  clear he hE hs
  by_cases h0 : s = 0
  · rw [if_pos h0]
    have h0' : (s : Int) = 0 := by omega
    go_enter Tryd.func65, Tryd.ntmps65
    go_wp2_with (go_at_call 54; refine hc7.mono ?_; rintro x W3 ⟨g, c3, rfl, hr⟩; have HR : Hid _ := hr; clear hr)
    go_ret
    exact ⟨g, c3, rfl, HR.out⟩
  · rw [if_neg h0]
    have h0' : ¬ (s : Int) = 0 := by omega
    go_enter Tryd.func65, Tryd.ntmps65
    go_wp2_with (go_at_call 54; refine hc8.mono ?_; rintro x W3 ⟨g, c3, rfl, hr⟩; have HR : Hid _ := hr; clear hr)
    go_ret
    exact ⟨g, c3, rfl, HR.out⟩
end Go.Proofs.YtiieikdbhpflgabDoor

/-
  DERIVED. What an abort of the provider's sends; the two actions that abort.
-/
namespace Go.Proofs.YtiieikdbhpflgabDoor
open Go Go.Proofs Go.RowKit

set_option maxRecDepth 100000 in
set_option maxHeartbeats 2000000 in
theorem aborted_any (w : World) (e : Nat) (EV : Array Value) (kd r : Int) (he : w.heap[e]? = some (.cells EV 48)) (hk : EV[0]? = some (.int .i64 kd)) (hr : EV[40]? = some (.int .u8 r)) :
    Calls Tryd.prog 71 #[.pointer (some ⟨e, 0, none⟩)] w fun x w' => x = .returned (.agg (Ac 3 0 7 (abC (if kd = 19 then r else 2)))) ∧ Below w.heap.size w w' := by
  have hel : e < w.heap.size := (Array.getElem?_eq_some_iff.1 he).1
  have hA : (w.alloc (.cells Z57 61)).heap[e]? = some (.cells EV 48) := (Below.heap_alloc _ _ _ hel).trans he
  have y0 : (w.alloc (.cells Z57 61)).cell? ⟨e, 0, none⟩ = some (.int .i64 kd) := by rw [cell_of_row _ _ _ _ _ _ hA]; exact hk
  have y40 : (w.alloc (.cells Z57 61)).cell? ⟨e, 40, none⟩ = some (.int .u8 r) := by rw [cell_of_row _ _ _ _ _ _ hA]; exact hr
  obtain ⟨fs5, hu5⟩ := hu57
  clear hA he hk hr
  unfold Z57 at y0 y40
  by_cases h19 : kd = 19
  · rw [if_pos h19]
    have hst := sent_any (w.alloc (.cells Z57 61)) 7 (abC r) (abC_one r)
    have hs := ac_size 3 0 7 (abC r)
    have h1 := ac_one 3 0 7 (abC r) (abC_one r)
    have hl := ac_len 3 0 7 (abC r)
    have hb := pd_ab r
    generalize Pd 7 (abC r) = PQ at hb hst
    generalize Ac 3 0 7 (abC r) = RQ at hst hs h1 hl ⊢
    have hZs : Z57.size = RQ.size := by rw [hl]; rfl
    have hg2 : (w.alloc (.cells Z57 61)).heap[w.heap.size]? = some (.cells Z57 61) := alloc_new w _
    have hbl : Below w.heap.size w (w.alloc (.cells Z57 61)) := (Below.refl _ _).alloc (Nat.le_refl _) _
    go_enter Tryd.func71, Tryd.ntmps71
    go_wp2_with (first | (refine step_build rfl 46 _ rfl PQ (by simp [Act.eval]; exact hb) ?_) | (go_at_call 69; refine hst.mono ?_; refine Stop9.mk ?_))
    rintro x W4 ⟨rfl, hb4⟩
    have hg4 : W4.heap[w.heap.size]? = some (.cells Z57 61) := (hb4.block _ (by simp)).trans hg2
    have hh := setRow_heap W4 w.heap.size _ RQ 61 _ hg4
    have hld := run_loadVar_row (P := Tryd.prog) _ _ _ 61 _ _ _ hh hu5 rfl hs
    have hbe : Below w.heap.size w (W4.setRow w.heap.size RQ) := below_setRow (hbl.trans (hb4.mono (by simp))) (Nat.le_refl _) _
    have HBE : Hid (Below w.heap.size w (W4.setRow w.heap.size RQ)) := hbe
    clear hbe hbl hb4 hst hg2 hb
    go_wp2_with (first | (refine wpList_store_row rfl 61 (.tmp 2) (.tmp 15) rfl w.heap.size RQ rfl rfl 61 _ hg4 hs hZs h1 ?_))
    exact bodyPost_ret (v := .agg RQ) (res_cell (k := 2) Tryd.results71 (by kernel_rfl) hld) rfl ⟨rfl, HBE.out⟩
  · rw [if_neg h19]
    have hst := sent_any (w.alloc (.cells Z57 61)) 7 (abC 2) (abC_one 2)
    have hs := ac_size 3 0 7 (abC 2)
    have h1 := ac_one 3 0 7 (abC 2) (abC_one 2)
    have hl := ac_len 3 0 7 (abC 2)
    have hb := pd_ab 2
    generalize Pd 7 (abC 2) = PQ at hb hst
    generalize Ac 3 0 7 (abC 2) = RQ at hst hs h1 hl ⊢
    have hZs : Z57.size = RQ.size := by rw [hl]; rfl
    have hg2 : (w.alloc (.cells Z57 61)).heap[w.heap.size]? = some (.cells Z57 61) := alloc_new w _
    have hbl : Below w.heap.size w (w.alloc (.cells Z57 61)) := (Below.refl _ _).alloc (Nat.le_refl _) _
    go_enter Tryd.func71, Tryd.ntmps71
    go_wp2_with (first | (refine step_build rfl 46 _ rfl PQ (by simp [Act.eval]; exact hb) ?_) | (go_at_call 69; refine hst.mono ?_; refine Stop9.mk ?_))
    rintro x W4 ⟨rfl, hb4⟩
    have hg4 : W4.heap[w.heap.size]? = some (.cells Z57 61) := (hb4.block _ (by simp)).trans hg2
    have hh := setRow_heap W4 w.heap.size _ RQ 61 _ hg4
    have hld := run_loadVar_row (P := Tryd.prog) _ _ _ 61 _ _ _ hh hu5 rfl hs
    have hbe : Below w.heap.size w (W4.setRow w.heap.size RQ) := below_setRow (hbl.trans (hb4.mono (by simp))) (Nat.le_refl _) _
    have HBE : Hid (Below w.heap.size w (W4.setRow w.heap.size RQ)) := hbe
    clear hbe hbl hb4 hst hg2 hb
    go_wp2_with (first | (refine wpList_store_row rfl 61 (.tmp 2) (.tmp 15) rfl w.heap.size RQ rfl rfl 61 _ hg4 hs hZs h1 ?_))
    exact bodyPost_ret (v := .agg RQ) (res_cell (k := 2) Tryd.results71 (by kernel_rfl) hld) rfl ⟨rfl, HBE.out⟩
set_option maxRecDepth 100000 in
set_option maxHeartbeats 2000000 in
theorem abort_any (w : World) (pv word : Value) (e : Nat) (EV : Array Value) (kd r : Int) (he : w.heap[e]? = some (.cells EV 48)) (hk : EV[0]? = some (.int .i64 kd)) (hr : EV[40]? = some (.int .u8 r)) :
    Calls Tryd.prog 66 #[pv, .pointer (some ⟨e, 0, none⟩), word] w (Act1 w 3 0 7 (abC (if kd = 19 then r else 2)) D0) := by
  have hst := aborted_any w e EV kd r he hk hr
  generalize (if kd = 19 then r else 2) = q at hst ⊢
  clear he hk hr
  go_enter Tryd.func66, Tryd.ntmps66
  go_wp2_with (first | (go_at_call 71; refine hst.mono ?_; refine Stop9.mk ?_))
  rintro x W4 ⟨rfl, hb4⟩
  generalize hRQ : Ac 3 0 7 (abC q) = RQ
  have HRQ : Hid (Ac 3 0 7 (abC q) = RQ) := hRQ
  clear hRQ
  have HB4 : Hid (Below w.heap.size w W4) := hb4
  clear hb4 hst
  go_wp2_with (first | (refine slice1 rfl (.tmp 8) rfl RQ 3 0 7 (abC q) HRQ.out rfl ?_))
  go_ret
  exact act1_of (ox_zero _ _ _ (abC_one q) rfl rfl rfl rfl) (fun _ _ _ _ _ => rfl) (Below.refl _ _) HRQ.out HB4.out
set_option maxRecDepth 100000 in
set_option maxHeartbeats 2000000 in
theorem abortAndTell_any (w : World) (pv : Value) (t : Int) (e : Nat) (EV : Array Value) (kd r : Int) (he : w.heap[e]? = some (.cells EV 48)) (hk : EV[0]? = some (.int .i64 kd)) (hr : EV[40]? = some (.int .u8 r)) :
    Calls Tryd.prog 67 #[pv, .pointer (some ⟨e, 0, none⟩), .int .i64 t] w (Act2 w 3 0 7 (abC (if kd = 19 then r else 2)) D0 5 t) := by
  have hst := aborted_any w e EV kd r he hk hr
  generalize (if kd = 19 then r else 2) = q at hst ⊢
  clear he hk hr
  go_enter Tryd.func67, Tryd.ntmps67
  go_wp2_with (first | (go_at_call 71; refine hst.mono ?_; refine Stop9.mk ?_))
  rintro x W4 ⟨rfl, hb4⟩
  generalize hRQ : Ac 3 0 7 (abC q) = RQ
  have HRQ : Hid (Ac 3 0 7 (abC q) = RQ) := hRQ
  clear hRQ
  have HB4 : Hid (Below w.heap.size w W4) := hb4
  have hst2 := told_any W4 t 0 zc zc_one
  have hb := pd_zero0
  generalize Pd 0 zc = PQ at hb hst2
  clear hb4 hst
  go_wp2_with (first | (refine step_build rfl 46 _ rfl PQ (by simp [Act.eval]; exact hb) ?_) | (go_at_call 70; refine hst2.mono ?_; refine Stop9.mk ?_))
  rintro x W5 ⟨rfl, hb5⟩
  generalize hR2 : Ac 5 t 0 zc = R2
  have HR2 : Hid (Ac 5 t 0 zc = R2) := hR2
  clear hR2
  have HB5 : Hid (Below w.heap.size w W5) := HB4.out.trans (hb5.mono HB4.out.size)
  clear hb5 hst2 hb
  go_wp2_with (first | (refine slice2 rfl (.tmp 8) (.tmp 11) rfl RQ R2 3 0 7 (abC q) HRQ.out 5 t 0 zc HR2.out rfl rfl ?_))
  go_ret
  exact act2_zero (abC_one q) rfl rfl rfl rfl HRQ.out HR2.out HB5.out
end Go.Proofs.YtiieikdbhpflgabDoor
