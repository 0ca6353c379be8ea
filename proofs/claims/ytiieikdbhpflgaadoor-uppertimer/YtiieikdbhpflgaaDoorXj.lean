import Derived.Test.YtiieikdbhpflgaaDoorXi
/-
  DERIVED. The actions: two acts; what an abort sends.
-/
namespace Go.Proofs.YtiieikdbhpflgaaDoor
open Go Go.Proofs Go.RowKit

/-- Two acts: one with a PDU that says D, one with none. -/
def Act2 (w : World) (x y k : Int) (c : Fin 18 → Value) (D : PdD) (x2 y2 : Int) (e : Ending) (w' : World) : Prop :=
  ∃ g c', e = .returned (.slice (some ⟨g, 0, none⟩) 2 2) ∧ w.heap.size ≤ g ∧ w'.heap[g]? = some (.cells (Ac x y k c' ++ Ac x2 y2 0 zc) 57) ∧ OX w.heap.size w' c' D ∧ (∀ i, i ≠ 4 → i ≠ 12 → i ≠ 13 → i ≠ 17 → c' i = c i) ∧ Below w.heap.size w w'
theorem slice2 {ops : Array Oper} {rest : List Oper} {o : Oper} {a : Act} {w : World} {Q : Exit → Act → World → Prop} (hg : o.guard = none) (x x2 : Operand) (ho : o.op = .buildSlice 47 2 #[(0, x), (1, x2)]) (RQ R2 : Array Value) (p q k : Int) (c : Fin 18 → Value) (hR : Ac p q k c = RQ) (p2 q2 k2 : Int) (c2 : Fin 18 → Value) (hR2 : Ac p2 q2 k2 c2 = R2) (hx : a.eval x = .agg RQ) (hx2 : a.eval x2 = .agg R2)
    (h : wpList Tryd.prog ops Q rest (a.put o.dst (.slice (some ⟨w.heap.size, 0, none⟩) 2 2)) (w.alloc (.cells (RQ ++ R2) 57))) : wpList Tryd.prog ops Q (o :: rest) a w := by
  obtain ⟨i, hi, hz, hs⟩ := info57'
  subst hR hR2
  refine wpList_buildSlice hg 47 57 2 #[(0, x), (1, x2)] ho (Ac p q k c ++ Ac p2 q2 k2 c2) i (.agg Z57) Tryd.underlying47 hi hz (by rw [hs]; decide) (by rw [hs]; decide) ?_ h
  rw [hs]
  simp only [List.map_toArray, List.map_cons, List.map_nil, hx, hx2]
  exact fill2 p q k c p2 q2 k2 c2
theorem act2_of {w W3 W4 : World} {x y k x2 y2 : Int} {c c3 : Fin 18 → Value} {D : PdD} {RQ R2 : Array Value} (h1 : OX w.heap.size W3 c3 D) (h2 : ∀ i, i ≠ 4 → i ≠ 12 → i ≠ 13 → i ≠ 17 → c3 i = c i) (h3 : Below w.heap.size w W3) (hR : Ac x y k c3 = RQ) (hR2 : Ac x2 y2 0 zc = R2) (hb : Below W3.heap.size W3 W4) : Act2 w x y k c D x2 y2 (.returned (.slice (some ⟨W4.heap.size, 0, none⟩) 2 2)) (W4.alloc (.cells (RQ ++ R2) 57)) := by
  have s1 := h3.size
  have s2 := hb.size
  have hb2 : Below W3.heap.size W3 (W4.alloc (.cells (RQ ++ R2) 57)) := hb.alloc s2 _
  refine ⟨_, c3, rfl, by omega, ?_, h1.keep (fun b _ hlt => hb2.block b hlt), h2, h3.trans (hb2.mono s1)⟩
  rw [hR, hR2]
  exact alloc_new _ _
theorem act2_zero {w W4 : World} {x y k x2 y2 : Int} {c : Fin 18 → Value} (hc : ∀ i, (c i).oneCell' = true) (h4 : c 4 = .slice none 0 0) (h12 : c 12 = .slice none 0 0) (h13 : c 13 = .slice none 0 0) (h17 : c 17 = .slice none 0 0) {RQ R2 : Array Value} (hR : Ac x y k c = RQ) (hR2 : Ac x2 y2 0 zc = R2) (hb : Below w.heap.size w W4) : Act2 w x y k c D0 x2 y2 (.returned (.slice (some ⟨W4.heap.size, 0, none⟩) 2 2)) (W4.alloc (.cells (RQ ++ R2) 57)) :=
  act2_of (ox_zero _ _ _ hc h4 h12 h13 h17) (fun _ _ _ _ _ => rfl) (Below.refl _ _) hR hR2 hb
/-- What an abort of the provider's bears. -/
def abC (r : Int) : Fin 18 → Value := up (up zc 15 (.int .u8 2)) 16 (.int .u8 r)
theorem abC_one (r : Int) : ∀ i, (abC r i).oneCell' = true := fun i => by
  unfold abC up
  split
  · rfl
  split
  · rfl
  exact zc_one i
theorem pd_ab (r : Int) : Tryd.prog.built 40 [(0, .int .i64 7), (3, .int .u8 2), (4, .int .u8 r)] = some (Pd 7 (abC r)) := by kernel_rfl
set_option maxRecDepth 100000 in
set_option maxHeartbeats 2000000 in
theorem tellPduAndShut_any (w : World) (pv : Value) (e : Nat) (t : Int) (EV : Array Value) (kd k1 k2 : Int) (c1 c2 : Fin 18 → Value) (D1 D2 : PdD) (he : w.heap[e]? = some (.cells EV 50)) (hE : EvX w EV kd k1 c1 D1 k2 c2 D2) :
    Calls Tryd.prog 68 #[pv, .pointer (some ⟨e, 0, none⟩), .int .i64 t] w (Act2 w 5 t k1 c1 D1 4 0) := by
  have r3 : w.rangeAt e 1 (Pd k1 c1).toList := fun j v hv => by rw [cell_of_row w _ _ _ _ _ he]; exact hE.pdu j v hv
  have hcp := copied_any w k1 c1 D1 hE.r1
  obtain ⟨fs4, hu4⟩ := hu40
  clear he hE
  go_enter Tryd.func68, Tryd.ntmps68
  go_wp2_with (first | (refine wpList_load_mid rfl 40 (.tmp 10) rfl e 1 rfl (Pd k1 c1).toList _ r3 hu4 rfl (size40 k1 c1) ?_) | (go_at_call 83; refine hcp.mono ?_; refine Stop9.mk ?_))
  rintro x W3 ⟨c3, rfl, hox, hsc, hb3⟩
  have hst := told_any W3 t k1 c3 hox.one
  have HOX : Hid (OX w.heap.size W3 c3 D1 ∧ (∀ i, i ≠ 4 → i ≠ 12 → i ≠ 13 → i ≠ 17 → c3 i = c1 i) ∧ Below w.heap.size w W3) := ⟨hox, hsc, hb3⟩
  clear hox hsc hb3 hcp r3
  go_wp2_with (first | (go_at_call 85; refine hst.mono ?_; refine Stop9.mk ?_))
  rintro x W4 ⟨rfl, hb4⟩
  generalize hRQ : Ac 5 t k1 c3 = RQ
  have HRQ : Hid (Ac 5 t k1 c3 = RQ) := hRQ
  clear hRQ
  have HB4 : Hid (Below W3.heap.size W3 W4) := hb4
  clear hb4 hst
  have hb := ac_zero 4
  generalize hR2 : Ac 4 0 0 zc = R2 at hb
  have HR2 : Hid (Ac 4 0 0 zc = R2) := hR2
  clear hR2
  go_wp2_with (first | (refine step_build rfl 57 _ rfl R2 (by simp [Act.eval]; exact hb) ?_) | (refine slice2 rfl (.tmp 13) (.tmp 14) rfl RQ R2 5 t k1 c3 HRQ.out 4 0 0 zc HR2.out rfl rfl ?_))
  go_ret
  exact act2_of HOX.out.1 HOX.out.2.1 HOX.out.2.2 HRQ.out HR2.out HB4.out
set_option maxRecDepth 100000 in
set_option maxHeartbeats 2000000 in
theorem tellAndShut_any (w : World) (pv ev : Value) (t : Int) : Calls Tryd.prog 74 #[pv, ev, .int .i64 t] w (Act2 w 5 t 0 zc D0 4 0) := by
  have hb := pd_zero0
  have hst := told_any w t 0 zc zc_one
  generalize Pd 0 zc = PQ at hb hst
  go_enter Tryd.func74, Tryd.ntmps74
  go_wp2_with (first | (refine step_build rfl 40 _ rfl PQ (by simp [Act.eval]; exact hb) ?_) | (go_at_call 85; refine hst.mono ?_; refine Stop9.mk ?_))
  rintro x W4 ⟨rfl, hb4⟩
  generalize hRQ : Ac 5 t 0 zc = RQ
  have HRQ : Hid (Ac 5 t 0 zc = RQ) := hRQ
  clear hRQ
  have HB4 : Hid (Below w.heap.size w W4) := hb4
  clear hb4 hst hb
  have hb := ac_zero 4
  generalize hR2 : Ac 4 0 0 zc = R2 at hb
  have HR2 : Hid (Ac 4 0 0 zc = R2) := hR2
  clear hR2
  go_wp2_with (first | (refine step_build rfl 57 _ rfl R2 (by simp [Act.eval]; exact hb) ?_) | (refine slice2 rfl (.tmp 9) (.tmp 10) rfl RQ R2 5 t 0 zc HRQ.out 4 0 0 zc HR2.out rfl rfl ?_))
  go_ret
  exact act2_zero zc_one rfl rfl rfl rfl HRQ.out HR2.out HB4.out
set_option maxRecDepth 100000 in
set_option maxHeartbeats 2000000 in
theorem tellAbort_any (w : World) (pv : Value) (e : Nat) (word : Value) (EV : Array Value) (kd k1 k2 : Int) (s : Nat) (c1 c2 : Fin 18 → Value) (D1 D2 : PdD) (he : w.heap[e]? = some (.cells EV 50)) (hE : EvX w EV kd k1 c1 D1 k2 c2 D2) (hs : c1 15 = .int .u8 s) :
    Calls Tryd.prog 79 #[pv, .pointer (some ⟨e, 0, none⟩), word] w (Act2 w 5 (if s = 0 then 7 else 8) k1 c1 D1 4 0) := by
  have h16 : w.cell? ⟨e, 17, none⟩ = some (.int .u8 s) := by rw [cell_of_row w _ _ _ _ _ he, ← hs]; exact hE.pdu 16 (c1 15) rfl
  have hc7 := tellPduAndShut_any w pv e 7 EV kd k1 k2 c1 c2 D1 D2 he hE
  have hc8 := tellPduAndShut_any w pv e 8 EV kd k1 k2 c1 c2 D1 D2 he hE
  clear he hE hs
  by_cases h0 : s = 0
  · rw [if_pos h0]
    have h0' : (s : Int) = 0 := by omega
    go_enter Tryd.func79, Tryd.ntmps79
    go_wp2_with (go_at_call 68; refine hc7.mono ?_; rintro x W3 ⟨g, c3, rfl, hr⟩; have HR : Hid _ := hr; clear hr)
    go_ret
    exact ⟨g, c3, rfl, HR.out⟩
  · rw [if_neg h0]
    have h0' : ¬ (s : Int) = 0 := by omega
    go_enter Tryd.func79, Tryd.ntmps79
    go_wp2_with (go_at_call 68; refine hc8.mono ?_; rintro x W3 ⟨g, c3, rfl, hr⟩; have HR : Hid _ := hr; clear hr)
    go_ret
    exact ⟨g, c3, rfl, HR.out⟩
end Go.Proofs.YtiieikdbhpflgaaDoor
