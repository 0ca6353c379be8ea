import Derived.Test.YtiieikdbhpflgaaDoorXj
/-
  DERIVED. What an abort of the provider's sends; the two actions that abort.
-/
namespace Go.Proofs.YtiieikdbhpflgaaDoor
open Go Go.Proofs Go.RowKit

set_option maxRecDepth 100000 in
set_option maxHeartbeats 2000000 in
theorem aborted_any (w : World) (e : Nat) (EV : Array Value) (kd r : Int) (he : w.heap[e]? = some (.cells EV 50)) (hk : EV[0]? = some (.int .i64 kd)) (hr : EV[40]? = some (.int .u8 r)) :
    Calls Tryd.prog 86 #[.pointer (some ⟨e, 0, none⟩)] w fun x w' => x = .returned (.agg (Ac 3 0 7 (abC (if kd = 19 then r else 2)))) ∧ Below w.heap.size w w' := by
  have hel : e < w.heap.size := (Array.getElem?_eq_some_iff.1 he).1
  have hA : (w.alloc (.cells Z57 57)).heap[e]? = some (.cells EV 50) := (Below.heap_alloc _ _ _ hel).trans he
  have y0 : (w.alloc (.cells Z57 57)).cell? ⟨e, 0, none⟩ = some (.int .i64 kd) := by rw [cell_of_row _ _ _ _ _ _ hA]; exact hk
  have y40 : (w.alloc (.cells Z57 57)).cell? ⟨e, 40, none⟩ = some (.int .u8 r) := by rw [cell_of_row _ _ _ _ _ _ hA]; exact hr
  obtain ⟨fs5, hu5⟩ := hu57
  clear hA he hk hr
  unfold Z57 at y0 y40
  by_cases h19 : kd = 19
  · rw [if_pos h19]
    have hst := sent_any (w.alloc (.cells Z57 57)) 7 (abC r) (abC_one r)
    have hs := ac_size 3 0 7 (abC r)
    have h1 := ac_one 3 0 7 (abC r) (abC_one r)
    have hl := ac_len 3 0 7 (abC r)
    have hb := pd_ab r
    generalize Pd 7 (abC r) = PQ at hb hst
    generalize Ac 3 0 7 (abC r) = RQ at hst hs h1 hl ⊢
    have hZs : Z57.size = RQ.size := by rw [hl]; rfl
    have hg2 : (w.alloc (.cells Z57 57)).heap[w.heap.size]? = some (.cells Z57 57) := alloc_new w _
    have hbl : Below w.heap.size w (w.alloc (.cells Z57 57)) := (Below.refl _ _).alloc (Nat.le_refl _) _
    go_enter Tryd.func86, Tryd.ntmps86
    go_wp2_with (first | (refine step_build rfl 40 _ rfl PQ (by simp [Act.eval]; exact hb) ?_) | (go_at_call 84; refine hst.mono ?_; refine Stop9.mk ?_))
    rintro x W4 ⟨rfl, hb4⟩
    have hg4 : W4.heap[w.heap.size]? = some (.cells Z57 57) := (hb4.block _ (by simp)).trans hg2
    have hh := setRow_heap W4 w.heap.size _ RQ 57 _ hg4
    have hld := run_loadVar_row (P := Tryd.prog) _ _ _ 57 _ _ _ hh hu5 rfl hs
    have hbe : Below w.heap.size w (W4.setRow w.heap.size RQ) := below_setRow (hbl.trans (hb4.mono (by simp))) (Nat.le_refl _) _
    have HBE : Hid (Below w.heap.size w (W4.setRow w.heap.size RQ)) := hbe
    clear hbe hbl hb4 hst hg2 hb
    go_wp2_with (first | (refine wpList_store_row rfl 57 (.tmp 2) (.tmp 15) rfl w.heap.size RQ rfl rfl 57 _ hg4 hs hZs h1 ?_))
    exact bodyPost_ret (v := .agg RQ) (res_cell (k := 2) Tryd.results86 (by kernel_rfl) hld) rfl ⟨rfl, HBE.out⟩
  · rw [if_neg h19]
    have hst := sent_any (w.alloc (.cells Z57 57)) 7 (abC 2) (abC_one 2)
    have hs := ac_size 3 0 7 (abC 2)
    have h1 := ac_one 3 0 7 (abC 2) (abC_one 2)
    have hl := ac_len 3 0 7 (abC 2)
    have hb := pd_ab 2
    generalize Pd 7 (abC 2) = PQ at hb hst
    generalize Ac 3 0 7 (abC 2) = RQ at hst hs h1 hl ⊢
    have hZs : Z57.size = RQ.size := by rw [hl]; rfl
    have hg2 : (w.alloc (.cells Z57 57)).heap[w.heap.size]? = some (.cells Z57 57) := alloc_new w _
    have hbl : Below w.heap.size w (w.alloc (.cells Z57 57)) := (Below.refl _ _).alloc (Nat.le_refl _) _
    go_enter Tryd.func86, Tryd.ntmps86
    go_wp2_with (first | (refine step_build rfl 40 _ rfl PQ (by simp [Act.eval]; exact hb) ?_) | (go_at_call 84; refine hst.mono ?_; refine Stop9.mk ?_))
    rintro x W4 ⟨rfl, hb4⟩
    have hg4 : W4.heap[w.heap.size]? = some (.cells Z57 57) := (hb4.block _ (by simp)).trans hg2
    have hh := setRow_heap W4 w.heap.size _ RQ 57 _ hg4
    have hld := run_loadVar_row (P := Tryd.prog) _ _ _ 57 _ _ _ hh hu5 rfl hs
    have hbe : Below w.heap.size w (W4.setRow w.heap.size RQ) := below_setRow (hbl.trans (hb4.mono (by simp))) (Nat.le_refl _) _
    have HBE : Hid (Below w.heap.size w (W4.setRow w.heap.size RQ)) := hbe
    clear hbe hbl hb4 hst hg2 hb
    go_wp2_with (first | (refine wpList_store_row rfl 57 (.tmp 2) (.tmp 15) rfl w.heap.size RQ rfl rfl 57 _ hg4 hs hZs h1 ?_))
    exact bodyPost_ret (v := .agg RQ) (res_cell (k := 2) Tryd.results86 (by kernel_rfl) hld) rfl ⟨rfl, HBE.out⟩
set_option maxRecDepth 100000 in
set_option maxHeartbeats 2000000 in
theorem abort_any (w : World) (pv word : Value) (e : Nat) (EV : Array Value) (kd r : Int) (he : w.heap[e]? = some (.cells EV 50)) (hk : EV[0]? = some (.int .i64 kd)) (hr : EV[40]? = some (.int .u8 r)) :
    Calls Tryd.prog 80 #[pv, .pointer (some ⟨e, 0, none⟩), word] w (Act1 w 3 0 7 (abC (if kd = 19 then r else 2)) D0) := by
  have hst := aborted_any w e EV kd r he hk hr
  generalize (if kd = 19 then r else 2) = q at hst ⊢
  clear he hk hr
  go_enter Tryd.func80, Tryd.ntmps80
  go_wp2_with (first | (go_at_call 86; refine hst.mono ?_; refine Stop9.mk ?_))
  rintro x W4 ⟨rfl, hb4⟩
  generalize hRQ : Ac 3 0 7 (abC q) = RQ
  have HRQ : Hid (Ac 3 0 7 (abC q) = RQ) := hRQ
  clear hRQ
  have HB4 : Hid (Below w.heap.size w W4) := hb4
  clear hb4 hst
  go_wp2_with (first | (refine slice1 rfl (.tmp 8) rfl RQ 3 0 7 (abC q) HRQ.out rfl ?_))
  go_ret
  exact act1_of (ox_zero _ _ _ (abC_one q) rfl rfl rfl rfl) (fun _ _ _ _ _ => rfl) (Below.refl _ _) HRQ.out HB4.out
set_option maxRecDepth 100000 in
set_option maxHeartbeats 2000000 in
theorem abortAndTell_any (w : World) (pv : Value) (t : Int) (e : Nat) (EV : Array Value) (kd r : Int) (he : w.heap[e]? = some (.cells EV 50)) (hk : EV[0]? = some (.int .i64 kd)) (hr : EV[40]? = some (.int .u8 r)) :
    Calls Tryd.prog 81 #[pv, .pointer (some ⟨e, 0, none⟩), .int .i64 t] w (Act2 w 3 0 7 (abC (if kd = 19 then r else 2)) D0 5 t) := by
  have hst := aborted_any w e EV kd r he hk hr
  generalize (if kd = 19 then r else 2) = q at hst ⊢
  clear he hk hr
  go_enter Tryd.func81, Tryd.ntmps81
  go_wp2_with (first | (go_at_call 86; refine hst.mono ?_; refine Stop9.mk ?_))
  rintro x W4 ⟨rfl, hb4⟩
  generalize hRQ : Ac 3 0 7 (abC q) = RQ
  have HRQ : Hid (Ac 3 0 7 (abC q) = RQ) := hRQ
  clear hRQ
  have HB4 : Hid (Below w.heap.size w W4) := hb4
  have hst2 := told_any W4 t 0 zc zc_one
  have hb := pd_zero0
  generalize Pd 0 zc = PQ at hb hst2
  clear hb4 hst
  go_wp2_with (first | (refine step_build rfl 40 _ rfl PQ (by simp [Act.eval]; exact hb) ?_) | (go_at_call 85; refine hst2.mono ?_; refine Stop9.mk ?_))
  rintro x W5 ⟨rfl, hb5⟩
  generalize hR2 : Ac 5 t 0 zc = R2
  have HR2 : Hid (Ac 5 t 0 zc = R2) := hR2
  clear hR2
  have HB5 : Hid (Below w.heap.size w W5) := HB4.out.trans (hb5.mono HB4.out.size)
  clear hb5 hst2 hb
  go_wp2_with (first | (refine slice2 rfl (.tmp 8) (.tmp 11) rfl RQ R2 3 0 7 (abC q) HRQ.out 5 t 0 zc HR2.out rfl rfl ?_))
  go_ret
  exact act2_zero (abC_one q) rfl rfl rfl rfl HRQ.out HR2.out HB5.out
end Go.Proofs.YtiieikdbhpflgaaDoor
