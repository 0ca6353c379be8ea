import Derived.Test.YtpnmnjelppnfoaaGreatNobB
import Derived.Test.YtpnmnjelppnfoaaGreatNever
import Derived.OwnWalkIn
import Derived.TacticsInMore
import Derived.LoopNIn
import Derived.LoopIn
import Derived.Shelf.Abstract
namespace Go.Proofs.YtpnmnjelppnfoaaGreat
open Go.RowKit Go.Shelf
attribute [local go_sem] Oper.semAt_some

set_option maxHeartbeats 400000 in
theorem insertion_nil (w : World) : Calls Tryz.prog 108 #[.slice none 0 0, .int .i64 0, .int .i64 0] w fun e w' => (∃ v, e = .returned v) ∧ w = w' := by
  go_enter Tryz.func108, Tryz.ntmps108
  go_wp2
  refine wp_loop_rounds 1 ?_
  rw [rounds_succ]
  go_wp2
  refine bodyPost_end (results_none rfl _ _ _) rfl ?_
  exact ⟨⟨_, rfl⟩, rfl⟩

set_option maxHeartbeats 400000 in
theorem pdq_nil (k : Int) (w : World) : Calls Tryz.prog 104 #[.slice none 0 0, .int .i64 0, .int .i64 0, .int .i64 k] w fun e w' => (∃ v, e = .returned v) ∧ w = w' := by
  go_enter Tryz.func104, Tryz.ntmps104
  go_wp2
  refine wp_loop_rounds 1 ?_
  rw [rounds_succ]
  go_wp2_with (go_at_call 108; refine (insertion_nil _).mono ?_; rintro e w' ⟨⟨v, rfl⟩, rfl⟩)
  refine bodyPost_ret (results_none rfl _ _ _) rfl ?_
  exact ⟨⟨_, rfl⟩, rfl⟩

set_option maxRecDepth 100000 in
set_option maxHeartbeats 400000 in
theorem sort_nil (w : World) : Calls Tryz.prog 93 #[.slice none 0 0] w fun e w' => (∃ v, e = .returned v) ∧ w = w' := by
  go_enter Tryz.func93, Tryz.ntmps93
  go_wp2_with (first | (go_at_call 104; refine (pdq_nil _ _).mono ?_; rintro e w' ⟨⟨v, rfl⟩, rfl⟩) | go_in)
  refine bodyPost_end (results_none rfl _ _ _) rfl ?_
  exact ⟨⟨_, rfl⟩, rfl⟩

theorem keys_any (m : Option Nat) (w : World) : Calls Tryz.prog 80 #[.map m] w fun e w' => e = .returned (.func (.func 94) #[] #[.pointer (some ⟨w.heap.size, 0, none⟩)]) ∧ w.alloc (.cells #[.map m] 117) = w' := by
  go_enter Tryz.func80, Tryz.ntmps80
  go_wp2
  go_ret
  exact ⟨rfl, rfl⟩

set_option maxRecDepth 100000 in
set_option maxHeartbeats 400000 in
theorem keys1_nil (l B : Nat) (w : World) (h : w.cell? ⟨B, 0, none⟩ = some (.map none)) : Calls Tryz.prog 94 #[.func (.yield l) #[] #[], .pointer (some ⟨B, 0, none⟩)] w fun e w' => (∃ v, e = .returned v) ∧ Below w.heap.size w w' := by
  have hr := fun (w : World) => run_range_nilMap (P := Tryz.prog) w 117 9 3 Tryz.underlying117
  have hx := fun (w : World) (ty : TypeId) => run_next_nilMap (P := Tryz.prog) w ty 0 0 #[]
  go_enter Tryz.func94, Tryz.ntmps94
  go_wp2
  refine wp_loop_rounds 1 ?_
  rw [rounds_succ]
  go_wp2
  refine bodyPost_end (results_none rfl _ _ _) rfl ?_
  exact ⟨⟨_, rfl⟩, (Below.refl _ _).alloc (Nat.le_refl _) _⟩

theorem below_putObj {n D : Nat} {W : World} (h : n ≤ D) (o : Obj) : Below n W (W.putObj D o) :=
  ⟨rfl, rfl, rfl, by simp, fun k hk => World.putObj_heap_other (by omega)⟩

/-- slices.AppendSeq to nil over an iterator that yields nothing. -/
theorem appendSeq_none (gf : Nat) (lb : Array Value) (w : World) (eg : ∀ args w, (callFunc gf args).run Tryz.prog w = .ok (.enter gf args) w)
    (hc : ∀ l W, Below w.heap.size w W → Calls Tryz.prog gf (#[.func (.yield l) #[] #[]] ++ lb) W fun e W' => (∃ v, e = .returned v) ∧ Below W.heap.size W W') :
    Calls Tryz.prog 103 #[.slice none 0 0, .func (.func gf) #[] lb] w fun e w' => e = .returned (.slice none 0 0) ∧ Below w.heap.size w w' := by
  refine (callsIn_wide (n := 3)).1 ?_
  refine callsIn_of_wp_marks Tryz.func103 rfl trivial ?_ rfl
  simp only [Tryz.ntmps103, List.size_toArray, List.length_cons, List.length_nil, Nat.reduceAdd, Nat.reduceSub, Array.replicate_succ, Array.replicate_zero, List.push_toArray, List.append_toArray, List.nil_append, List.cons_append]
  gi_wp2
  have hbx : Below w.heap.size w (w.alloc (.cells #[.slice none 0 0] 138)) := (Below.refl _ _).alloc (Nat.le_refl _) _
  refine wpIn_rangeFunc_never rfl (by decide) (gf := gf) (lb := lb) rfl trivial eg (fun l W hW => callsIn_wide.2 (hc l W (hbx.trans (hW.mono (by simp))))) ?_
  intro D W hW hD hK
  have hc2 : W.cell? ⟨w.heap.size, 0, none⟩ = some (.slice none 0 0) := (hW.cell (p := ⟨w.heap.size, 0, none⟩) (by simp)).trans (by simp)
  gi_wp2
  refine ⟨by simp, .inl ⟨_, _, rfl, run_takeDeferred hK, ?_⟩⟩
  exact ⟨_, results_tmp rfl _ _ _, rfl, (hbx.trans (hW.mono (by simp))).trans (below_putObj (by simp at hD; omega) _)⟩


/-- slices.Sorted over an iterator that yields nothing. -/
theorem sorted_none (gf : Nat) (lb : Array Value) (w : World) (eg : ∀ args w, (callFunc gf args).run Tryz.prog w = .ok (.enter gf args) w)
    (hc : ∀ l W, Below w.heap.size w W → Calls Tryz.prog gf (#[.func (.yield l) #[] #[]] ++ lb) W fun e W' => (∃ v, e = .returned v) ∧ Below W.heap.size W W') :
    Calls Tryz.prog 79 #[.func (.func gf) #[] lb] w fun e w' => e = .returned (.slice none 0 0) ∧ Below w.heap.size w w' := by
  go_enter Tryz.func79, Tryz.ntmps79
  go_wp2_with (first | (go_at_call 103; refine (appendSeq_none gf lb w eg hc).mono ?_; rintro e W1 ⟨rfl, hb1⟩) | (go_at_call 93; refine (sort_nil _).mono ?_; rintro e W1 ⟨⟨v, rfl⟩, rfl⟩) | go_in)
  go_ret
  exact ⟨rfl, hb1⟩

theorem enters94 : ∀ args w, (callFunc 94 args).run Tryz.prog w = .ok (.enter 94 args) w := enters_of Tryz.func94 (by kernel_rfl) rfl

set_option maxHeartbeats 400000 in
theorem rising1_nil (l B : Nat) (w : World) (h : w.cell? ⟨B, 0, none⟩ = some (.map none)) : Calls Tryz.prog 78 #[.func (.yield l) #[] #[], .pointer (some ⟨B, 0, none⟩)] w fun e w' => (∃ v, e = .returned v) ∧ Below w.heap.size w w' := by
  obtain ⟨W1, hW1⟩ : ∃ W1, w.alloc (.cells #[.map none] 117) = W1 := ⟨_, rfl⟩
  have hb1 : Below w.heap.size w W1 := hW1 ▸ (Below.refl _ _).alloc (Nat.le_refl _) _
  have hB : W1.cell? ⟨w.heap.size, 0, none⟩ = some (.map none) := by rw [← hW1]; simp
  have hlt : w.heap.size < W1.heap.size := by rw [← hW1]; simp
  have hs := sorted_none 94 #[.pointer (some ⟨w.heap.size, 0, none⟩)] W1 enters94 (fun l W hW => keys1_nil l w.heap.size W ((hW.cell (p := ⟨w.heap.size, 0, none⟩) hlt).trans hB))
  go_enter Tryz.func78, Tryz.ntmps78
  go_wp2_with (first | (go_at_call 80; refine (keys_any _ _).mono ?_; rintro e W2 ⟨rfl, rfl⟩) | (go_at_call 79; refine hs.mono ?_; rintro e W2 ⟨rfl, hb2⟩))
  refine wp_loop_rounds 1 ?_
  rw [rounds_succ]
  go_wp2
  refine bodyPost_end (results_none rfl _ _ _) rfl ?_
  exact ⟨⟨_, rfl⟩, hb1.trans (hb2.mono hb1.size)⟩


set_option maxHeartbeats 400000 in
theorem list1_no (l B : Nat) (p : Option Addr) (w : World) (h : w.cell? ⟨B, 0, none⟩ = some (.pointer p)) (hn : Nob w p) : Calls Tryz.prog 55 #[.func (.yield l) #[] #[], .pointer (some ⟨B, 0, none⟩)] w fun e w' => (∃ v, e = .returned v) ∧ Below w.heap.size w w' := by
  obtain ⟨W1, hW1⟩ : ∃ W1, w.alloc (.cells #[.map none] 117) = W1 := ⟨_, rfl⟩
  have hb1 : Below w.heap.size w W1 := hW1 ▸ (Below.refl _ _).alloc (Nat.le_refl _) _
  have hB : W1.cell? ⟨w.heap.size, 0, none⟩ = some (.map none) := by rw [← hW1]; simp
  have hr := rising1_nil l w.heap.size W1 hB
  go_enter Tryz.func55, Tryz.ntmps55
  go_wp2_with (first | (go_at_call 57; refine (sizes_no _ _ hn).mono ?_; rintro e W2 ⟨rfl, rfl⟩) | (go_at_call 56; refine (rising_any _ _).mono ?_; rintro e W2 ⟨rfl, rfl⟩) | (go_at_call 78; refine hr.mono ?_; rintro e W2 ⟨⟨v, rfl⟩, hb2⟩))
  refine bodyPost_end (results_none rfl _ _ _) rfl ?_
  exact ⟨⟨_, rfl⟩, hb1.trans (hb2.mono hb1.size)⟩

end Go.Proofs.YtpnmnjelppnfoaaGreat
