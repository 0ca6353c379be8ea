import Derived.Test.YtpnmnjelppnfoabGreatBegE
import Derived.OwnWalkIn
import Derived.TacticsInMore
import Derived.LoopNIn
import Derived.LoopIn
import Derived.Shelf.Abstract
namespace Go.Proofs.YtpnmnjelppnfoabGreat
open Go.RowKit Go.Shelf
attribute [local go_sem] Oper.semAt_some

theorem run_next_empty (w : World) (ty : TypeId) (m : Nat) (hm : w.heap[m]? = some (.map #[] 0)) :
    (Instr.next (.pointer (some ⟨w.heap.size, 0, none⟩)) false ty).run Tryz.prog (w.alloc (.mapIter (some m) 0 #[] 0)) = .ok (.tuple #[.bool false]) (w.alloc (.mapIter (some m) 0 #[] 0)) := by
  rcases run_next_map (P := Tryz.prog) w ty m 0 0 #[] #[] 0 hm (by simp) (Nat.le_refl _) with ⟨_, h⟩ | ⟨e, he, _⟩
  · exact h
  · simp [leftOf] at he

set_option maxHeartbeats 400000 in
theorem insertion_nil (w : World) : Calls Tryz.prog 158 #[.slice none 0 0, .int .i64 0, .int .i64 0] w fun e w' => (∃ v, e = .returned v) ∧ w = w' := by
  go_enter Tryz.func158, Tryz.ntmps158
  go_wp2
  refine wp_loop_rounds 1 ?_
  rw [rounds_succ]
  go_wp2
  refine bodyPost_end (results_none rfl _ _ _) rfl ?_
  exact ⟨⟨_, rfl⟩, rfl⟩

set_option maxHeartbeats 400000 in
theorem pdq_nil (k : Int) (w : World) : Calls Tryz.prog 151 #[.slice none 0 0, .int .i64 0, .int .i64 0, .int .i64 k] w fun e w' => (∃ v, e = .returned v) ∧ w = w' := by
  go_enter Tryz.func151, Tryz.ntmps151
  go_wp2
  refine wp_loop_rounds 1 ?_
  rw [rounds_succ]
  go_wp2_with (go_at_call 158; refine (insertion_nil _).mono ?_; rintro e w' ⟨⟨v, rfl⟩, rfl⟩)
  refine bodyPost_ret (results_none rfl _ _ _) rfl ?_
  exact ⟨⟨_, rfl⟩, rfl⟩

set_option maxRecDepth 100000 in
set_option maxHeartbeats 400000 in
theorem sort_nil (w : World) : Calls Tryz.prog 138 #[.slice none 0 0] w fun e w' => (∃ v, e = .returned v) ∧ w = w' := by
  go_enter Tryz.func138, Tryz.ntmps138
  go_wp2_with (first | (go_at_call 151; refine (pdq_nil _ _).mono ?_; rintro e w' ⟨⟨v, rfl⟩, rfl⟩) | go_in)
  refine bodyPost_end (results_none rfl _ _ _) rfl ?_
  exact ⟨⟨_, rfl⟩, rfl⟩

theorem below_putObj {n D : Nat} {W : World} (h : n ≤ D) (o : Obj) : Below n W (W.putObj D o) :=
  ⟨rfl, rfl, rfl, by simp, fun k hk => World.putObj_heap_other (by omega)⟩

/-- slices.AppendSeq to nil over an iterator that yields nothing. -/
theorem appendSeq_none (gf : Nat) (lb : Array Value) (w : World) (eg : ∀ args w, (callFunc gf args).run Tryz.prog w = .ok (.enter gf args) w)
    (hc : ∀ l W, Below w.heap.size w W → Calls Tryz.prog gf (#[.func (.yield l) #[] #[]] ++ lb) W fun e W' => (∃ v, e = .returned v) ∧ Below W.heap.size W W') :
    Calls Tryz.prog 150 #[.slice none 0 0, .func (.func gf) #[] lb] w fun e w' => e = .returned (.slice none 0 0) ∧ Below w.heap.size w w' := by
  refine (callsIn_wide (n := 3)).1 ?_
  refine callsIn_of_wp_marks Tryz.func150 rfl trivial ?_ rfl
  simp only [Tryz.ntmps150, List.size_toArray, List.length_cons, List.length_nil, Nat.reduceAdd, Nat.reduceSub, Array.replicate_succ, Array.replicate_zero, List.push_toArray, List.append_toArray, List.nil_append, List.cons_append]
  gi_wp2
  have hbx : Below w.heap.size w (w.alloc (.cells #[.slice none 0 0] 161)) := (Below.refl _ _).alloc (Nat.le_refl _) _
  refine wpIn_rangeFunc_never rfl (by decide) (gf := gf) (lb := lb) rfl trivial eg (fun l W hW => callsIn_wide.2 (hc l W (hbx.trans (hW.mono (by simp))))) ?_
  intro D W hW hD hK
  have hc2 : W.cell? ⟨w.heap.size, 0, none⟩ = some (.slice none 0 0) := (hW.cell (p := ⟨w.heap.size, 0, none⟩) (by simp)).trans (by simp)
  gi_wp2
  refine ⟨by simp, .inl ⟨_, _, rfl, run_takeDeferred hK, ?_⟩⟩
  exact ⟨_, results_tmp rfl _ _ _, rfl, (hbx.trans (hW.mono (by simp))).trans (below_putObj (by simp at hD; omega) _)⟩

/-- slices.Sorted over an iterator that yields nothing. -/
theorem sorted_none (gf : Nat) (lb : Array Value) (w : World) (eg : ∀ args w, (callFunc gf args).run Tryz.prog w = .ok (.enter gf args) w)
    (hc : ∀ l W, Below w.heap.size w W → Calls Tryz.prog gf (#[.func (.yield l) #[] #[]] ++ lb) W fun e W' => (∃ v, e = .returned v) ∧ Below W.heap.size W W') :
    Calls Tryz.prog 111 #[.func (.func gf) #[] lb] w fun e w' => e = .returned (.slice none 0 0) ∧ Below w.heap.size w w' := by
  go_enter Tryz.func111, Tryz.ntmps111
  go_wp2_with (first | (go_at_call 150; refine (appendSeq_none gf lb w eg hc).mono ?_; rintro e W1 ⟨rfl, hb1⟩) | (go_at_call 138; refine (sort_nil _).mono ?_; rintro e W1 ⟨⟨v, rfl⟩, rfl⟩) | go_in)
  go_ret
  exact ⟨rfl, hb1⟩

set_option maxHeartbeats 400000 in
theorem keysF_any (m : Option Nat) (w : World) : Calls Tryz.prog 112 #[.map m] w fun e w' => e = .returned (.func (.func 139) #[] #[.pointer (some ⟨w.heap.size, 0, none⟩)]) ∧ w.alloc (.cells #[.map m] 80) = w' := by
  go_enter Tryz.func112, Tryz.ntmps112
  go_wp2
  go_ret
  exact ⟨rfl, rfl⟩

set_option maxRecDepth 100000 in
set_option maxHeartbeats 400000 in
theorem keysF1_empty (l B m : Nat) (w : World) (h : w.cell? ⟨B, 0, none⟩ = some (.map (some m))) (hm : w.heap[m]? = some (.map #[] 0)) : Calls Tryz.prog 139 #[.func (.yield l) #[] #[], .pointer (some ⟨B, 0, none⟩)] w fun e w' => (∃ v, e = .returned v) ∧ Below w.heap.size w w' := by
  have hr := run_range_map (P := Tryz.prog) w 80 9 89 m #[] 0 Tryz.underlying80 hm
  have hx := fun (ty : TypeId) => run_next_empty w ty m hm
  clear hm
  go_enter Tryz.func139, Tryz.ntmps139
  go_wp2
  refine wp_loop_rounds 1 ?_
  rw [rounds_succ]
  go_wp2
  refine bodyPost_end (results_none rfl _ _ _) rfl ?_
  exact ⟨⟨_, rfl⟩, (Below.refl _ _).alloc (Nat.le_refl _) _⟩

theorem enters139 : ∀ args w, (callFunc 139 args).run Tryz.prog w = .ok (.enter 139 args) w := enters_of Tryz.func139 (by kernel_rfl) rfl

set_option maxHeartbeats 400000 in
theorem keysI_any (m : Option Nat) (w : World) : Calls Tryz.prog 146 #[.map m] w fun e w' => e = .returned (.func (.func 154) #[] #[.pointer (some ⟨w.heap.size, 0, none⟩)]) ∧ w.alloc (.cells #[.map m] 187) = w' := by
  go_enter Tryz.func146, Tryz.ntmps146
  go_wp2
  go_ret
  exact ⟨rfl, rfl⟩

set_option maxRecDepth 100000 in
set_option maxHeartbeats 400000 in
theorem keysI1_empty (l B m : Nat) (w : World) (h : w.cell? ⟨B, 0, none⟩ = some (.map (some m))) (hm : w.heap[m]? = some (.map #[] 0)) : Calls Tryz.prog 154 #[.func (.yield l) #[] #[], .pointer (some ⟨B, 0, none⟩)] w fun e w' => (∃ v, e = .returned v) ∧ Below w.heap.size w w' := by
  have hr := run_range_map (P := Tryz.prog) w 187 9 3 m #[] 0 Tryz.underlying187 hm
  have hx := fun (ty : TypeId) => run_next_empty w ty m hm
  clear hm
  go_enter Tryz.func154, Tryz.ntmps154
  go_wp2
  refine wp_loop_rounds 1 ?_
  rw [rounds_succ]
  go_wp2
  refine bodyPost_end (results_none rfl _ _ _) rfl ?_
  exact ⟨⟨_, rfl⟩, (Below.refl _ _).alloc (Nat.le_refl _) _⟩

theorem enters154 : ∀ args w, (callFunc 154 args).run Tryz.prog w = .ok (.enter 154 args) w := enters_of Tryz.func154 (by kernel_rfl) rfl

set_option maxHeartbeats 400000 in
theorem risingF_any (m : Option Nat) (w : World) : Calls Tryz.prog 52 #[.map m] w fun e w' => e = .returned (.func (.func 110) #[] #[.pointer (some ⟨w.heap.size, 0, none⟩)]) ∧ w.alloc (.cells #[.map m] 80) = w' := by
  go_enter Tryz.func52, Tryz.ntmps52
  go_wp2
  go_ret
  exact ⟨rfl, rfl⟩

set_option maxHeartbeats 400000 in
theorem risingF1_empty (l B m : Nat) (w : World) (h : w.cell? ⟨B, 0, none⟩ = some (.map (some m))) (hm : w.heap[m]? = some (.map #[] 0)) : Calls Tryz.prog 110 #[.func (.yield l) #[] #[], .pointer (some ⟨B, 0, none⟩)] w fun e w' => (∃ v, e = .returned v) ∧ Below w.heap.size w w' := by
  have hml : m < w.heap.size := (Array.getElem?_eq_some_iff.1 hm).1
  obtain ⟨W1, hW1⟩ : ∃ W1, w.alloc (.cells #[.map (some m)] 80) = W1 := ⟨_, rfl⟩
  have hb1 : Below w.heap.size w W1 := hW1 ▸ (Below.refl _ _).alloc (Nat.le_refl _) _
  have hB : W1.cell? ⟨w.heap.size, 0, none⟩ = some (.map (some m)) := by rw [← hW1]; simp
  have hlt : w.heap.size < W1.heap.size := by rw [← hW1]; simp
  have hm1 := (hb1.block m hml).trans hm
  have hs := sorted_none 139 #[.pointer (some ⟨w.heap.size, 0, none⟩)] W1 enters139 (fun l W hW => keysF1_empty l w.heap.size m W ((hW.cell (p := ⟨w.heap.size, 0, none⟩) hlt).trans hB) ((hW.block m (by omega)).trans hm1))
  clear hm hm1
  go_enter Tryz.func110, Tryz.ntmps110
  go_wp2_with (first | (go_at_call 112; refine (keysF_any _ _).mono ?_; rintro e W2 ⟨rfl, rfl⟩) | (go_at_call 111; refine hs.mono ?_; rintro e W2 ⟨rfl, hb2⟩))
  refine wp_loop_rounds 1 ?_
  rw [rounds_succ]
  go_wp2
  refine bodyPost_end (results_none rfl _ _ _) rfl ?_
  exact ⟨⟨_, rfl⟩, hb1.trans (hb2.mono hb1.size)⟩

theorem enters110 : ∀ args w, (callFunc 110 args).run Tryz.prog w = .ok (.enter 110 args) w := enters_of Tryz.func110 (by kernel_rfl) rfl

set_option maxHeartbeats 400000 in
theorem risingI_any (m : Option Nat) (w : World) : Calls Tryz.prog 118 #[.map m] w fun e w' => e = .returned (.func (.func 145) #[] #[.pointer (some ⟨w.heap.size, 0, none⟩)]) ∧ w.alloc (.cells #[.map m] 187) = w' := by
  go_enter Tryz.func118, Tryz.ntmps118
  go_wp2
  go_ret
  exact ⟨rfl, rfl⟩

set_option maxHeartbeats 400000 in
theorem risingI1_empty (l B m : Nat) (w : World) (h : w.cell? ⟨B, 0, none⟩ = some (.map (some m))) (hm : w.heap[m]? = some (.map #[] 0)) : Calls Tryz.prog 145 #[.func (.yield l) #[] #[], .pointer (some ⟨B, 0, none⟩)] w fun e w' => (∃ v, e = .returned v) ∧ Below w.heap.size w w' := by
  have hml : m < w.heap.size := (Array.getElem?_eq_some_iff.1 hm).1
  obtain ⟨W1, hW1⟩ : ∃ W1, w.alloc (.cells #[.map (some m)] 187) = W1 := ⟨_, rfl⟩
  have hb1 : Below w.heap.size w W1 := hW1 ▸ (Below.refl _ _).alloc (Nat.le_refl _) _
  have hB : W1.cell? ⟨w.heap.size, 0, none⟩ = some (.map (some m)) := by rw [← hW1]; simp
  have hlt : w.heap.size < W1.heap.size := by rw [← hW1]; simp
  have hm1 := (hb1.block m hml).trans hm
  have hs := sorted_none 154 #[.pointer (some ⟨w.heap.size, 0, none⟩)] W1 enters154 (fun l W hW => keysI1_empty l w.heap.size m W ((hW.cell (p := ⟨w.heap.size, 0, none⟩) hlt).trans hB) ((hW.block m (by omega)).trans hm1))
  clear hm hm1
  go_enter Tryz.func145, Tryz.ntmps145
  go_wp2_with (first | (go_at_call 146; refine (keysI_any _ _).mono ?_; rintro e W2 ⟨rfl, rfl⟩) | (go_at_call 111; refine hs.mono ?_; rintro e W2 ⟨rfl, hb2⟩))
  refine wp_loop_rounds 1 ?_
  rw [rounds_succ]
  go_wp2
  refine bodyPost_end (results_none rfl _ _ _) rfl ?_
  exact ⟨⟨_, rfl⟩, hb1.trans (hb2.mono hb1.size)⟩

theorem enters145 : ∀ args w, (callFunc 145 args).run Tryz.prog w = .ok (.enter 145 args) w := enters_of Tryz.func145 (by kernel_rfl) rfl

end Go.Proofs.YtpnmnjelppnfoabGreat
