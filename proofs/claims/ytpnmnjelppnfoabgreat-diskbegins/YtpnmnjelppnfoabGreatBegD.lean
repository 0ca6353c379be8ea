import Derived.Test.YtpnmnjelppnfoabGreatBegC
namespace Go.Proofs.YtpnmnjelppnfoabGreat
open Go.RowKit

/-- What a refused configuration's error leads to. -/
def Err (w : World) (q : Nat) (at' : Int) : Prop :=
  w.cell? ⟨q, 0, none⟩ = some (.string { data := #[100, 105, 115, 107] }) ∧ w.cell? ⟨q, 1, none⟩ = some (.int .i64 at') ∧ w.cell? ⟨q, 2, none⟩ = some (.iface 41 (.int .i64 20))

/-- The place at which a configuration is refused. -/
def Bad (bl nm : Int) (at' : Int) : Prop := ((bl < 1 ∨ 65536 < bl) ∧ at' = 0) ∨ ((1 ≤ bl ∧ bl ≤ 65536) ∧ (nm < 1 ∨ 64 < nm) ∧ at' = 1)

set_option maxHeartbeats 800000 in
theorem check_bad (bl nm at' : Int) (w : World) (h : Bad bl nm at') : Calls Tryz.prog 54 #[.agg #[.int .i64 bl, .int .i64 nm], .int .i64 1] w fun e w' => ∃ q, e = .returned (.iface 176 (.pointer (some ⟨q, 0, none⟩))) ∧ Below w.heap.size w w' ∧ Err w' q at' := by
  have fin : ∀ (o : Obj) (a : Int), Below w.heap.size w ((w.alloc o).alloc (.cells #[.string { data := #[100, 105, 115, 107] }, .int .i64 a, .iface 41 (.int .i64 20)] 178)) ∧ Err ((w.alloc o).alloc (.cells #[.string { data := #[100, 105, 115, 107] }, .int .i64 a, .iface 41 (.int .i64 20)] 178)) (w.heap.size + 1) a := fun o a =>
    ⟨((Below.refl _ _).alloc (Nat.le_refl _) _).alloc (by simp) _, by simp [Err]⟩
  rcases h with ⟨h | h, rfl⟩ | ⟨⟨h1, h2⟩, h | h, rfl⟩
  · go_enter Tryz.func54, Tryz.ntmps54
    go_wp2_with (go_at_call 55; refine (refusal_any _ _ _).mono ?_; rintro e W1 ⟨rfl, rfl⟩)
    go_ret
    exact ⟨_, rfl, (fin _ _).1, by simpa using (fin _ _).2⟩
  · have h' : ¬ bl < 1 := by omega
    go_enter Tryz.func54, Tryz.ntmps54
    go_wp2_with (go_at_call 55; refine (refusal_any _ _ _).mono ?_; rintro e W1 ⟨rfl, rfl⟩)
    go_ret
    exact ⟨_, rfl, (fin _ _).1, by simpa using (fin _ _).2⟩
  · have h' : ¬ bl < 1 := by omega
    have h'' : ¬ 65536 < bl := by omega
    go_enter Tryz.func54, Tryz.ntmps54
    go_wp2_with (go_at_call 55; refine (refusal_any _ _ _).mono ?_; rintro e W1 ⟨rfl, rfl⟩)
    go_ret
    exact ⟨_, rfl, (fin _ _).1, by simpa using (fin _ _).2⟩
  · have h' : ¬ bl < 1 := by omega
    have h'' : ¬ 65536 < bl := by omega
    have h3 : ¬ nm < 1 := by omega
    go_enter Tryz.func54, Tryz.ntmps54
    go_wp2_with (go_at_call 55; refine (refusal_any _ _ _).mono ?_; rintro e W1 ⟨rfl, rfl⟩)
    go_ret
    exact ⟨_, rfl, (fin _ _).1, by simpa using (fin _ _).2⟩

set_option maxHeartbeats 800000 in
theorem new_bad (bl nm at' : Int) (w : World) (h : Bad bl nm at') : Calls Tryz.prog 23 #[.agg #[.int .i64 bl, .int .i64 nm]] w fun e w' => ∃ q, e = .returned (.tuple #[.pointer none, .iface 176 (.pointer (some ⟨q, 0, none⟩))]) ∧ Below w.heap.size w w' ∧ Err w' q at' := by
  have hc := fun W => check_bad bl nm at' W h
  clear h
  go_enter Tryz.func23, Tryz.ntmps23
  go_wp2_with (go_at_call 54; refine (hc _).mono ?_; rintro e W1 ⟨q, rfl, hb, he⟩)
  go_ret2
  exact ⟨q, rfl, ((Below.refl _ _).alloc (Nat.le_refl _) _).trans (hb.mono (by simp)), he⟩

set_option maxRecDepth 100000 in
set_option maxHeartbeats 800000 in
theorem refNew_bad (bl nm at' : Int) (w : World) (h : Bad bl nm at') : Calls Tryz.prog 24 #[.agg #[.int .i64 bl, .int .i64 nm]] w fun e w' => ∃ g, e = .returned (.tuple #[.pointer none, .agg #[.slice (some ⟨g, 0, none⟩) 1 1, .int .i64 20]]) ∧ Below w.heap.size w w' ∧ w'.cell? ⟨g, 0, none⟩ = some (.string { data := #[100, 105, 115, 107] }) ∧ w'.cell? ⟨g, 1, none⟩ = some (.int .i64 at') := by
  obtain ⟨W1, hW1⟩ : ∃ W1, (w.alloc (.cells #[.int .i64 bl, .int .i64 nm] 23)).alloc (.cells #[.slice none 0 0, .int .i64 0] 62) = W1 := ⟨_, rfl⟩
  have hb1 : Below w.heap.size w W1 := hW1 ▸ ((Below.refl _ _).alloc (Nat.le_refl _) _).alloc (by simp) _
  have HS : Hid (W1.heap.size = w.heap.size + 2) := by rw [← hW1]; show _ = _; simp
  have hs1 : w.heap.size + 1 < W1.heap.size := by rw [HS.out]; omega
  have c0 : W1.cell? ⟨w.heap.size, 0, none⟩ = some (.int .i64 bl) := by rw [← hW1]; simp
  have c1 : W1.cell? ⟨w.heap.size, 1, none⟩ = some (.int .i64 nm) := by rw [← hW1]; simp
  have a0 : W1.cell? ⟨w.heap.size + 1, 0, none⟩ = some (.slice none 0 0) := by rw [← hW1]; simp
  have a1 : W1.cell? ⟨w.heap.size + 1, 1, none⟩ = some (.int .i64 0) := by rw [← hW1]; simp
  have af : ∀ i, W1.frozen? ⟨w.heap.size + 1, i, none⟩ = false := fun i => by rw [← hW1]; simp
  rcases h with ⟨h | h, rfl⟩ | ⟨⟨h1, h2⟩, h | h, rfl⟩
  all_goals try (have h5 : ¬ bl < 1 := by omega)
  all_goals try (have h6 : ¬ 65536 < bl := by omega)
  all_goals try (have h7 : ¬ nm < 1 := by omega)
  all_goals
    go_enter Tryz.func24, Tryz.ntmps24
    go_wp2_with (go_at_call 68; refine (refNo_any _ _ _).mono ?_; rintro e W2 ⟨g, rfl, hb2, q0, q1, hge, hlt⟩; have b0 := (hb2.cell (p := ⟨w.heap.size + 1, 0, none⟩) hs1).trans a0; have b1 := (hb2.cell (p := ⟨w.heap.size + 1, 1, none⟩) hs1).trans a1; have bf := fun i => (hb2.frozen (p := ⟨w.heap.size + 1, i, none⟩) hs1).trans (af i))
    refine bodyPost_ret (v := .tuple #[.pointer none, .agg #[.slice (some ⟨g, 0, none⟩) 1 1, .int .i64 20]]) (by simp [results, Tryz.results24, go_sem, b0, b1]) rfl ?_
    exact ⟨g, rfl, (((hb1.trans (hb2.mono hb1.size)).setCell (p := ⟨w.heap.size + 1, 0, none⟩) (by simp) _).setCell (p := ⟨w.heap.size + 1, 1, none⟩) (by simp) _), (cell_set_off (by omega)).trans ((cell_set_off (by omega)).trans q0), (cell_set_off (by omega)).trans ((cell_set_off (by omega)).trans q1)⟩

end Go.Proofs.YtpnmnjelppnfoabGreat
