import Derived.Test.YtdggplhkeekdjaaGreatDoorNk
import Derived.Deep.RegionHeld3
import Derived.Deep.RegionWith
/-
  DERIVED. State of the program's scanner that has just been made.
-/
namespace Go.Proofs.YtdggplhkeekdjaaGreatDoor.Nv
open Go Go.Proofs Go.RowKit

theorem runs_z (w : World) (q : Nat) (h : w.cell? ⟨q, 1, none⟩ = some (.int .i64 0)) : Calls Tryz.prog 45 #[.pointer (some ⟨q, 0, none⟩)] w fun e w' => e = .returned (.bool false) ∧ w = w' := by
  go_enter Tryz.func45, Tryz.ntmps45
  go_wp2
  go_ret
  exact ⟨rfl, rfl⟩
set_option maxRecDepth 100000 in
set_option maxHeartbeats 4000000 in
theorem upState_new (w : World) (q : Nat) (h1 : w.cell? ⟨q, 1, none⟩ = some (.int .i64 0)) (h2 : w.cell? ⟨q, 2, none⟩ = some (.int .i64 1)) (h3 : w.cell? ⟨q, 3, none⟩ = some (.bool false)) :
    Calls Tryz.prog 30 #[.pointer (some ⟨q, 0, none⟩)] w fun e w' => e = .returned (.agg #[.int .i64 1, .bool false, .bool false, .int .i64 0]) ∧ Below w.heap.size w w' := by
  have hq := lt_cell h1
  have hq2 : w.heap.size ≠ q := by simp at hq; omega
  have hq3 : q ≠ w.heap.size := by simp at hq; omega
  go_enter Tryz.func30, Tryz.ntmps30
  go_wp2
  go_region_held3 (fun w' => w'.cell? ⟨q, 1, none⟩ = some (.int .i64 0) ∧ w'.cell? ⟨q, 2, none⟩ = some (.int .i64 1) ∧ w'.cell? ⟨q, 3, none⟩ = some (.bool false)) (first | (go_keep; done)) (first | (go_at_call 45; refine (runs_z _ _ ?_).mono ?_; (focus (first | assumption | (go_keep; done) | (simp; assumption))); rintro e w' ⟨rfl, rfl⟩))
  go_wp2
  exact bodyPost_ret (v := .agg #[.int .i64 1, .bool false, .bool false, .int .i64 0]) (by simp [results, Tryz.results30, go_sem]) rfl ⟨rfl, ((Below.refl _ _).alloc (Nat.le_refl _) _).drew⟩
end Go.Proofs.YtdggplhkeekdjaaGreatDoor.Nv

/-
  DERIVED. State of the program's scanner that has just been made.
-/
namespace Go.Proofs.YtdggplhkeekdjaaGreatDoor.Nv
open Go Go.Proofs Go.RowKit

/-- A scanner that has just been made. -/
structure SpAt (W : World) (q p m : Nat) : Prop where
  c6 : W.cell? ⟨q, 6, none⟩ = some (.pointer (some ⟨p, 0, none⟩))
  c7 : W.cell? ⟨q, 7, none⟩ = some (.map (some m))
  c9 : W.cell? ⟨q, 9, none⟩ = some (.slice none 0 0)
  c10 : W.cell? ⟨q, 10, none⟩ = some (.int .i64 0)
  p1 : W.cell? ⟨p, 1, none⟩ = some (.int .i64 0)
  p2 : W.cell? ⟨p, 2, none⟩ = some (.int .i64 1)
  p3 : W.cell? ⟨p, 3, none⟩ = some (.bool false)
  hm : W.heap[m]? = some (.map #[] 0)
theorem SpAt.on {X Y : World} {q p m : Nat} (h : SpAt X q p m) (hb : Below X.heap.size X Y) : SpAt Y q p m :=
  ⟨(hb.cell (lt_cell h.c6)).trans h.c6, (hb.cell (lt_cell h.c7)).trans h.c7, (hb.cell (lt_cell h.c9)).trans h.c9, (hb.cell (lt_cell h.c10)).trans h.c10, (hb.cell (lt_cell h.p1)).trans h.p1, (hb.cell (lt_cell h.p2)).trans h.p2, (hb.cell (lt_cell h.p3)).trans h.p3, (hb.block m (Array.getElem?_eq_some_iff.1 h.hm).1).trans h.hm⟩
theorem SpAt.drewW {X : World} {q p m : Nat} (h : SpAt X q p m) : SpAt X.drew q p m := h.on ⟨rfl, rfl, rfl, Nat.le_refl _, fun _ _ => rfl⟩
theorem SpAt.allocW {X : World} {q p m : Nat} (h : SpAt X q p m) (o : Obj) : SpAt (X.alloc o) q p m := h.on ((Below.refl _ _).alloc (Nat.le_refl _) _)
set_option maxRecDepth 100000 in
theorem made_new (w : World) (q p m : Nat) (h : SpAt w q p m) : Calls Tryz.prog 12 #[.pointer (some ⟨q, 0, none⟩)] w fun e w' => e = .returned (.bool true) ∧ w = w' := by
  have h6 := h.c6
  go_enter Tryz.func12, Tryz.ntmps12
  go_wp2
  go_ret
  exact ⟨rfl, rfl⟩
set_option maxRecDepth 100000 in
theorem sta_new (w : World) (q p m : Nat) (h : SpAt w q p m) : Calls Tryz.prog 13 #[.pointer (some ⟨q, 0, none⟩)] w fun e w' => e = .returned (.int .i64 1) ∧ Below w.heap.size w w' := by
  have h6 := h.c6
  have hf : ∀ W, (Instr.field 70 (.agg #[.int .i64 1, .bool false, .bool false, .int .i64 0]) 0).run Tryz.prog W = .ok (.int .i64 1) W := fun W => by kernel_rfl
  go_enter Tryz.func13, Tryz.ntmps13
  go_wp2_with (go_at_call 30; refine (upState_new _ _ h.p1 h.p2 h.p3).mono ?_; rintro e W1 ⟨rfl, hb1⟩)
  go_ret
  exact ⟨rfl, hb1⟩
/-- The place of the answer. -/
def Zq (b : Nat) (X : World) : Prop := X.heap[b]? = some (.cells #[.int .i64 0, .slice none 0 0, .int .i64 0, .slice none 0 0] 35 (0, 0))
theorem Zq.on {b : Nat} {X Y : World} (h : Zq b X) (hb : Below X.heap.size X Y) : Zq b Y := (hb.block b (Array.getElem?_eq_some_iff.1 h).1).trans h
theorem Zq.new (w : World) : Zq w.heap.size (w.alloc (.cells #[.int .i64 0, .slice none 0 0, .int .i64 0, .slice none 0 0] 35)) := by
  unfold Zq World.alloc
  exact Array.getElem?_push_size
theorem Zq.allocW {b : Nat} {X : World} (h : Zq b X) (o : Obj) : Zq b (X.alloc o) := h.on ((Below.refl _ _).alloc (Nat.le_refl _) _)
theorem Zq.drewW {b : Nat} {X : World} (h : Zq b X) : Zq b X.drew := h
theorem Zq.c {b : Nat} {X : World} (h : Zq b X) : X.cell? ⟨b, 0, none⟩ = some (.int .i64 0) ∧ X.cell? ⟨b, 1, none⟩ = some (.slice none 0 0) ∧ X.cell? ⟨b, 2, none⟩ = some (.int .i64 0) ∧ X.cell? ⟨b, 3, none⟩ = some (.slice none 0 0) ∧ ∀ i, X.frozen? ⟨b, i, none⟩ = false := by
  unfold Zq at h
  refine ⟨?_, ?_, ?_, ?_, fun i => ?_⟩
  all_goals simp [World.cell?, World.frozen?, h]
set_option maxRecDepth 100000 in
set_option maxHeartbeats 4000000 in
theorem state_new (w : World) (q p m : Nat) (h : SpAt w q p m) : Calls Tryz.prog 6 #[.pointer (some ⟨q, 0, none⟩)] w fun e w' => e = .returned (.agg #[.int .i64 1, .slice none 0 0, .int .i64 0, .slice none 0 0]) ∧ Below w.heap.size w w' := by
  obtain ⟨W0, hW0⟩ : ∃ W0, w.alloc (.cells #[.int .i64 0, .slice none 0 0, .int .i64 0, .slice none 0 0] 35) = W0 := ⟨_, rfl⟩
  have hb0 : Below w.heap.size w W0 := hW0 ▸ (Below.refl _ _).alloc (Nat.le_refl _) _
  have hz0 : Zq w.heap.size W0 := by rw [← hW0]; exact Zq.new w
  have hS : SpAt W0 q p m := h.on hb0
  have hq0 : q < w.heap.size := lt_cell h.c6
  have hq1 : w.heap.size ≠ q := by omega
  have hq2 : q ≠ w.heap.size := by omega
  have t9 := hS.c9
  have t10 := hS.c10
  have t7 := hS.c7
  clear h
  go_enter Tryz.func6, Tryz.ntmps6
  go_wp2_with (go_at_call 12; refine (made_new _ _ _ _ hS).mono ?_; rintro e W1 ⟨rfl, rfl⟩)
  go_region_held3 (fun w' => w'.cell? ⟨q, 9, none⟩ = some (.slice none 0 0) ∧ w'.cell? ⟨q, 10, none⟩ = some (.int .i64 0) ∧ w'.cell? ⟨q, 7, none⟩ = some (.map (some m))) (first | (go_keep; done) | exact ⟨by assumption, by assumption, by assumption⟩) (first | (go_at_call 13; refine (sta_new _ q p m ?_).mono ?_; (focus (exact hS.drewW)); rintro e W2 ⟨rfl, hb2⟩; replace hS := hS.drewW.on hb2; replace hz0 := hz0.drewW.on hb2; replace hb0 := hb0.drew.trans (hb2.mono hb0.size); have u9 := hS.c9; have u10 := hS.c10; have u7 := hS.c7) | (go_at_call 15; refine (keysF_any _ _).mono ?_; rintro e W3 ⟨rfl, rfl⟩) | (go_at_call 14; refine (keys_sorted _ _ m ?_ ?_).mono ?_; (focus simp); (focus (exact (hS.allocW _).hm)); rintro e W4 ⟨rfl, hb4⟩; replace hS := (hS.allocW _).on hb4; replace hz0 := (hz0.allocW _).on hb4; replace hb0 := (hb0.alloc hb0.size _).trans (hb4.mono (Nat.le_trans hb0.size (by simp))); have v9 := hS.c9; have v10 := hS.c10; have v7 := hS.c7; obtain ⟨r0, r1, r2, r3, rf⟩ := hz0.c))
  go_wp2
  exact bodyPost_ret (v := .agg #[.int .i64 1, .slice none 0 0, .int .i64 0, .slice none 0 0]) (by simp [results, Tryz.results6, go_sem, r0, r1, r2, r3]) rfl ⟨rfl, (((hb0.setCell (p := ⟨w.heap.size, 0, none⟩) (Nat.le_refl _) _).setCell (p := ⟨w.heap.size, 1, none⟩) (Nat.le_refl _) _).setCell (p := ⟨w.heap.size, 2, none⟩) (Nat.le_refl _) _).setCell (p := ⟨w.heap.size, 3, none⟩) (Nat.le_refl _) _⟩
end Go.Proofs.YtdggplhkeekdjaaGreatDoor.Nv

/-
  DERIVED. State of the document's scanner that has just been made.
-/
namespace Go.Proofs.YtdggplhkeekdjaaGreatDoor.Nv
open Go Go.Proofs Go.RowKit

/-- The document's scanner that has just been made. -/
structure RpAt (W : World) (q p : Nat) : Prop where
  c6 : W.cell? ⟨q, 6, none⟩ = some (.pointer (some ⟨p, 0, none⟩))
  c9 : W.cell? ⟨q, 9, none⟩ = some (.slice none 0 0)
  c10 : W.cell? ⟨q, 10, none⟩ = some (.int .i64 0)
  c11 : W.cell? ⟨q, 11, none⟩ = some (.slice none 0 0)
  p1 : W.cell? ⟨p, 1, none⟩ = some (.int .i64 1)
theorem RpAt.on {X Y : World} {q p : Nat} (h : RpAt X q p) (hb : Below X.heap.size X Y) : RpAt Y q p :=
  ⟨(hb.cell (lt_cell h.c6)).trans h.c6, (hb.cell (lt_cell h.c9)).trans h.c9, (hb.cell (lt_cell h.c10)).trans h.c10, (hb.cell (lt_cell h.c11)).trans h.c11, (hb.cell (lt_cell h.p1)).trans h.p1⟩
set_option maxRecDepth 100000 in
set_option maxHeartbeats 4000000 in
theorem rstate_new (w : World) (q p : Nat) (h : RpAt w q p) : Calls Tryz.prog 7 #[.pointer (some ⟨q, 0, none⟩)] w fun e w' => e = .returned (.agg #[.int .i64 1, .slice none 0 0, .int .i64 0, .slice none 0 0]) ∧ Below w.heap.size w w' := by
  obtain ⟨h6, h9, h10, h11, h1⟩ := h
  have hq0 : q < w.heap.size := lt_cell h6
  have hp0 : p < w.heap.size := lt_cell h1
  have hq1 : w.heap.size ≠ q := by omega
  have hq2 : q ≠ w.heap.size := by omega
  have hp1 : w.heap.size ≠ p := by omega
  have hp2 : p ≠ w.heap.size := by omega
  have hq3 : w.heap.size + 1 ≠ q := by omega
  have hq4 : q ≠ w.heap.size + 1 := by omega
  go_enter Tryz.func7, Tryz.ntmps7
  go_wp2
  go_region
  go_wp2
  refine wp_loop_rounds 1 ?_
  rw [rounds_succ]
  go_wp2
  refine wp_loop_rounds 1 ?_
  rw [rounds_succ]
  go_wp2
  exact bodyPost_ret (v := .agg #[.int .i64 1, .slice none 0 0, .int .i64 0, .slice none 0 0]) (by simp [results, Tryz.results7, go_sem]) rfl ⟨rfl, (((Below.refl _ _).alloc (Nat.le_refl _) _).alloc (by simp) _).drew⟩
end Go.Proofs.YtdggplhkeekdjaaGreatDoor.Nv

/-
  DERIVED. sameState of what is told; forget.
-/
namespace Go.Proofs.YtdggplhkeekdjaaGreatDoor.Nv
open Go Go.Proofs Go.RowKit

set_option maxRecDepth 100000 in
set_option maxHeartbeats 4000000 in
theorem sameState_new (w : World) : Calls Tryz.prog 5 #[.agg #[.int .i64 1, .slice none 0 0, .int .i64 0, .slice none 0 0], .agg #[.int .i64 1, .slice none 0 0, .int .i64 0, .slice none 0 0]] w fun e w' => e = .returned (.bool true) ∧ Below w.heap.size w w' := by
  go_enter Tryz.func5, Tryz.ntmps5
  go_wp2
  refine wp_loop_rounds 1 ?_
  rw [rounds_succ]
  go_wp2
  refine wp_loop_rounds 1 ?_
  rw [rounds_succ]
  go_wp2
  go_ret
  exact ⟨rfl, ((Below.refl _ _).alloc (Nat.le_refl _) _).alloc (by simp) _⟩
set_option maxRecDepth 100000 in
theorem newStream_any (w : World) : Calls Tryz.prog 43 #[] w fun e w' => (∃ g, e = .returned (.pointer (some ⟨g, 0, none⟩))) ∧ Below w.heap.size w w' := by
  go_enter Tryz.func43, Tryz.ntmps43
  go_wp2
  go_ret
  exact ⟨⟨_, rfl⟩, (Below.refl _ _).alloc (Nat.le_refl _) _⟩
set_option maxRecDepth 100000 in
theorem newJoiner_nil (w : World) : Calls Tryz.prog 44 #[.slice none 0 0, .bool false] w fun e w' => (∃ g, e = .returned (.pointer (some ⟨g, 0, none⟩))) ∧ Below w.heap.size w w' := by
  go_enter Tryz.func44, Tryz.ntmps44
  go_wp2
  refine wp_loop_rounds 1 ?_
  rw [rounds_succ]
  go_wp2
  go_ret
  exact ⟨⟨_, rfl⟩, (Below.refl _ _).alloc (Nat.le_refl _) _⟩
theorem set_ne {W : World} {b i j : Nat} {v : Value} (h : i ≠ j) : (W.setCell ⟨b, i, none⟩ v).cell? ⟨b, j, none⟩ = W.cell? ⟨b, j, none⟩ := by
  apply World.cell?_setCell_other; simp
theorem set_off {W : World} {b i c j : Nat} {v : Value} (h : b ≠ c) : (W.setCell ⟨b, i, none⟩ v).cell? ⟨c, j, none⟩ = W.cell? ⟨c, j, none⟩ := by
  apply World.cell?_setCell_other; simp
theorem set_eq {W : World} {b i : Nat} {v u : Value} (h : W.cell? ⟨b, i, none⟩ = some u) : (W.setCell ⟨b, i, none⟩ v).cell? ⟨b, i, none⟩ = some v := by
  apply World.cell?_setCell_same; exact h
/-- The cells that forget does not write. -/
structure FgAt (W : World) (q p : Nat) : Prop where
  c6 : W.cell? ⟨q, 6, none⟩ = some (.pointer (some ⟨p, 0, none⟩))
  c8 : ∃ v, W.cell? ⟨q, 8, none⟩ = some v
  c9 : W.cell? ⟨q, 9, none⟩ = some (.slice none 0 0)
  c10 : W.cell? ⟨q, 10, none⟩ = some (.int .i64 0)
  c11 : W.cell? ⟨q, 11, none⟩ = some (.slice none 0 0)
  fz : ∀ i, W.frozen? ⟨q, i, none⟩ = false
  p1 : W.cell? ⟨p, 1, none⟩ = some (.int .i64 1)
theorem FgAt.on {X Y : World} {q p : Nat} (h : FgAt X q p) (hb : Below X.heap.size X Y) : FgAt Y q p := by
  obtain ⟨v, h8⟩ := h.c8
  exact ⟨(hb.cell (lt_cell h.c6)).trans h.c6, ⟨v, (hb.cell (lt_cell h8)).trans h8⟩, (hb.cell (lt_cell h.c9)).trans h.c9, (hb.cell (lt_cell h.c10)).trans h.c10, (hb.cell (lt_cell h.c11)).trans h.c11, fun i => (hb.frozen (show q < X.heap.size from lt_cell h.c6)).trans (h.fz i), (hb.cell (lt_cell h.p1)).trans h.p1⟩
theorem FgAt.set7 {X : World} {q p : Nat} (h : FgAt X q p) (hp : p ≠ q) (u : Value) : FgAt (X.setCell ⟨q, 7, none⟩ u) q p := by
  obtain ⟨v, h8⟩ := h.c8
  exact ⟨(set_ne (by omega)).trans h.c6, ⟨v, (set_ne (by omega)).trans h8⟩, (set_ne (by omega)).trans h.c9, (set_ne (by omega)).trans h.c10, (set_ne (by omega)).trans h.c11, fun i => (World.frozen?_setCell _ _ _ _).trans (h.fz i), (set_off (Ne.symm hp)).trans h.p1⟩
set_option maxRecDepth 100000 in
set_option maxHeartbeats 4000000 in
theorem forget_new (w : World) (q p : Nat) (v7 : Value) (h : FgAt w q p) (h7 : w.cell? ⟨q, 7, none⟩ = some v7) (hp : p ≠ q) :
    Calls Tryz.prog 26 #[.pointer (some ⟨q, 0, none⟩)] w fun e w' => (∃ v, e = .returned v) ∧ RpAt w' q p ∧ Below q w w' := by
  have HB0 : Hid (q < w.heap.size) := lt_cell h7
  go_enter Tryz.func26, Tryz.ntmps26
  go_wp2_with (go_at_call 43; refine (newStream_any _).mono ?_; rintro e W1 ⟨⟨g1, rfl⟩, hb1⟩; have f1 := (h.on hb1).fz 7; have a7 := (hb1.cell (lt_cell h7)).trans h7)
  have HF := (h.on hb1).set7 hp (.pointer (some ⟨g1, 0, none⟩))
  have HB1 : Hid (Below q w (W1.setCell ⟨q, 7, none⟩ (.pointer (some ⟨g1, 0, none⟩)))) := (hb1.mono (Nat.le_of_lt HB0.out)).setCell (p := ⟨q, 7, none⟩) (Nat.le_refl _) _
  clear h h7 f1 a7 hb1
  generalize W1.setCell ⟨q, 7, none⟩ (.pointer (some ⟨g1, 0, none⟩)) = X at *
  have HX : Hid (q < X.heap.size) := lt_cell HF.c6
  go_wp2_with (go_at_call 44; refine (newJoiner_nil _).mono ?_; rintro e W2 ⟨⟨g2, rfl⟩, hb2⟩; have HF2 := HF.on hb2; obtain ⟨v8, a8⟩ := HF2.c8; have a9 := HF2.c9; have a10 := HF2.c10; have a11 := HF2.c11; have f8 := HF2.fz 8; have f9 := HF2.fz 9; have f10 := HF2.fz 10; have f11 := HF2.fz 11)
  have HB2 : Below q w W2 := HB1.out.trans (hb2.mono (Nat.le_of_lt HX.out))
  refine bodyPost_end (results_none rfl _ _ _) rfl ⟨⟨_, rfl⟩, ⟨?_, ?_, ?_, ?_, ?_⟩, (((HB2.setCell (p := ⟨q, 8, none⟩) (Nat.le_refl _) _).setCell (p := ⟨q, 9, none⟩) (Nat.le_refl _) _).setCell (p := ⟨q, 10, none⟩) (Nat.le_refl _) _).setCell (p := ⟨q, 11, none⟩) (Nat.le_refl _) _⟩
  · exact (set_ne (by omega)).trans ((set_ne (by omega)).trans ((set_ne (by omega)).trans ((set_ne (by omega)).trans HF2.c6)))
  · exact (set_ne (by omega)).trans ((set_ne (by omega)).trans (set_eq ((set_ne (by omega)).trans a9)))
  · exact (set_ne (by omega)).trans (set_eq ((set_ne (by omega)).trans ((set_ne (by omega)).trans a10)))
  · exact set_eq ((set_ne (by omega)).trans ((set_ne (by omega)).trans ((set_ne (by omega)).trans a11)))
  · exact (set_off (Ne.symm hp)).trans ((set_off (Ne.symm hp)).trans ((set_off (Ne.symm hp)).trans ((set_off (Ne.symm hp)).trans HF2.p1)))
end Go.Proofs.YtdggplhkeekdjaaGreatDoor.Nv
