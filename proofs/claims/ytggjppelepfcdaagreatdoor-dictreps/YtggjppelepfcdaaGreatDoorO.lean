import Derived.Test.YtggjppelepfcdaaGreatDoorM
/-
  DERIVED. About; the law.
-/
namespace Go.Proofs.YtggjppelepfcdaaGreatDoor
open Go Go.Proofs Go.RowKit

theorem I8.put {W : World} {g : Nat} {n0 : ByteArray} {p0 u0 m0 : Int} {t0 c0 q0 l0 : Bool} (h : I8 W g n0 p0 u0 m0 t0 c0 q0 l0) (n : ByteArray) (p u m : Int) (t c q l : Bool) : I8 ((((((((W.setCell ⟨g, 0, none⟩ (.string n)).setCell ⟨g, 1, none⟩ (.int .u8 p)).setCell ⟨g, 2, none⟩ (.int .i64 u)).setCell ⟨g, 3, none⟩ (.int .i64 m)).setCell ⟨g, 4, none⟩ (.bool t)).setCell ⟨g, 5, none⟩ (.bool c)).setCell ⟨g, 6, none⟩ (.bool q)).setCell ⟨g, 7, none⟩ (.bool l)) g n p u m t c q l := by
  have hU := h.sets (.string n) (.int .u8 p) (.int .i64 u) (.int .i64 m) (.bool t) (.bool c) (.bool q) (.bool l)
  simp only at hU
  obtain ⟨u0, u1, u2, u3, u4, u5, u6, u7⟩ := hU
  exact ⟨u0, u1, u2, u3, u4, u5, u6, u7, fun i => by simp only [World.frozen?_setCell]; exact h.cf i⟩

theorem about_fin {V : World} {g : Nat} {n : ByteArray} {p u m : Int} {t c q l b : Bool} (h : I8 V g n p u m t c q l) (tmps : Array Value) (h2 : tmps.getD 2 undef = .pointer (some ⟨g, 0, none⟩)) (h3 : tmps.getD 3 undef = .bool b) :
    (results Tryz.f11 tmps).run Tryz.prog V = .ok (.tuple #[.agg #[.string n, .int .u8 p, .int .i64 u, .int .i64 m, .bool t, .bool c, .bool q, .bool l], .bool b]) V := by
  obtain ⟨c0, c1, c2, c3, c4, c5, c6, c7, _⟩ := h
  rw [results_cell_tmp rfl, h2, h3]
  simp [go_sem, c0, c1, c2, c3, c4, c5, c6, c7]

set_option maxRecDepth 100000 in
theorem about_any (w : World) (v : Int) : Calls Tryz.prog 11 #[.int .i64 v] w fun e w' => e = .returned (.tuple #[infoV (vn v), .bool (decide (1 ≤ v ∧ v ≤ 28))]) ∧ Below w.heap.size w w' := by
  have hb1 : Below w.heap.size w (w.alloc (.cells #[.string ⟨#[]⟩, .int .u8 0, .int .i64 0, .int .i64 0, .bool false, .bool false, .bool false, .bool false] 35)) := (Below.refl _ _).alloc (Nat.le_refl _) _
  obtain ⟨cf, ff, hcf, hff, c⟩ := repOf_open (w.alloc (.cells #[.string ⟨#[]⟩, .int .u8 0, .int .i64 0, .int .i64 0, .bool false, .bool false, .bool false, .bool false] 35)) v
  unfold infoV
  generalize nm (vn v) = n at c ⊢
  generalize pd (vn v) = p at c ⊢
  generalize un (vn v) = u at c ⊢
  generalize mo (vn v) = m at c ⊢
  generalize tx (vn v) = t at c ⊢
  generalize ch (vn v) = c' at c ⊢
  generalize mu (vn v) = q at c ⊢
  generalize lo (vn v) = l at c ⊢
  generalize decide (1 ≤ v ∧ v ≤ 28) = b at c ⊢
  rcases hcf with rfl | ⟨j, rfl⟩ <;> rcases hff with rfl | ⟨j2, rfl⟩
  all_goals go_enter Tryz.func11, Tryz.ntmps11
  all_goals go_wp2_with (go_at_call 32; fail)
  all_goals refine c.mono ?_
  all_goals rintro e W1 ⟨rfl, hb⟩
  all_goals have HZ : Hid (I8 W1 w.heap.size ⟨#[]⟩ 0 0 0 false false false false) := I8.next ⟨by simp, by simp, by simp, by simp, by simp, by simp, by simp, by simp, fun i => by simp⟩ hb (by simp)
  all_goals obtain ⟨z0, z1, z2, z3, z4, z5, z6, z7, zf⟩ := HZ.out
  all_goals have HB : Hid (Below w.heap.size w W1) := hb1.trans (hb.mono (by simp))
  all_goals have hlt : w.heap.size < W1.heap.size := cell_lt z0
  all_goals clear c hb
  all_goals go_wp2
  all_goals exact bodyPost_ret (about_fin (I8.next (HZ.out.put n p u m t c' q l) ((Below.refl _ _).alloc (Nat.le_refl _) _) (by simp; omega)) _ rfl rfl) rfl ⟨rfl, Below.alloc ((((((((HB.out.setCell (p := ⟨w.heap.size, 0, none⟩) (Nat.le_refl _) _).setCell (p := ⟨w.heap.size, 1, none⟩) (Nat.le_refl _) _).setCell (p := ⟨w.heap.size, 2, none⟩) (Nat.le_refl _) _).setCell (p := ⟨w.heap.size, 3, none⟩) (Nat.le_refl _) _).setCell (p := ⟨w.heap.size, 4, none⟩) (Nat.le_refl _) _).setCell (p := ⟨w.heap.size, 5, none⟩) (Nat.le_refl _) _).setCell (p := ⟨w.heap.size, 6, none⟩) (Nat.le_refl _) _).setCell (p := ⟨w.heap.size, 7, none⟩) (Nat.le_refl _) _) (by simp; omega) _⟩


theorem about_open (w : World) (v : Int) : Calls Tryz.prog 11 #[.int .i64 v] w fun e w' => e = .returned (.tuple #[.agg #[.string (nm (vn v)), .int .u8 (pd (vn v)), .int .i64 (un (vn v)), .int .i64 (mo (vn v)), .bool (tx (vn v)), .bool (ch (vn v)), .bool (mu (vn v)), .bool (lo (vn v))], .bool (decide (1 ≤ v ∧ v ≤ 28))]) ∧ Below w.heap.size w w' := about_any w v

end Go.Proofs.YtggjppelepfcdaaGreatDoor
