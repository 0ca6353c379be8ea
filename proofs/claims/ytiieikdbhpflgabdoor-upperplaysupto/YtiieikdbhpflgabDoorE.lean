import Derived.Test.YtiieikdbhpflgabDoorD
import Derived.Deep.RegionLawGrows
import Derived.WideMake
/-
  DERIVED. Errors and the document's faults, held against each other.
-/
namespace Go.Proofs.YtiieikdbhpflgabDoor
open Go Go.Proofs Go.RowKit

theorem cell_set_ne {W : World} {b i j : Nat} {v : Value} (h : i ≠ j) : (W.setCell ⟨b, i, none⟩ v).cell? ⟨b, j, none⟩ = W.cell? ⟨b, j, none⟩ := by
  apply World.cell?_setCell_other; simp
theorem cell_set_eq {W : World} {b i : Nat} {v u : Value} (h : W.cell? ⟨b, i, none⟩ = some u) : (W.setCell ⟨b, i, none⟩ v).cell? ⟨b, i, none⟩ = some v := by
  apply World.cell?_setCell_same; exact h
theorem cell_set_off {W : World} {b i c j : Nat} {v : Value} (h : b ≠ c) : (W.setCell ⟨b, i, none⟩ v).cell? ⟨c, j, none⟩ = W.cell? ⟨c, j, none⟩ := by
  apply World.cell?_setCell_other; intro e; exact h (by simpa using congrArg Addr.block e)

theorem owns_succ {W : World} {base : Nat} {e : TypeId} {size : Nat} {v : Value} {k : Nat} {xs : List Value} (h : W.ownsRow base e size v (k + 1) xs) : ∃ g cap, v = .slice (some ⟨g, 0, none⟩) (k + 1) cap := by
  rcases h.2 with ⟨_, h0⟩ | ⟨g, cap, cur, rfl, _⟩
  · omega
  · exact ⟨g, cap, rfl⟩


set_option maxHeartbeats 400000 in
theorem told_nil (w : World) : Calls Tryd.prog 18 #[.nilIface] w fun e w' => e = .returned (.tuple #[.agg #[.slice none 0 0, .int .i64 0], .bool true]) ∧ Below w.heap.size w w' := by
  go_enter Tryd.func18, Tryd.ntmps18
  go_wp2
  refine wp_loop_rounds 1 ?_
  rw [rounds_succ]
  go_wp2
  go_region
  go_wp2
  exact bodyPost_ret (v := .tuple #[.agg #[.slice none 0 0, .int .i64 0], .bool true]) (by simp [results, Tryd.results18, go_sem]) rfl ⟨rfl, (((Below.refl _ _).alloc (Nat.le_refl _) _).alloc (by simp) _).drew⟩

theorem cell_two_at {w : World} {x0 x1 : Value} {t : TypeId} {B : Nat} (h : B = w.heap.size) : ∀ j u, [x0, x1][j]? = some u → (w.alloc (.cells #[x0, x1] t)).cell? ((⟨B, 0, none⟩ : Addr).add j) = some u := by
  subst h
  intro j u hj
  match j, hj with
  | 0, hj => simp at hj; subst hj; simp [Addr.add]
  | 1, hj => simp at hj; subst hj; simp [Addr.add]
  | n + 2, hj => simp at hj

theorem infoLink : (Tryd.prog.info? 104).map (fun i => (i.zero, i.size, i.bytes)) = some (some (.agg #[.string { data := #[] }, .int .i64 0]), 2, 24) := by kernel_rfl

set_option maxRecDepth 100000 in
set_option maxHeartbeats 2000000 in
theorem told_one (c0 : Int) (hc0 : (c0 != 0) = true) (q : Nat) (at' : Int) (w : World) (h0 : w.cell? ⟨q, 0, none⟩ = some (.string { data := #[117, 112, 112, 101, 114] })) (h1 : w.cell? ⟨q, 1, none⟩ = some (.int .i64 at')) (h2 : w.cell? ⟨q, 2, none⟩ = some (.iface 64 (.int .i64 c0))) :
    Calls Tryd.prog 18 #[.iface 100 (.pointer (some ⟨q, 0, none⟩))] w fun e w' => ∃ g cap, e = .returned (.tuple #[.agg #[.slice (some ⟨g, 0, none⟩) 1 cap, .int .i64 c0], .bool true]) ∧ Below w.heap.size w w' ∧ w'.cell? ⟨g, 0, none⟩ = some (.string { data := #[117, 112, 112, 101, 114] }) ∧ w'.cell? ⟨g, 1, none⟩ = some (.int .i64 at') ∧ w.heap.size ≤ g := by
  have ta : ∀ (w : World) (v : Value), (Instr.typeAssert (.iface 100 v) 25 100 true).run Tryd.prog w = .ok (.tuple #[v, .bool true]) w := fun _ _ => by kernel_rfl
  have tb : ∀ (w : World) (v : Value), (Instr.typeAssert (.iface 64 v) 25 100 true).run Tryd.prog w = .ok (.tuple #[.pointer none, .bool false]) w := fun _ _ => by kernel_rfl
  have tc : ∀ (w : World) (v : Value), (Instr.typeAssert (.iface 64 v) 25 64 true).run Tryd.prog w = .ok (.tuple #[v, .bool true]) w := fun _ _ => by kernel_rfl
  obtain ⟨i0, hi, hz0, hz1, hz2⟩ := info_parts infoLink
  go_enter Tryd.func18, Tryd.ntmps18
  go_wp2
  refine wp_loop_rounds 2 ?_
  rw [rounds_succ]
  go_wp2
  obtain ⟨W1, hW1⟩ : ∃ W1, (w.alloc (.cells #[.slice none 0 0, .int .i64 0] 31)).alloc (.cells #[.slice none 0 0, .int .i64 0] 31) = W1 := ⟨_, rfl⟩
  have hb1 : Below w.heap.size w W1 := hW1 ▸ ((Below.refl _ _).alloc (Nat.le_refl _) _).alloc (by simp) _
  have HS : Hid (W1.heap.size = w.heap.size + 2) := by rw [← hW1]; show _ = _; simp
  have hq := cell_lt h0
  have g0 := (hb1.cell (p := ⟨q, 0, none⟩) hq).trans h0
  have g1 := (hb1.cell (p := ⟨q, 1, none⟩) hq).trans h1
  have g2 := (hb1.cell (p := ⟨q, 2, none⟩) hq).trans h2
  have a0 : W1.cell? ⟨w.heap.size + 1, 0, none⟩ = some (.slice none 0 0) := by rw [← hW1]; simp
  have a1 : W1.cell? ⟨w.heap.size + 1, 1, none⟩ = some (.int .i64 0) := by rw [← hW1]; simp
  have af : ∀ i, W1.frozen? ⟨w.heap.size + 1, i, none⟩ = false := fun i => by rw [← hW1]; simp
  have r0 : W1.cell? ⟨w.heap.size, 0, none⟩ = some (.slice none 0 0) := by rw [← hW1]; simp
  have r1 : W1.cell? ⟨w.heap.size, 1, none⟩ = some (.int .i64 0) := by rw [← hW1]; simp
  have rf : ∀ i, W1.frozen? ⟨w.heap.size, i, none⟩ = false := fun i => by rw [← hW1]; simp
  clear h0 h1 h2
  rw [hW1]
  clear hW1
  have hlt1 : w.heap.size + 1 < W1.heap.size := by rw [HS.out]; omega
  have hq1 : q < W1.heap.size := by rw [HS.out]; have := hq; simp at this; omega
  go_region_law (go_loud (refine step_append_grows rfl (.tmp 30) (.tmp 40) 29 rfl 104 i0 _ 2 24 Tryd.underlying29 hi hz0 hz1 hz2 rfl (by decide) none 0 0 [] (by simp [Act.eval]) (by simp) rfl (by simp) ⟨W1.heap.size, 0, none⟩ 1 1 [.string { data := #[117, 112, 112, 101, 114] }, .int .i64 at'] (by simp [Act.eval]) rfl (by exact cell_two_at (by simp)) (by simp [Value.oneCell']) (by decide) (by decide) (by decide) ?_); intro v4 W4 hown4 hgrow4; have hb4 : Below W1.heap.size W1 W4 := ⟨hgrow4.os, hgrow4.tape, hgrow4.output, Nat.le_trans (by simp) hgrow4.size, fun k hk => (hgrow4.block k (by simp; omega) (by simp)).trans (Below.heap_alloc W1 _ k hk)⟩; have z0 := (hb4.cell (p := ⟨w.heap.size + 1, 0, none⟩) (by rw [HS.out]; simp)).trans a0; have zf := fun j => (hb4.frozen (p := ⟨w.heap.size + 1, j, none⟩) (by rw [HS.out]; simp)).trans (af j); have hex := owns_succ hown4; obtain ⟨g4, cap4, rfl⟩ := hex)
  all_goals
    have y2 := (hb4.cell (p := ⟨q, 2, none⟩) hq1).trans g2
    have y1 := (hb4.cell (p := ⟨w.heap.size + 1, 1, none⟩) hlt1).trans a1
    have hlt2 : w.heap.size < W1.heap.size := by omega
    have x0 := (hb4.cell (p := ⟨w.heap.size, 0, none⟩) hlt2).trans r0
    have x1 := (hb4.cell (p := ⟨w.heap.size, 1, none⟩) hlt2).trans r1
    have xf := fun j => (hb4.frozen (p := ⟨w.heap.size, j, none⟩) hlt2).trans (rf j)
    have HO : Hid (W4.ownsRow _ _ _ _ _ _) := hown4
    have HB4 : Hid (Below W1.heap.size W1 W4) := hb4
    clear hown4 hgrow4 hb4 g0 g1 g2 a0 a1 af r0 r1 rf
    go_wp2
    rw [rounds_succ]
    go_wp2
    have hge : W1.heap.size ≤ g4 := by
      rcases HO.out.2 with ⟨h, _⟩ | ⟨g, c, cur, hv, hbase, _⟩
      · cases h
      · simp only [Value.slice.injEq, Option.some.injEq, Addr.mk.injEq] at hv
        have hle : W1.heap.size ≤ g := Nat.le_trans (by simp) hbase
        omega
    have q0 : W4.cell? ⟨g4, 0, none⟩ = some (.string { data := #[117, 112, 112, 101, 114] }) := HO.out.cellAt 0 (by decide)
    have q1 : W4.cell? ⟨g4, 1, none⟩ = some (.int .i64 at') := HO.out.cellAt 1 (by decide)
    obtain ⟨U, hU⟩ : ∃ U, (W4.setCell ⟨w.heap.size + 1, 0, none⟩ (.slice (some ⟨g4, 0, none⟩) 1 cap4)).setCell ⟨w.heap.size + 1, 1, none⟩ (.int .i64 c0) = U := ⟨_, rfl⟩
    have u0 : U.cell? ⟨w.heap.size + 1, 0, none⟩ = some (.slice (some ⟨g4, 0, none⟩) 1 cap4) := by rw [← hU]; exact (cell_set_ne (by omega)).trans (cell_set_eq z0)
    have u1 : U.cell? ⟨w.heap.size + 1, 1, none⟩ = some (.int .i64 c0) := by rw [← hU]; exact cell_set_eq ((cell_set_ne (by omega)).trans y1)
    have v0 : U.cell? ⟨w.heap.size, 0, none⟩ = some (.slice none 0 0) := by rw [← hU]; exact (cell_set_off (by omega)).trans ((cell_set_off (by omega)).trans x0)
    have v1 : U.cell? ⟨w.heap.size, 1, none⟩ = some (.int .i64 0) := by rw [← hU]; exact (cell_set_off (by omega)).trans ((cell_set_off (by omega)).trans x1)
    have vf : ∀ j, U.frozen? ⟨w.heap.size, j, none⟩ = false := fun j => by rw [← hU, World.frozen?_setCell, World.frozen?_setCell]; exact xf j
    have HG0 : Hid (U.cell? ⟨g4, 0, none⟩ = some (.string { data := #[117, 112, 112, 101, 114] })) := by rw [← hU]; exact (cell_set_off (by omega)).trans ((cell_set_off (by omega)).trans q0)
    have HG1 : Hid (U.cell? ⟨g4, 1, none⟩ = some (.int .i64 at')) := by rw [← hU]; exact (cell_set_off (by omega)).trans ((cell_set_off (by omega)).trans q1)
    have HBU : Hid (Below w.heap.size w U) := by rw [← hU]; exact ((hb1.trans (HB4.out.mono (by omega))).setCell (p := ⟨w.heap.size + 1, 0, none⟩) (by simp) _).setCell (p := ⟨w.heap.size + 1, 1, none⟩) (by simp) _
    rw [hU]
    clear hU z0 zf y1 y2 x0 x1 xf q0 q1 ta tb tc
    go_region
    all_goals
      go_wp2
      refine bodyPost_ret (v := .tuple #[.agg #[.slice (some ⟨g4, 0, none⟩) 1 cap4, .int .i64 c0], .bool true]) (by simp [results, Tryd.results18, go_sem, v0, v1]) rfl ?_
      exact ⟨g4, cap4, rfl, ((HBU.out.setCell (p := ⟨w.heap.size, 0, none⟩) (Nat.le_refl _) _).setCell (p := ⟨w.heap.size, 1, none⟩) (Nat.le_refl _) _).drew, (cell_set_off (by omega)).trans ((cell_set_off (by omega)).trans HG0.out), (cell_set_off (by omega)).trans ((cell_set_off (by omega)).trans HG1.out), by omega⟩



set_option maxHeartbeats 400000 in
theorem new0_any (c at' : Int) (w : World) : Calls Tryd.prog 16 #[.string { data := #[117, 112, 112, 101, 114] }, .int .i64 at', .int .i64 c] w fun e w' => e = .returned (.agg #[.slice (some ⟨w.heap.size + 1, 0, none⟩) 1 1, .int .i64 c]) ∧ Below w.heap.size w w' ∧ w'.cell? ⟨w.heap.size + 1, 0, none⟩ = some (.string { data := #[117, 112, 112, 101, 114] }) ∧ w'.cell? ⟨w.heap.size + 1, 1, none⟩ = some (.int .i64 at') ∧ w.heap.size + 1 < w'.heap.size := by
  go_enter Tryd.func16, Tryd.ntmps16
  go_wp2
  refine bodyPost_ret (v := .agg #[.slice (some ⟨w.heap.size + 1, 0, none⟩) 1 1, .int .i64 c]) (by simp [results, Tryd.results16, go_sem]) rfl ⟨rfl, ((Below.refl _ _).alloc (Nat.le_refl _) _).alloc (by simp) _, by simp, by simp, by simp⟩


set_option maxRecDepth 100000 in
set_option maxHeartbeats 800000 in
theorem same_none (w : World) : Calls Tryd.prog 19 #[.agg #[.slice none 0 0, .int .i64 0], .agg #[.slice none 0 0, .int .i64 0]] w fun e w' => e = .returned (.bool true) ∧ Below w.heap.size w w' := by
  go_enter Tryd.func19, Tryd.ntmps19
  go_wp2
  refine wp_loop_rounds 1 ?_
  rw [rounds_succ]
  go_wp2
  go_ret
  exact ⟨rfl, ((Below.refl _ _).alloc (Nat.le_refl _) _).alloc (by simp) _⟩

set_option maxRecDepth 100000 in
set_option maxHeartbeats 800000 in
theorem same_one (g h cg ch : Nat) (c at' : Int) (w : World) (g0 : w.cell? ⟨g, 0, none⟩ = some (.string { data := #[117, 112, 112, 101, 114] })) (g1 : w.cell? ⟨g, 1, none⟩ = some (.int .i64 at')) (h0 : w.cell? ⟨h, 0, none⟩ = some (.string { data := #[117, 112, 112, 101, 114] })) (h1 : w.cell? ⟨h, 1, none⟩ = some (.int .i64 at')) (hg : g < w.heap.size) (hh : h < w.heap.size) :
    Calls Tryd.prog 19 #[.agg #[.slice (some ⟨g, 0, none⟩) 1 cg, .int .i64 c], .agg #[.slice (some ⟨h, 0, none⟩) 1 ch, .int .i64 c]] w fun e w' => e = .returned (.bool true) ∧ Below w.heap.size w w' := by
  go_enter Tryd.func19, Tryd.ntmps19
  go_wp2
  refine wp_loop_rounds 2 ?_
  rw [rounds_succ]
  go_wp2
  go_quiet (fail)
  go_wp2
  rw [rounds_succ]
  go_wp2
  go_ret
  exact ⟨rfl, below_drewN (((Below.refl _ _).alloc (Nat.le_refl _) _).alloc (by simp) _) _⟩



set_option maxHeartbeats 400000 in
theorem is_nil (w : World) : Calls Tryd.prog 6 #[.nilIface, .agg #[.slice none 0 0, .int .i64 0]] w fun e w' => e = .returned (.bool true) ∧ Below w.heap.size w w' := by
  obtain ⟨W1, hW1⟩ : ∃ W1, w.alloc (.cells #[.slice none 0 0, .int .i64 0] 31) = W1 := ⟨_, rfl⟩
  have hb1 : Below w.heap.size w W1 := hW1 ▸ (Below.refl _ _).alloc (Nat.le_refl _) _
  have hs1 : w.heap.size < W1.heap.size := by rw [← hW1]; simp
  have a0 : W1.cell? ⟨w.heap.size, 0, none⟩ = some (.slice none 0 0) := by rw [← hW1]; simp
  have a1 : W1.cell? ⟨w.heap.size, 1, none⟩ = some (.int .i64 0) := by rw [← hW1]; simp
  go_enter Tryd.func6, Tryd.ntmps6
  go_wp2_with (first | (go_at_call 18; refine (told_nil _).mono ?_; rintro e W2 ⟨rfl, hb2⟩; have b0 := (hb2.cell (p := ⟨w.heap.size, 0, none⟩) hs1).trans a0; have b1 := (hb2.cell (p := ⟨w.heap.size, 1, none⟩) hs1).trans a1; have hs2 : w.heap.size < W2.heap.size := Nat.lt_of_lt_of_le hs1 hb2.size) | (go_at_call 19; refine (same_none _).mono ?_; rintro e W3 ⟨rfl, hb3⟩))
  go_ret
  exact ⟨rfl, ((hb1.trans (hb2.mono hb1.size)).alloc (by omega) _).trans (hb3.mono (by simp; omega))⟩

set_option maxHeartbeats 800000 in
theorem is_one (c0 : Int) (hc0 : (c0 != 0) = true) (q g cg : Nat) (at' : Int) (w : World) (h0 : w.cell? ⟨q, 0, none⟩ = some (.string { data := #[117, 112, 112, 101, 114] })) (h1 : w.cell? ⟨q, 1, none⟩ = some (.int .i64 at')) (h2 : w.cell? ⟨q, 2, none⟩ = some (.iface 64 (.int .i64 c0)))
    (g0 : w.cell? ⟨g, 0, none⟩ = some (.string { data := #[117, 112, 112, 101, 114] })) (g1 : w.cell? ⟨g, 1, none⟩ = some (.int .i64 at')) :
    Calls Tryd.prog 6 #[.iface 100 (.pointer (some ⟨q, 0, none⟩)), .agg #[.slice (some ⟨g, 0, none⟩) 1 cg, .int .i64 c0]] w fun e w' => e = .returned (.bool true) ∧ Below w.heap.size w w' := by
  have hq := cell_lt h0
  have hg := cell_lt g0
  obtain ⟨W1, hW1⟩ : ∃ W1, w.alloc (.cells #[.slice (some ⟨g, 0, none⟩) 1 cg, .int .i64 c0] 31) = W1 := ⟨_, rfl⟩
  have hb1 : Below w.heap.size w W1 := hW1 ▸ (Below.refl _ _).alloc (Nat.le_refl _) _
  have hs1 : w.heap.size < W1.heap.size := by rw [← hW1]; simp
  have a0 : W1.cell? ⟨w.heap.size, 0, none⟩ = some (.slice (some ⟨g, 0, none⟩) 1 cg) := by rw [← hW1]; simp
  have a1 : W1.cell? ⟨w.heap.size, 1, none⟩ = some (.int .i64 c0) := by rw [← hW1]; simp
  have ht := told_one c0 hc0 q at' W1 ((hb1.cell (p := ⟨q, 0, none⟩) hq).trans h0) ((hb1.cell (p := ⟨q, 1, none⟩) hq).trans h1) ((hb1.cell (p := ⟨q, 2, none⟩) hq).trans h2)
  have f0 := (hb1.cell (p := ⟨g, 0, none⟩) hg).trans g0
  have f1 := (hb1.cell (p := ⟨g, 1, none⟩) hg).trans g1
  have hgw : g < W1.heap.size := Nat.lt_of_lt_of_le hg hb1.size
  clear h0 h1 h2 g0 g1
  go_enter Tryd.func6, Tryd.ntmps6
  go_wp2_with (go_at_call 18; fail)
  refine ht.mono ?_
  rintro e W2 ⟨g4, cap4, rfl, hb2, t0, t1, hge⟩
  have b0 := (hb2.cell (p := ⟨w.heap.size, 0, none⟩) hs1).trans a0
  have b1 := (hb2.cell (p := ⟨w.heap.size, 1, none⟩) hs1).trans a1
  have hs2 : w.heap.size < W2.heap.size := Nat.lt_of_lt_of_le hs1 hb2.size
  have e0 := (hb2.cell (p := ⟨g, 0, none⟩) hgw).trans f0
  have e1 := (hb2.cell (p := ⟨g, 1, none⟩) hgw).trans f1
  clear ht a0 a1 f0 f1
  go_wp2_with (go_at_call 19; fail)
  have hb3 : Below W2.heap.size W2 (W2.alloc (.cells #[.slice (some ⟨g4, 0, none⟩) 1 cap4, .int .i64 c0] 31)) := (Below.refl _ _).alloc (Nat.le_refl _) _
  refine (same_one g g4 cg cap4 c0 at' _ ((hb3.cell (p := ⟨g, 0, none⟩) (cell_lt e0)).trans e0) ((hb3.cell (p := ⟨g, 1, none⟩) (cell_lt e1)).trans e1) ((hb3.cell (p := ⟨g4, 0, none⟩) (cell_lt t0)).trans t0) ((hb3.cell (p := ⟨g4, 1, none⟩) (cell_lt t1)).trans t1) (Nat.lt_of_lt_of_le (cell_lt e0) hb3.size) (Nat.lt_of_lt_of_le (cell_lt t0) hb3.size)).mono ?_
  rintro e W3 ⟨rfl, hb4⟩
  go_wp2
  go_ret
  exact ⟨rfl, ((hb1.trans (hb2.mono hb1.size)).trans (hb3.mono (by omega))).trans (hb4.mono (by simp; omega))⟩



/-- A fault of this layer, as it lies in memory. -/
def FaultAt (w : World) (q : Nat) (a c : Int) : Prop :=
  w.cell? ⟨q, 0, none⟩ = some (.string { data := #[117, 112, 112, 101, 114] }) ∧ w.cell? ⟨q, 1, none⟩ = some (.int .i64 a) ∧ w.cell? ⟨q, 2, none⟩ = some (.iface 64 (.int .i64 c))

theorem FaultAt.next {w w' : World} {q : Nat} {a c : Int} (h : FaultAt w q a c) (hb : Below w.heap.size w w') : FaultAt w' q a c :=
  ⟨(hb.cell (cell_lt h.1)).trans h.1, (hb.cell (cell_lt h.2.1)).trans h.2.1, (hb.cell (cell_lt h.2.2)).trans h.2.2⟩

/-- The program's error, or none; the document's fault, or none: the place and the number. -/
def PErr (w : World) (v : Value) : Option (Int × Int) → Prop
  | some (a, c) => ∃ q, v = .iface 100 (.pointer (some ⟨q, 0, none⟩)) ∧ FaultAt w q a c
  | none => v = .nilIface
def RErr (w : World) (v : Value) : Option (Int × Int) → Prop
  | some (a, c) => ∃ g k, v = .agg #[.slice (some ⟨g, 0, none⟩) 1 k, .int .i64 c] ∧ w.cell? ⟨g, 0, none⟩ = some (.string { data := #[117, 112, 112, 101, 114] }) ∧ w.cell? ⟨g, 1, none⟩ = some (.int .i64 a)
  | none => v = .agg #[.slice none 0 0, .int .i64 0]

theorem PErr.next {w w' : World} {v : Value} {o : Option (Int × Int)} (h : PErr w v o) (hb : Below w.heap.size w w') : PErr w' v o := by
  cases o with
  | some x => obtain ⟨q, rfl, hf⟩ := h; exact ⟨q, rfl, hf.next hb⟩
  | none => exact h
theorem RErr.next {w w' : World} {v : Value} {o : Option (Int × Int)} (h : RErr w v o) (hb : Below w.heap.size w w') : RErr w' v o := by
  cases o with
  | some x => obtain ⟨g, c, rfl, h0, h1⟩ := h; exact ⟨g, c, rfl, (hb.cell (cell_lt h0)).trans h0, (hb.cell (cell_lt h1)).trans h1⟩
  | none => exact h

theorem refusal_any (a c : Int) (w : World) : Calls Tryd.prog 15 #[.int .i64 a, .int .i64 c] w fun e w' => ∃ v, e = .returned v ∧ PErr w' v (some (a, c)) ∧ Below w.heap.size w w' := by
  go_enter Tryd.func15, Tryd.ntmps15
  go_wp2
  go_ret
  exact ⟨_, rfl, ⟨w.heap.size, rfl, by simp, by simp, by simp⟩, (Below.refl _ _).alloc (Nat.le_refl _) _⟩

/-- A refusal that is told is held against the document's. -/
theorem is_yes {w : World} {ve vf : Value} {o : Option (Int × Int)} (h1 : PErr w ve o) (h2 : RErr w vf o) (h0 : ∀ a c, o = some (a, c) → (c != 0) = true) :
    Calls Tryd.prog 6 #[ve, vf] w fun e w' => e = .returned (.bool true) ∧ Below w.heap.size w w' := by
  cases o with
  | none =>
    obtain rfl : ve = .nilIface := h1
    obtain rfl : vf = .agg #[.slice none 0 0, .int .i64 0] := h2
    exact is_nil w
  | some x =>
    obtain ⟨a, c⟩ := x
    obtain ⟨q, rfl, hf⟩ := h1
    obtain ⟨g, cg, rfl, g0, g1⟩ := h2
    exact is_one c (h0 a c rfl) q g cg a w hf.1 hf.2.1 hf.2.2 g0 g1
end Go.Proofs.YtiieikdbhpflgabDoor
