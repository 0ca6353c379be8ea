import Derived.Test.YtpnmnjelppnfoabGreatProg
import Derived.Test.YtpnmnjelppnfoabGreatNever
import Derived.WalkKit
import Derived.WalkSpells
import Derived.WalkLawsBesides
import Derived.Deep.QuietTactic
import Derived.BigQuiet
import Derived.BigRegion
import Derived.Deep.RegionLawGrows
import Derived.WideMake
namespace Go.Proofs.YtpnmnjelppnfoabGreat
open Go.RowKit

set_option maxHeartbeats 400000 in
theorem refusal_any (at' : Int) (r : Int) (w : World) : Calls Tryz.prog 55 #[.int .i64 at', .int .i64 r] w fun e w' => e = .returned (.iface 176 (.pointer (some ⟨w.heap.size, 0, none⟩))) ∧ w.alloc (.cells #[.string { data := #[100, 105, 115, 107] }, .int .i64 at', .iface 41 (.int .i64 r)] 178) = w' := by
  go_enter Tryz.func55, Tryz.ntmps55
  go_wp2
  go_ret
  exact ⟨rfl, rfl⟩


set_option maxRecDepth 100000 in
set_option maxHeartbeats 400000 in
theorem told_nil (w : World) : Calls Tryz.prog 70 #[.nilIface] w fun e w' => e = .returned (.tuple #[.agg #[.slice none 0 0, .int .i64 0], .bool true]) ∧ Below w.heap.size w w' := by
  go_enter Tryz.func70, Tryz.ntmps70
  go_wp2
  refine wp_loop_rounds 1 ?_
  rw [rounds_succ]
  go_wp2
  go_region
  go_wp2
  exact bodyPost_ret (v := .tuple #[.agg #[.slice none 0 0, .int .i64 0], .bool true]) (by simp [results, Tryz.results70, go_sem]) rfl ⟨rfl, (((Below.refl _ _).alloc (Nat.le_refl _) _).alloc (by simp) _).drew⟩

theorem cell_lt {w : World} {a : Addr} {v : Value} (h : w.cell? a = some v) : a.block < w.heap.size := by
  by_cases hl : a.block < w.heap.size
  · exact hl
  · have : w.heap[a.block]? = none := by simp; omega
    simp [World.cell?, this] at h

theorem cell_two_at {w : World} {x0 x1 : Value} {t : TypeId} {B : Nat} (h : B = w.heap.size) : ∀ j u, [x0, x1][j]? = some u → (w.alloc (.cells #[x0, x1] t)).cell? ((⟨B, 0, none⟩ : Addr).add j) = some u := by
  subst h
  intro j u hj
  match j, hj with
  | 0, hj => simp at hj; subst hj; simp [Addr.add]
  | 1, hj => simp at hj; subst hj; simp [Addr.add]
  | n + 2, hj => simp at hj

theorem cell_set_ne {W : World} {b i j : Nat} {v : Value} (h : i ≠ j) : (W.setCell ⟨b, i, none⟩ v).cell? ⟨b, j, none⟩ = W.cell? ⟨b, j, none⟩ := by
  apply World.cell?_setCell_other; simp
theorem cell_set_eq {W : World} {b i : Nat} {v u : Value} (h : W.cell? ⟨b, i, none⟩ = some u) : (W.setCell ⟨b, i, none⟩ v).cell? ⟨b, i, none⟩ = some v := by
  apply World.cell?_setCell_same; exact h
theorem cell_set_off {W : World} {b i c j : Nat} {v : Value} (h : b ≠ c) : (W.setCell ⟨b, i, none⟩ v).cell? ⟨c, j, none⟩ = W.cell? ⟨c, j, none⟩ := by
  apply World.cell?_setCell_other; intro e; exact h (by simpa using congrArg Addr.block e)

theorem info192 : (Tryz.prog.info? 192).map (fun i => (i.zero, i.size, i.bytes)) = some (some (.agg #[.string { data := #[] }, .int .i64 0]), 2, 24) := by kernel_rfl

set_option maxRecDepth 100000 in
set_option maxHeartbeats 2000000 in
theorem told_disk (q : Nat) (at' : Int) (w : World) (h0 : w.cell? ⟨q, 0, none⟩ = some (.string { data := #[100, 105, 115, 107] })) (h1 : w.cell? ⟨q, 1, none⟩ = some (.int .i64 at')) (h2 : w.cell? ⟨q, 2, none⟩ = some (.iface 41 (.int .i64 20))) :
    Calls Tryz.prog 70 #[.iface 176 (.pointer (some ⟨q, 0, none⟩))] w fun e w' => ∃ g cap, e = .returned (.tuple #[.agg #[.slice (some ⟨g, 0, none⟩) 1 cap, .int .i64 20], .bool true]) ∧ Below w.heap.size w w' ∧ w'.cell? ⟨g, 0, none⟩ = some (.string { data := #[100, 105, 115, 107] }) ∧ w'.cell? ⟨g, 1, none⟩ = some (.int .i64 at') ∧ w.heap.size ≤ g := by
  have ta : ∀ (w : World) (v : Value), (Instr.typeAssert (.iface 176 v) 52 176 true).run Tryz.prog w = .ok (.tuple #[v, .bool true]) w := fun _ _ => by kernel_rfl
  have tb : ∀ (w : World) (v : Value), (Instr.typeAssert (.iface 41 v) 52 176 true).run Tryz.prog w = .ok (.tuple #[.pointer none, .bool false]) w := fun _ _ => by kernel_rfl
  have tc : ∀ (w : World) (v : Value), (Instr.typeAssert (.iface 41 v) 52 41 true).run Tryz.prog w = .ok (.tuple #[v, .bool true]) w := fun _ _ => by kernel_rfl
  obtain ⟨i0, hi, hz0, hz1, hz2⟩ := info_parts info192
  go_enter Tryz.func70, Tryz.ntmps70
  go_wp2
  refine wp_loop_rounds 2 ?_
  rw [rounds_succ]
  go_wp2
  obtain ⟨W1, hW1⟩ : ∃ W1, (w.alloc (.cells #[.slice none 0 0, .int .i64 0] 62)).alloc (.cells #[.slice none 0 0, .int .i64 0] 62) = W1 := ⟨_, rfl⟩
  have hb1 : Below w.heap.size w W1 := hW1 ▸ ((Below.refl _ _).alloc (Nat.le_refl _) _).alloc (by simp) _
  have HS : Hid (W1.heap.size = w.heap.size + 2) := by rw [← hW1]; show _ = _; simp
  have hq := cell_lt h0
  have g0 := (hb1.cell (p := ⟨q, 0, none⟩) hq).trans h0
  have g1 := (hb1.cell (p := ⟨q, 1, none⟩) hq).trans h1
  have g2 := (hb1.cell (p := ⟨q, 2, none⟩) hq).trans h2
  have a0 : W1.cell? ⟨w.heap.size + 1, 0, none⟩ = some (.slice none 0 0) := by rw [← hW1]; simp
  have a1 : W1.cell? ⟨w.heap.size + 1, 1, none⟩ = some (.int .i64 0) := by rw [← hW1]; simp
  have af : ∀ i, W1.frozen? ⟨w.heap.size + 1, i, none⟩ = false := fun i => by rw [← hW1]; simp
  have r0 : W1.cell? ⟨w.heap.size, 0, none⟩ = some (.slice none 0 0) := by rw [← hW1]; simp
  have r1 : W1.cell? ⟨w.heap.size, 1, none⟩ = some (.int .i64 0) := by rw [← hW1]; simp
  have rf : ∀ i, W1.frozen? ⟨w.heap.size, i, none⟩ = false := fun i => by rw [← hW1]; simp
  clear h0 h1 h2
  rw [hW1]
  clear hW1
  have hlt1 : w.heap.size + 1 < W1.heap.size := by rw [HS.out]; omega
  have hq1 : q < W1.heap.size := by rw [HS.out]; have := hq; simp at this; omega
  go_region_law (go_loud (refine step_append_grows rfl (.tmp 30) (.tmp 40) 60 rfl 192 i0 _ 2 24 Tryz.underlying60 hi hz0 hz1 hz2 rfl (by decide) none 0 0 [] (by simp [Act.eval]) (by simp) rfl (by simp) ⟨W1.heap.size, 0, none⟩ 1 1 [.string { data := #[100, 105, 115, 107] }, .int .i64 at'] (by simp [Act.eval]) rfl (by exact cell_two_at (by simp)) (by simp [Value.oneCell']) (by decide) (by decide) (by decide) ?_); intro v4 W4 hown4 hgrow4; have hb4 : Below W1.heap.size W1 W4 := ⟨hgrow4.os, hgrow4.tape, hgrow4.output, Nat.le_trans (by simp) hgrow4.size, fun k hk => (hgrow4.block k (by simp; omega) (by simp)).trans (Below.heap_alloc W1 _ k hk)⟩; have z0 := (hb4.cell (p := ⟨w.heap.size + 1, 0, none⟩) (by rw [HS.out]; simp)).trans a0; have zf := fun j => (hb4.frozen (p := ⟨w.heap.size + 1, j, none⟩) (by rw [HS.out]; simp)).trans (af j); have hex := ownsRow_succ hown4; obtain ⟨g4, cap4, rfl⟩ := hex)
  all_goals
    have y2 := (hb4.cell (p := ⟨q, 2, none⟩) hq1).trans g2
    have y1 := (hb4.cell (p := ⟨w.heap.size + 1, 1, none⟩) hlt1).trans a1
    have hlt2 : w.heap.size < W1.heap.size := by omega
    have x0 := (hb4.cell (p := ⟨w.heap.size, 0, none⟩) hlt2).trans r0
    have x1 := (hb4.cell (p := ⟨w.heap.size, 1, none⟩) hlt2).trans r1
    have xf := fun j => (hb4.frozen (p := ⟨w.heap.size, j, none⟩) hlt2).trans (rf j)
    have HO : Hid (W4.ownsRow _ _ _ _ _ _) := hown4
    have HB4 : Hid (Below W1.heap.size W1 W4) := hb4
    clear hown4 hgrow4 hb4 g0 g1 g2 a0 a1 af r0 r1 rf
    go_wp2
    rw [rounds_succ]
    go_wp2
    have hge : W1.heap.size ≤ g4 := by
      rcases HO.out.2 with ⟨h, _⟩ | ⟨g, c, cur, hv, hbase, _⟩
      · cases h
      · simp only [Value.slice.injEq, Option.some.injEq, Addr.mk.injEq] at hv
        have hle : W1.heap.size ≤ g := Nat.le_trans (by simp) hbase
        omega
    have q0 : W4.cell? ⟨g4, 0, none⟩ = some (.string { data := #[100, 105, 115, 107] }) := HO.out.cellAt 0 (by decide)
    have q1 : W4.cell? ⟨g4, 1, none⟩ = some (.int .i64 at') := HO.out.cellAt 1 (by decide)
    obtain ⟨U, hU⟩ : ∃ U, (W4.setCell ⟨w.heap.size + 1, 0, none⟩ (.slice (some ⟨g4, 0, none⟩) 1 cap4)).setCell ⟨w.heap.size + 1, 1, none⟩ (.int .i64 20) = U := ⟨_, rfl⟩
    have u0 : U.cell? ⟨w.heap.size + 1, 0, none⟩ = some (.slice (some ⟨g4, 0, none⟩) 1 cap4) := by rw [← hU]; exact (cell_set_ne (by omega)).trans (cell_set_eq z0)
    have u1 : U.cell? ⟨w.heap.size + 1, 1, none⟩ = some (.int .i64 20) := by rw [← hU]; exact cell_set_eq ((cell_set_ne (by omega)).trans y1)
    have v0 : U.cell? ⟨w.heap.size, 0, none⟩ = some (.slice none 0 0) := by rw [← hU]; exact (cell_set_off (by omega)).trans ((cell_set_off (by omega)).trans x0)
    have v1 : U.cell? ⟨w.heap.size, 1, none⟩ = some (.int .i64 0) := by rw [← hU]; exact (cell_set_off (by omega)).trans ((cell_set_off (by omega)).trans x1)
    have vf : ∀ j, U.frozen? ⟨w.heap.size, j, none⟩ = false := fun j => by rw [← hU, World.frozen?_setCell, World.frozen?_setCell]; exact xf j
    have HG0 : Hid (U.cell? ⟨g4, 0, none⟩ = some (.string { data := #[100, 105, 115, 107] })) := by rw [← hU]; exact (cell_set_off (by omega)).trans ((cell_set_off (by omega)).trans q0)
    have HG1 : Hid (U.cell? ⟨g4, 1, none⟩ = some (.int .i64 at')) := by rw [← hU]; exact (cell_set_off (by omega)).trans ((cell_set_off (by omega)).trans q1)
    have HBU : Hid (Below w.heap.size w U) := by rw [← hU]; exact ((hb1.trans (HB4.out.mono (by omega))).setCell (p := ⟨w.heap.size + 1, 0, none⟩) (by simp) _).setCell (p := ⟨w.heap.size + 1, 1, none⟩) (by simp) _
    rw [hU]
    clear hU z0 zf y1 y2 x0 x1 xf q0 q1 ta tb tc
    go_region
    all_goals
      go_wp2
      refine bodyPost_ret (v := .tuple #[.agg #[.slice (some ⟨g4, 0, none⟩) 1 cap4, .int .i64 20], .bool true]) (by simp [results, Tryz.results70, go_sem, v0, v1]) rfl ?_
      exact ⟨g4, cap4, rfl, ((HBU.out.setCell (p := ⟨w.heap.size, 0, none⟩) (Nat.le_refl _) _).setCell (p := ⟨w.heap.size, 1, none⟩) (Nat.le_refl _) _).drew, (cell_set_off (by omega)).trans ((cell_set_off (by omega)).trans HG0.out), (cell_set_off (by omega)).trans ((cell_set_off (by omega)).trans HG1.out), by omega⟩

end Go.Proofs.YtpnmnjelppnfoabGreat
