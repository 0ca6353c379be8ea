import Derived.Test.YtpnmnjelppnfoaaGreatNobB
import Derived.WideMake
import Derived.Test.YtpnmnjelppnfoaaGreatNever
import Derived.BigRegion
import Derived.Deep.QuietTactic
import Derived.BigQuiet
import Derived.Deep.RegionLawGrows
namespace Go.Proofs.YtpnmnjelppnfoaaGreat
open Go.RowKit

def zA : ByteArray := { data := #[97] }

set_option maxHeartbeats 400000 in
theorem isName_a (w : World) : Calls Tryz.prog 70 #[.string { data := #[97] }] w fun e w' => e = .returned (.bool true) ∧ w = w' := by
  go_enter Tryz.func70, Tryz.ntmps70
  go_wp2
  refine wp_loop_rounds 2 ?_
  rw [rounds_succ]
  go_wp2
  rw [rounds_succ]
  go_wp2
  go_ret
  exact ⟨rfl, rfl⟩

set_option maxHeartbeats 400000 in
theorem refuse_a (b m B : Nat) (w : World) (h4 : w.cell? ⟨b, 4, none⟩ = some (.int .i64 (-1))) (h6 : w.cell? ⟨b, 6, none⟩ = some (.map (some m))) (hB : w.cell? ⟨B, 0, none⟩ = some (.string { data := #[97] })) :
    Calls Tryz.prog 41 #[.pointer (some ⟨b, 0, none⟩), .slice (some ⟨B, 0, none⟩) 1 1] w fun e w' => e = .returned (.int .i64 0) ∧ w = w' := by
  have hn := fun (w : World) (r : Option Nat) => run_neq_map_nil w 27 9 98 r Tryz.underlying27
  go_enter Tryz.func41, Tryz.ntmps41
  go_wp2
  refine wp_loop_rounds 2 ?_
  rw [rounds_succ]
  go_wp2_with (go_at_call 70; refine (isName_a _).mono ?_; rintro e w' ⟨rfl, rfl⟩)
  rw [rounds_succ]
  go_wp2
  go_ret
  exact ⟨rfl, rfl⟩

theorem run_lookup_empty (w : World) (m c : Nat) (hm : w.heap[m]? = some (.map #[] c)) (s : ByteArray) : (Instr.lookup 27 (.map (some m)) (.string s) false).run Tryz.prog w = .ok (.pointer none) w := by
  have hc : (Instr.checkKey true 10000 9 (.string s)).run Tryz.prog w = .ok () w := MapKept.run_checkKey (k := .string s) Tryz.underlying9 (by simp [MapKept.IsKey]) true 9999
  have hf : Instr.findNow .string (.string s) ([] : List MapEntry) 0 = some none := rfl
  simp [Instr.lookup, run_underlying Tryz.underlying27, MapKept.run_getObj_map hm, hc, MapKept.run_findKey Tryz.underlying9 hf, Result.andThen, Tryz.zeroValue98]


/-- A disk of one block and one name, without files, at block b; its directory at block m. -/
structure Dk (W : World) (b m : Nat) : Prop where
  c0 : W.cell? ⟨b, 0, none⟩ = some (.int .i64 1)
  c1 : W.cell? ⟨b, 1, none⟩ = some (.int .i64 1)
  c2 : W.cell? ⟨b, 2, none⟩ = some (.int .i64 0)
  c3 : W.cell? ⟨b, 3, none⟩ = some (.int .u64 1)
  c4 : W.cell? ⟨b, 4, none⟩ = some (.int .i64 (-1))
  c5 : W.cell? ⟨b, 5, none⟩ = some (.slice none 0 0)
  c6 : W.cell? ⟨b, 6, none⟩ = some (.map (some m))
  c8 : W.cell? ⟨b, 8, none⟩ = some (.slice none 0 0)
  fz : ∀ i, W.frozen? ⟨b, i, none⟩ = false
  hm : W.heap[m]? = some (.map #[] 0)
  bn : b < W.heap.size
  mn : m < W.heap.size
  bm : b ≠ m

theorem Dk.below {W W' : World} {b m n : Nat} (h : Dk W b m) (hb : Below n W W') (h1 : b < n) (h2 : m < n) : Dk W' b m where
  c0 := (hb.cell (p := ⟨b, 0, none⟩) h1).trans h.c0
  c1 := (hb.cell (p := ⟨b, 1, none⟩) h1).trans h.c1
  c2 := (hb.cell (p := ⟨b, 2, none⟩) h1).trans h.c2
  c3 := (hb.cell (p := ⟨b, 3, none⟩) h1).trans h.c3
  c4 := (hb.cell (p := ⟨b, 4, none⟩) h1).trans h.c4
  c5 := (hb.cell (p := ⟨b, 5, none⟩) h1).trans h.c5
  c6 := (hb.cell (p := ⟨b, 6, none⟩) h1).trans h.c6
  c8 := (hb.cell (p := ⟨b, 8, none⟩) h1).trans h.c8
  fz := fun i => (hb.frozen (p := ⟨b, i, none⟩) h1).trans (h.fz i)
  hm := (hb.block m h2).trans h.hm
  bn := Nat.lt_of_lt_of_le h.bn hb.size
  mn := Nat.lt_of_lt_of_le h.mn hb.size
  bm := h.bm

/-- The same disk on its way through Create: its number, its files and its used blocks may have turned. -/
structure Ek (W : World) (b m : Nat) : Prop where
  c2 : ∃ x, W.cell? ⟨b, 2, none⟩ = some (.int .i64 x)
  c4 : W.cell? ⟨b, 4, none⟩ = some (.int .i64 (-1))
  c5 : ∃ x, W.cell? ⟨b, 5, none⟩ = some x
  c6 : W.cell? ⟨b, 6, none⟩ = some (.map (some m))
  c8 : W.cell? ⟨b, 8, none⟩ = some (.slice none 0 0)
  fz : ∀ i, W.frozen? ⟨b, i, none⟩ = false
  hm : W.heap[m]? = some (.map #[] 0)
  bn : b < W.heap.size
  mn : m < W.heap.size
  bm : b ≠ m

theorem Dk.ek {W : World} {b m : Nat} (h : Dk W b m) : Ek W b m := ⟨⟨_, h.c2⟩, h.c4, ⟨_, h.c5⟩, h.c6, h.c8, h.fz, h.hm, h.bn, h.mn, h.bm⟩

theorem Ek.below {W W' : World} {b m n : Nat} (h : Ek W b m) (hb : Below n W W') (h1 : b < n) (h2 : m < n) : Ek W' b m where
  c2 := h.c2.imp fun _ e => (hb.cell (p := ⟨b, 2, none⟩) h1).trans e
  c4 := (hb.cell (p := ⟨b, 4, none⟩) h1).trans h.c4
  c5 := h.c5.imp fun _ e => (hb.cell (p := ⟨b, 5, none⟩) h1).trans e
  c6 := (hb.cell (p := ⟨b, 6, none⟩) h1).trans h.c6
  c8 := (hb.cell (p := ⟨b, 8, none⟩) h1).trans h.c8
  fz := fun i => (hb.frozen (p := ⟨b, i, none⟩) h1).trans (h.fz i)
  hm := (hb.block m h2).trans h.hm
  bn := Nat.lt_of_lt_of_le h.bn hb.size
  mn := Nat.lt_of_lt_of_le h.mn hb.size
  bm := h.bm

theorem Ek.next {W W' : World} {b m : Nat} (h : Ek W b m) (hb : Below W.heap.size W W') : Ek W' b m := h.below hb h.bn h.mn

theorem cell_set_ne {W : World} {b i j : Nat} {v : Value} (h : i ≠ j) : (W.setCell ⟨b, i, none⟩ v).cell? ⟨b, j, none⟩ = W.cell? ⟨b, j, none⟩ := by
  apply World.cell?_setCell_other; simp
theorem cell_set_eq {W : World} {b i : Nat} {v u : Value} (h : W.cell? ⟨b, i, none⟩ = some u) : (W.setCell ⟨b, i, none⟩ v).cell? ⟨b, i, none⟩ = some v := by
  apply World.cell?_setCell_same; exact h
theorem cell_set_off {W : World} {b i c j : Nat} {v : Value} (h : b ≠ c) : (W.setCell ⟨b, i, none⟩ v).cell? ⟨c, j, none⟩ = W.cell? ⟨c, j, none⟩ := by
  apply World.cell?_setCell_other; intro e; exact h (by simpa using congrArg Addr.block e)

theorem Ek.set {W : World} {b m : Nat} (h : Ek W b m) (i : Nat) (v : Value) (h2 : i = 2 → ∃ x, v = .int .i64 x) (h4 : i ≠ 4) (h6 : i ≠ 6) (h8 : i ≠ 8) : Ek (W.setCell ⟨b, i, none⟩ v) b m where
  c2 := by
    by_cases e : i = 2
    · subst e; obtain ⟨x, rfl⟩ := h2 rfl; obtain ⟨y, hy⟩ := h.c2; exact ⟨x, cell_set_eq hy⟩
    · obtain ⟨y, hy⟩ := h.c2; exact ⟨y, (cell_set_ne (by omega)).trans hy⟩
  c4 := (cell_set_ne (by omega)).trans h.c4
  c5 := by
    by_cases e : i = 5
    · subst e; obtain ⟨y, hy⟩ := h.c5; exact ⟨v, cell_set_eq hy⟩
    · obtain ⟨y, hy⟩ := h.c5; exact ⟨y, (cell_set_ne (by omega)).trans hy⟩
  c6 := (cell_set_ne (by omega)).trans h.c6
  c8 := (cell_set_ne (by omega)).trans h.c8
  fz := fun j => by rw [World.frozen?_setCell]; exact h.fz j
  hm := (Below.heap_setCell _ _ _ _ (fun e => h.bm e.symm)).trans h.hm
  bn := by simpa using h.bn
  mn := by simpa using h.mn
  bm := h.bm

set_option maxHeartbeats 400000 in
theorem newFile_nil (x : Int) (w : World) : Calls Tryz.prog 42 #[.int .u64 x, .slice none 0 0] w fun e w' => e = .returned (.pointer (some ⟨w.heap.size, 0, none⟩)) ∧ Below w.heap.size w w' ∧ w'.cell? ⟨w.heap.size, 4, none⟩ = some (.int .i64 0) ∧ w.heap.size < w'.heap.size := by
  have hq := fun (w : World) (a : Option Addr) (n c : Nat) => Lib.run_eql_slice_nil (P := Tryz.prog) w 39 5 a n c 0 0 Tryz.underlying39
  go_enter Tryz.func42, Tryz.ntmps42
  go_wp2
  go_ret
  exact ⟨rfl, (Below.refl _ _).alloc (Nat.le_refl _) _, by simp, by simp⟩

theorem cell_one_at {w : World} {x : Value} {t : TypeId} {B : Nat} (h : B = w.heap.size) : ∀ j u, [x][j]? = some u → (w.alloc (.cells #[x] t)).cell? ((⟨B, 0, none⟩ : Addr).add j) = some u := by
  subst h; exact cell_one_new w x t

theorem first_drewN {W W' : World} {n : Nat} (h : Below (W.drewN n).heap.size (W.drewN n) W') : Below W.heap.size W W' :=
  (below_drewN (Below.refl _ W) n).trans h

theorem info98 : (Tryz.prog.info? 98).map (fun i => (i.zero, i.size, i.bytes)) = some (some (.pointer none), 1, 8) := by kernel_rfl

set_option maxHeartbeats 400000 in
theorem blocks_zero (f : Nat) (w : World) (h : w.cell? ⟨f, 4, none⟩ = some (.int .i64 0)) : Calls Tryz.prog 43 #[.pointer (some ⟨f, 0, none⟩)] w fun e w' => e = .returned (.int .i64 1) ∧ w = w' := by
  go_enter Tryz.func43, Tryz.ntmps43
  go_wp2
  go_ret
  exact ⟨rfl, rfl⟩

end Go.Proofs.YtpnmnjelppnfoaaGreat
