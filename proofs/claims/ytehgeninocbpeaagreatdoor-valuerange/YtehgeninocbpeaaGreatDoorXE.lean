import Derived.Test.YtehgeninocbpeaaGreatDoorProg
import Derived.WalkKit
import Derived.WalkSpells
import Derived.WalkLawsBesides
import Derived.Deep.QuietTactic
import Derived.BigQuiet
import Derived.BigRegion
import Derived.KernelRfl
import Derived.Deep.RegionWith
import Derived.Deep.LoopGhost
import Derived.WalkMore
import Derived.Deep.RegionLawGrows
import Derived.WideMake
/-
  DERIVED. Errors and the document's faults, held against each other.
-/
namespace Go.Proofs.YtehgeninocbpeaaGreatDoor.Fa
open Go Go.Proofs Go.RowKit

def Stop (p : Prop) : Prop := p
theorem Stop.mk {p : Prop} (h : Stop p) : p := h
theorem Stop.out {p : Prop} (h : p) : Stop p := h

theorem cell_lt {w : World} {a : Addr} {v : Value} (h : w.cell? a = some v) : a.block < w.heap.size := by
  by_cases hl : a.block < w.heap.size
  · exact hl
  · have : w.heap[a.block]? = none := by simp; omega
    simp [World.cell?, this] at h
theorem cell_set_ne {W : World} {b i j : Nat} {v : Value} (h : i ≠ j) : (W.setCell ⟨b, i, none⟩ v).cell? ⟨b, j, none⟩ = W.cell? ⟨b, j, none⟩ := by
  apply World.cell?_setCell_other; simp
theorem cell_set_eq {W : World} {b i : Nat} {v u : Value} (h : W.cell? ⟨b, i, none⟩ = some u) : (W.setCell ⟨b, i, none⟩ v).cell? ⟨b, i, none⟩ = some v := by
  apply World.cell?_setCell_same; exact h
theorem cell_set_off {W : World} {b i c j : Nat} {v : Value} (h : b ≠ c) : (W.setCell ⟨b, i, none⟩ v).cell? ⟨c, j, none⟩ = W.cell? ⟨c, j, none⟩ := by
  apply World.cell?_setCell_other; intro e; exact h (by simpa using congrArg Addr.block e)

theorem owns_succ {W : World} {base : Nat} {e : TypeId} {size : Nat} {v : Value} {k : Nat} {xs : List Value} (h : W.ownsRow base e size v (k + 1) xs) : ∃ g cap, v = .slice (some ⟨g, 0, none⟩) (k + 1) cap := by
  rcases h.2 with ⟨_, h0⟩ | ⟨g, cap, cur, rfl, _⟩
  · omega
  · exact ⟨g, cap, rfl⟩


theorem cell_two_at {w : World} {x0 x1 : Value} {t : TypeId} {B : Nat} (h : B = w.heap.size) : ∀ j u, [x0, x1][j]? = some u → (w.alloc (.cells #[x0, x1] t)).cell? ((⟨B, 0, none⟩ : Addr).add j) = some u := by
  subst h
  intro j u hj
  match j, hj with
  | 0, hj => simp at hj; subst hj; simp [Addr.add]
  | 1, hj => simp at hj; subst hj; simp [Addr.add]
  | n + 2, hj => simp at hj

theorem infoLink : (Tryz.prog.info? 59).map (fun i => (i.zero, i.size, i.bytes)) = some (some (.agg #[.string { data := #[] }, .int .i64 0]), 2, 24) := by kernel_rfl

set_option maxHeartbeats 400000 in
theorem new0_any (c at' : Int) (w : World) : Calls Tryz.prog 13 #[.string { data := #[118, 97, 108, 117, 101] }, .int .i64 at', .int .i64 c] w fun e w' => e = .returned (.agg #[.slice (some ⟨w.heap.size + 1, 0, none⟩) 1 1, .int .i64 c]) ∧ Below w.heap.size w w' ∧ w'.cell? ⟨w.heap.size + 1, 0, none⟩ = some (.string { data := #[118, 97, 108, 117, 101] }) ∧ w'.cell? ⟨w.heap.size + 1, 1, none⟩ = some (.int .i64 at') ∧ w.heap.size + 1 < w'.heap.size := by
  go_enter Tryz.func13, Tryz.ntmps13
  go_wp2
  refine bodyPost_ret (v := .agg #[.slice (some ⟨w.heap.size + 1, 0, none⟩) 1 1, .int .i64 c]) (by simp [results, Tryz.results13, go_sem]) rfl ⟨rfl, ((Below.refl _ _).alloc (Nat.le_refl _) _).alloc (by simp) _, by simp, by simp, by simp⟩


/-- A fault of this layer, as it lies in memory. -/
def FaultAt (w : World) (q : Nat) (a c : Int) : Prop :=
  w.cell? ⟨q, 0, none⟩ = some (.string { data := #[118, 97, 108, 117, 101] }) ∧ w.cell? ⟨q, 1, none⟩ = some (.int .i64 a) ∧ w.cell? ⟨q, 2, none⟩ = some (.iface 83 (.int .i64 c))

theorem FaultAt.next {w w' : World} {q : Nat} {a c : Int} (h : FaultAt w q a c) (hb : Below w.heap.size w w') : FaultAt w' q a c :=
  ⟨(hb.cell (cell_lt h.1)).trans h.1, (hb.cell (cell_lt h.2.1)).trans h.2.1, (hb.cell (cell_lt h.2.2)).trans h.2.2⟩

/-- The program's error, or none; the document's fault, or none: the place and the number. -/
def PErr (w : World) (v : Value) : Option (Int × Int) → Prop
  | some (a, c) => ∃ q, v = .iface 88 (.pointer (some ⟨q, 0, none⟩)) ∧ FaultAt w q a c
  | none => v = .nilIface
def RErr (w : World) (v : Value) : Option (Int × Int) → Prop
  | some (a, c) => ∃ g k, v = .agg #[.slice (some ⟨g, 0, none⟩) 1 k, .int .i64 c] ∧ w.cell? ⟨g, 0, none⟩ = some (.string { data := #[118, 97, 108, 117, 101] }) ∧ w.cell? ⟨g, 1, none⟩ = some (.int .i64 a)
  | none => v = .agg #[.slice none 0 0, .int .i64 0]

theorem PErr.next {w w' : World} {v : Value} {o : Option (Int × Int)} (h : PErr w v o) (hb : Below w.heap.size w w') : PErr w' v o := by
  cases o with
  | some x => obtain ⟨q, rfl, hf⟩ := h; exact ⟨q, rfl, hf.next hb⟩
  | none => exact h
theorem RErr.next {w w' : World} {v : Value} {o : Option (Int × Int)} (h : RErr w v o) (hb : Below w.heap.size w w') : RErr w' v o := by
  cases o with
  | some x => obtain ⟨g, c, rfl, h0, h1⟩ := h; exact ⟨g, c, rfl, (hb.cell (cell_lt h0)).trans h0, (hb.cell (cell_lt h1)).trans h1⟩
  | none => exact h

theorem refusal_any (a c : Int) (w : World) : Calls Tryz.prog 46 #[.int .i64 a, .iface 83 (.int .i64 c)] w fun e w' => ∃ v, e = .returned v ∧ PErr w' v (some (a, c)) ∧ Below w.heap.size w w' := by
  go_enter Tryz.func46, Tryz.ntmps46
  go_wp2
  go_ret
  exact ⟨_, rfl, ⟨w.heap.size, rfl, by simp, by simp, by simp⟩, (Below.refl _ _).alloc (Nat.le_refl _) _⟩

theorem no_any (a c : Int) (w : World) : Calls Tryz.prog 31 #[.int .i64 c, .int .i64 a] w fun e w' => ∃ v, e = .returned v ∧ RErr w' v (some (a, c)) ∧ Below w.heap.size w w' := by
  have hn := fun W => new0_any c a W
  obtain ⟨W0, hW0⟩ : ∃ W0, w.alloc (.cells #[.slice none 0 0, .int .i64 0] 35) = W0 := ⟨_, rfl⟩
  have hb0 : Below w.heap.size w W0 := hW0 ▸ (Below.refl _ _).alloc (Nat.le_refl _) _
  have hs0 : W0.heap.size = w.heap.size + 1 := by rw [← hW0]; simp
  have a0 : W0.cell? ⟨w.heap.size, 0, none⟩ = some (.slice none 0 0) := by rw [← hW0]; simp
  have a1 : W0.cell? ⟨w.heap.size, 1, none⟩ = some (.int .i64 0) := by rw [← hW0]; simp
  have af : ∀ i, W0.frozen? ⟨w.heap.size, i, none⟩ = false := fun i => by rw [← hW0]; simp
  go_enter Tryz.func31, Tryz.ntmps31
  go_wp2_with (go_at_call 13; fail)
  refine (hn _).mono ?_
  rintro e W1 ⟨rfl, hb, h0, h1, h2⟩
  have hlt : w.heap.size < W0.heap.size := by omega
  have b0 := (hb.cell (p := ⟨w.heap.size, 0, none⟩) hlt).trans a0
  have b1 := (hb.cell (p := ⟨w.heap.size, 1, none⟩) hlt).trans a1
  have bf := fun i => (hb.frozen (p := ⟨w.heap.size, i, none⟩) hlt).trans (af i)
  have HB : Hid (Below w.heap.size w W1) := hb0.trans (hb.mono hb0.size)
  clear hn a0 a1 af hW0
  go_wp2
  refine bodyPost_ret (v := .agg #[.slice (some ⟨W0.heap.size + 1, 0, none⟩) 1 1, .int .i64 c]) (by simp [results, Tryz.results31, go_sem, b0, b1]) rfl ?_
  exact ⟨_, rfl, ⟨W0.heap.size + 1, 1, rfl, (cell_set_off (by omega)).trans ((cell_set_off (by omega)).trans h0), (cell_set_off (by omega)).trans ((cell_set_off (by omega)).trans h1)⟩, (HB.out.setCell (p := ⟨w.heap.size, 0, none⟩) (Nat.le_refl _) _).setCell (p := ⟨w.heap.size, 1, none⟩) (Nat.le_refl _) _⟩

end Go.Proofs.YtehgeninocbpeaaGreatDoor.Fa
