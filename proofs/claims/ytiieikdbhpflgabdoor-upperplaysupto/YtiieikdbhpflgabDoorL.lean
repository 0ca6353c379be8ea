import Derived.Test.YtiieikdbhpflgabDoorF
import Derived.Lib.LaidU8
import Derived.OpenShut
/-
  DERIVED. From what the rows list to what the walks ask.
-/
namespace Go.Proofs.YtiieikdbhpflgabDoor
open Go Go.Proofs Go.RowKit

theorem cells5 : Tryd.prog.cellsOf 5 = 1 := by kernel_rfl
theorem cells90 : Tryd.prog.cellsOf 106 = 13 := by kernel_rfl
theorem under5 : Tryd.prog.underlying 5 = some (.int .u8) := by kernel_rfl
theorem under90 : Tryd.prog.underlying 106 = some (.array 13 5) := by kernel_rfl
theorem under91 : Tryd.prog.underlying 107 = some (.array 19 106) := by kernel_rfl
theorem gTb : Tryd.prog.globalNamed "modality/upper.table" = some 0 := by kernel_rfl
theorem tTb : (Tryd.prog.globals[0]?).map (·.type) = some 107 := by kernel_rfl

def tbD : DataW Unit := .agg ((List.range 19).map fun i => Lib.tabData .u8 (((tbL.drop (i * 13)).take 13).map fun n : Nat => (n : Int)))

theorem tb_of {W : World} (h : Lib.VarReads Tryd.prog W "modality/upper.table" tbD) : Tb W := by
  obtain ⟨g, t, cs, fuel, p, hg, hty, hvar, hd⟩ := h
  obtain rfl := Option.some.inj (gTb.symm.trans hg)
  obtain rfl := Option.some.inj (tTb.symm.trans hty)
  intro k hk
  obtain ⟨fuel', d, q, hdi, he⟩ := Lib.array_elem under91 hd (k / 13) (by omega)
  simp only [List.getElem?_map, List.getElem?_range (show k / 13 < 19 by omega), Option.map_some, Option.some.injEq] at hdi
  subst hdi
  rw [cells90] at he
  have hcs := Lib.cells_of_tab under90 under5 cells5 cells90 he
  have e0 := congrArg (·[k % 13]?) hcs
  simp only [List.getElem?_take, List.getElem?_drop, List.getElem?_map] at e0
  rw [if_pos (by omega), if_pos (by omega), show k / 13 * 13 + k % 13 = k by omega] at e0
  rw [World.var?_cell hg hvar k, ← Array.getElem?_toList, e0]
  have hl : k < tbL.length := by rw [show tbL.length = 247 by decide +kernel]; exact hk
  rw [List.getD_eq_getElem?_getD, List.getElem?_eq_getElem hl]
  rfl
end Go.Proofs.YtiieikdbhpflgabDoor
