import Derived.Test.YtnamkcfmbefkfaaDoorD
import Derived.Deep.RegionLawGrows
import Derived.WideMake
namespace Go.Proofs.YtnamkcfmbefkfaaDoor
open Go Go.Proofs Go.RowKit
theorem cell_set_ne {W : World} {b i j : Nat} {v : Value} (h : i ≠ j) : (W.setCell ⟨b, i, none⟩ v).cell? ⟨b, j, none⟩ = W.cell? ⟨b, j, none⟩ := by
  apply World.cell?_setCell_other; simp
theorem cell_set_eq {W : World} {b i : Nat} {v u : Value} (h : W.cell? ⟨b, i, none⟩ = some u) : (W.setCell ⟨b, i, none⟩ v).cell? ⟨b, i, none⟩ = some v := by
  apply World.cell?_setCell_same; exact h
theorem cell_set_off {W : World} {b i c j : Nat} {v : Value} (h : b ≠ c) : (W.setCell ⟨b, i, none⟩ v).cell? ⟨c, j, none⟩ = W.cell? ⟨c, j, none⟩ := by
  apply World.cell?_setCell_other; intro e; exact h (by simpa using congrArg Addr.block e)
end Go.Proofs.YtnamkcfmbefkfaaDoor
