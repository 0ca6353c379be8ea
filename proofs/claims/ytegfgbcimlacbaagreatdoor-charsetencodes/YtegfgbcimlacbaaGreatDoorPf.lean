
import Derived.Test.YtegfgbcimlacbaaGreatDoorPe
import Derived.Shelf.Unicode.DecodeAny
import Derived.Shelf.Utf8.AppendRunePlain
/-
  DERIVED. utf8.DecodeRuneInString and utf8.AppendRune, off the shelf; the rune that a text begins with.
-/
namespace Go.Proofs.YtegfgbcimlacbaaGreatDoor
open Go Go.Proofs Go.RowKit Go.Shelf Go.Lib

/-- What the shelf's names are here. -/
def appRen : Go.Shelf.Ren := ⟨fun | 242 => 53 | 278 => 66 | n => n, fun | 37 => 27 | 21 => 21 | 51 => 120 | 4 => 4 | 5 => 5 | 46 => 87 | n => n, fun n => n⟩

theorem appLays : Go.Proofs.Lays.n242 Tryz.prog appRen := {
  mixed := by kernel_rfl,
  f242 := Tryz.func53.trans (congrArg some (by kernel_rfl)),
  f278 := Tryz.func66.trans (congrArg some (by kernel_rfl)),
  t4 := Tryz.underlying4,
  a4 := Tryz.isAgg4,
  z4 := Tryz.sizeOf4,
  v4 := Tryz.zeroValue4,
  t5 := Tryz.underlying5,
  a5 := Tryz.isAgg5,
  z5 := Tryz.sizeOf5,
  v5 := Tryz.zeroValue5,
  t21 := Tryz.underlying21,
  a21 := Tryz.isAgg21,
  z21 := Tryz.sizeOf21,
  v21 := Tryz.zeroValue21,
  t37 := Tryz.underlying27,
  a37 := Tryz.isAgg27,
  z37 := Tryz.sizeOf27,
  v37 := Tryz.zeroValue27,
  t46 := Tryz.underlying87,
  a46 := Tryz.isAgg87,
  z46 := Tryz.sizeOf87,
  v46 := Tryz.zeroValue87,
  t51 := Tryz.underlying120,
  a51 := Tryz.isAgg120,
  z51 := Tryz.sizeOf120,
  v51 := Tryz.zeroValue120 }

theorem append_any (B : Nat) (v : Value) (n : Nat) (xs : List Value) (r : Int) (h0 : -2147483648 ≤ r) (h1 : r ≤ 2147483647) (w : World) (hown : w.ownsRow B 5 1 v n xs) (hn : n + 4 ≤ 140737488355328) (hB : B ≤ w.heap.size) :
    Calls Tryz.prog 53 #[v, .int .i32 r] w fun e w' => ∃ v', e = .returned v' ∧ w'.ownsRow B 5 1 v' (n + (Lib.runeCells r).length) (xs ++ Lib.runeCells r) ∧ ∃ o, (w.alloc o).grownBy w' v.ownBlock :=
  Any.utf8_AppendRune_plain appLays (by kernel_rfl) B v n xs r h0 h1 w hown hn hB

/-- The rune of several bytes that a text begins with, and how many; nothing if there is none. -/
def uHead (s : ByteArray) : Nat × Nat :=
  if decide ((Lib.decodeGo s).2 < 2) || !(wid (Lib.decodeGo s).1) then (0, 0) else ((Lib.decodeGo s).1, (Lib.decodeGo s).2)

end Go.Proofs.YtegfgbcimlacbaaGreatDoor
