import Derived.Test.YtaingbnfalibjaaDoorN
import Derived.Shelf.Bits.Mul64
/-
  DERIVED. Numbers without their signs.
-/
namespace Go.Proofs.YtaingbnfalibjaaDoor
open Go Go.Proofs Go.RowKit NumLine

def mulLays_ren : Go.Shelf.Ren := ⟨fun | 264 => 44 | n => n, fun | 46 => 95 | 53 => 22 | n => n, fun | n => n⟩
theorem mulLays : Go.Proofs.Lays.n264 Tryd.prog mulLays_ren := {
  mixed := by kernel_rfl,
  f264 := Tryd.func44.trans (congrArg some (by kernel_rfl)),
  t46 := Tryd.underlying95,
  a46 := Tryd.isAgg95,
  z46 := Tryd.sizeOf95,
  v46 := Tryd.zeroValue95,
  t53 := Tryd.underlying22,
  a53 := Tryd.isAgg22,
  z53 := Tryd.sizeOf22,
  v53 := Tryd.zeroValue22 }
theorem mul_any (w : World) (x y : Nat) (hx : x < 18446744073709551616) (hy : y < 18446744073709551616) :
    Calls Tryd.prog 44 #[.int .u64 x, .int .u64 y] w fun e w' => e = .returned (.tuple #[.int .u64 ((x * y / 18446744073709551616 : Nat) : Int), .int .u64 ((x * y % 18446744073709551616 : Nat) : Int)]) ∧ w' = w := Any.bits_Mul64 mulLays x y hx hy w
end Go.Proofs.YtaingbnfalibjaaDoor
