import Derived.Test.YtlfmihhnijlpiaaGreatDoorProg
import Derived.Shelf.Strings.OnBuilder
namespace Go.Proofs.YtlfmihhnijlpiaaGreatDoor.Sp
open Go Go.Proofs Go.RowKit Go.Shelf Go.Lib

/-- What the shelf's names are here. -/
def jnRen : Go.Shelf.Ren := ⟨fun | 156 => 18 | 165 => 30 | 166 => 31 | 169 => 32 | 240 => 42 | 241 => 43 | 276 => 67 | 277 => 68 | n => n, fun | 0 => 0 | 3 => 3 | 4 => 4 | 5 => 5 | 9 => 9 | 20 => 20 | 31 => 23 | 37 => 63 | 70 => 72 | 72 => 74 | 75 => 29 | 76 => 76 | 80 => 78 | 127 => 87 | 164 => 91 | n => n, fun  | n => n⟩
theorem jnLays156 : Go.Proofs.Lays.n156 Tryz.prog jnRen := {
  mixed := by kernel_rfl,
  f156 := Tryz.func18.trans (congrArg some (by kernel_rfl)),
  f165 := Tryz.func30.trans (congrArg some (by kernel_rfl)),
  f166 := Tryz.func31.trans (congrArg some (by kernel_rfl)),
  f169 := Tryz.func32.trans (congrArg some (by kernel_rfl)),
  f240 := Tryz.func42.trans (congrArg some (by kernel_rfl)),
  f241 := Tryz.func43.trans (congrArg some (by kernel_rfl)),
  f276 := Tryz.func67.trans (congrArg some (by kernel_rfl)),
  f277 := Tryz.func68.trans (congrArg some (by kernel_rfl)),
  t0 := Tryz.underlying0,
  a0 := Tryz.isAgg0,
  z0 := Tryz.sizeOf0,
  v0 := Tryz.zeroValue0,
  t3 := Tryz.underlying3,
  a3 := Tryz.isAgg3,
  z3 := Tryz.sizeOf3,
  v3 := Tryz.zeroValue3,
  t4 := Tryz.underlying4,
  a4 := Tryz.isAgg4,
  z4 := Tryz.sizeOf4,
  v4 := Tryz.zeroValue4,
  t9 := Tryz.underlying9,
  a9 := Tryz.isAgg9,
  z9 := Tryz.sizeOf9,
  v9 := Tryz.zeroValue9,
  t20 := Tryz.underlying20,
  a20 := Tryz.isAgg20,
  z20 := Tryz.sizeOf20,
  v20 := Tryz.zeroValue20,
  t31 := Tryz.underlying23,
  a31 := Tryz.isAgg23,
  z31 := Tryz.sizeOf23,
  v31 := Tryz.zeroValue23,
  t37 := Tryz.underlying63,
  a37 := Tryz.isAgg63,
  z37 := Tryz.sizeOf63,
  v37 := Tryz.zeroValue63,
  t70 := Tryz.underlying72,
  a70 := Tryz.isAgg72,
  z70 := Tryz.sizeOf72,
  v70 := Tryz.zeroValue72,
  t72 := Tryz.underlying74,
  a72 := Tryz.isAgg74,
  z72 := Tryz.sizeOf74,
  v72 := Tryz.zeroValue74,
  t75 := Tryz.underlying29,
  a75 := Tryz.isAgg29,
  z75 := Tryz.sizeOf29,
  v75 := Tryz.zeroValue29,
  t76 := Tryz.underlying76,
  a76 := Tryz.isAgg76,
  z76 := Tryz.sizeOf76,
  v76 := Tryz.zeroValue76,
  t127 := Tryz.underlying87,
  a127 := Tryz.isAgg87,
  z127 := Tryz.sizeOf87,
  v127 := Tryz.zeroValue87,
  t164 := Tryz.underlying91,
  a164 := Tryz.isAgg91,
  z164 := Tryz.sizeOf91,
  v164 := Tryz.zeroValue91 }
end Go.Proofs.YtlfmihhnijlpiaaGreatDoor.Sp

namespace Go.Proofs.YtlfmihhnijlpiaaGreatDoor.Sp
open Go Go.Proofs Go.RowKit Go.Shelf Go.Lib
theorem jnExtra : Builder.Extra Tryz.prog jnRen := {
  sizeBuilder := by kernel_rfl,
  liesBuilder := by kernel_rfl,
  t5 := Tryz.underlying5, a5 := Tryz.isAgg5, z5 := Tryz.sizeOf5, v5 := Tryz.zeroValue5,
  infoByte := by kernel_rfl, cellsByte := by kernel_rfl, sizeByte := by kernel_rfl, neB5 := by decide }
end Go.Proofs.YtlfmihhnijlpiaaGreatDoor.Sp
