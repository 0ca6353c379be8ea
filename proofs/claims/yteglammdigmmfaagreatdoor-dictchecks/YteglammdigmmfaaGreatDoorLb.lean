import Derived.Test.YteglammdigmmfaaGreatDoorLa
import Derived.Test.YteglammdigmmfaaGreatDoorProg
import Derived.Shelf.Strings.Trim
import Derived.Shelf.Strings.Count
import Derived.Shelf.Strings.IndexAnyAll
/-
  DERIVED. The program's characters over marks.
-/
namespace Go.Proofs.YteglammdigmmfaaGreatDoor.Ck
open Go Go.Proofs Go.RowKit

/-- A digit or one of these marks. -/
def doI (m : ByteArray) (c : Int) : Bool := dgI c || hasR m c
set_option maxRecDepth 100000 in
theorem digitOr_any (w : World) (m : ByteArray) (c : Int) (hz : m.size < 100) (hs : ∀ b ∈ m.data.toList, b.toNat < 128) : Calls Tryz.prog 104 #[.string m, .int .i32 c] w fun e w' => e = .returned (.bool (doI m c)) ∧ Below w.heap.size w w' := by
  have c1 := isDigit74_any w c
  have c2 := contains_any w m hz hs c
  unfold doI
  clear hs hz
  generalize hasR m c = Z at *
  cases hd : dgI c with
  | true =>
    rw [hd] at c1
    rw [Bool.true_or]
    clear c2
    go_enter Tryz.func104, Tryz.ntmps104
    go_wp2_with (go_at_call 74; refine Stop.mk ?_)
    refine Stop.out (c1.mono ?_)
    rintro e W1 ⟨rfl, rfl⟩
    go_wp2
    go_ret
    exact ⟨rfl, Below.refl _ _⟩
  | false =>
    rw [hd] at c1
    rw [Bool.false_or]
    go_enter Tryz.func104, Tryz.ntmps104
    go_wp2_with (go_at_call 74; refine Stop.mk ?_)
    refine Stop.out (c1.mono ?_)
    rintro e W1 ⟨rfl, rfl⟩
    go_wp2_with (go_at_call 116; refine Stop.mk ?_)
    refine Stop.out (c2.mono ?_)
    rintro e W1 ⟨rfl, hb⟩
    go_wp2
    go_ret
    exact ⟨rfl, hb⟩
def ageM : ByteArray := ⟨#[68, 87, 77, 89]⟩
theorem ageC_any (w : World) (c : Int) : Calls Tryz.prog 71 #[.int .i32 c] w fun e w' => e = .returned (.bool (doI ageM c)) ∧ Below w.heap.size w w' := by
  have c1 := digitOr_any w ⟨#[68, 87, 77, 89]⟩ c (by decide) (by decide)
  unfold ageM
  generalize doI ⟨#[68, 87, 77, 89]⟩ c = Z at *
  go_enter Tryz.func71, Tryz.ntmps71
  go_wp2_with (go_at_call 104; refine Stop.mk ?_)
  refine Stop.out (c1.mono ?_)
  rintro e W1 ⟨rfl, hb⟩
  go_wp2
  go_ret
  exact ⟨rfl, hb⟩
def decimalM : ByteArray := ⟨#[43, 45, 46, 69, 101, 32]⟩
theorem decimalC_any (w : World) (c : Int) : Calls Tryz.prog 76 #[.int .i32 c] w fun e w' => e = .returned (.bool (doI decimalM c)) ∧ Below w.heap.size w w' := by
  have c1 := digitOr_any w ⟨#[43, 45, 46, 69, 101, 32]⟩ c (by decide) (by decide)
  unfold decimalM
  generalize doI ⟨#[43, 45, 46, 69, 101, 32]⟩ c = Z at *
  go_enter Tryz.func76, Tryz.ntmps76
  go_wp2_with (go_at_call 104; refine Stop.mk ?_)
  refine Stop.out (c1.mono ?_)
  rintro e W1 ⟨rfl, hb⟩
  go_wp2
  go_ret
  exact ⟨rfl, hb⟩
def momM : ByteArray := ⟨#[43, 45, 46]⟩
theorem momC_any (w : World) (c : Int) : Calls Tryz.prog 78 #[.int .i32 c] w fun e w' => e = .returned (.bool (doI momM c)) ∧ Below w.heap.size w w' := by
  have c1 := digitOr_any w ⟨#[43, 45, 46]⟩ c (by decide) (by decide)
  unfold momM
  generalize doI ⟨#[43, 45, 46]⟩ c = Z at *
  go_enter Tryz.func78, Tryz.ntmps78
  go_wp2_with (go_at_call 104; refine Stop.mk ?_)
  refine Stop.out (c1.mono ?_)
  rintro e W1 ⟨rfl, hb⟩
  go_wp2
  go_ret
  exact ⟨rfl, hb⟩
def wholeM : ByteArray := ⟨#[43, 45, 32]⟩
theorem wholeC_any (w : World) (c : Int) : Calls Tryz.prog 80 #[.int .i32 c] w fun e w' => e = .returned (.bool (doI wholeM c)) ∧ Below w.heap.size w w' := by
  have c1 := digitOr_any w ⟨#[43, 45, 32]⟩ c (by decide) (by decide)
  unfold wholeM
  generalize doI ⟨#[43, 45, 32]⟩ c = Z at *
  go_enter Tryz.func80, Tryz.ntmps80
  go_wp2_with (go_at_call 104; refine Stop.mk ?_)
  refine Stop.out (c1.mono ?_)
  rintro e W1 ⟨rfl, hb⟩
  go_wp2
  go_ret
  exact ⟨rfl, hb⟩
def pointedM : ByteArray := ⟨#[46]⟩
theorem pointedC_any (w : World) (c : Int) : Calls Tryz.prog 85 #[.int .i32 c] w fun e w' => e = .returned (.bool (doI pointedM c)) ∧ Below w.heap.size w w' := by
  have c1 := digitOr_any w ⟨#[46]⟩ c (by decide) (by decide)
  unfold pointedM
  generalize doI ⟨#[46]⟩ c = Z at *
  go_enter Tryz.func85, Tryz.ntmps85
  go_wp2_with (go_at_call 104; refine Stop.mk ?_)
  refine Stop.out (c1.mono ?_)
  rintro e W1 ⟨rfl, hb⟩
  go_wp2
  go_ret
  exact ⟨rfl, hb⟩
def codeM : ByteArray := ⟨#[32, 95]⟩
def cdI (c : Int) : Bool := cpI c || doI codeM c
set_option maxRecDepth 100000 in
theorem codeC_any (w : World) (c : Int) : Calls Tryz.prog 73 #[.int .i32 c] w fun e w' => e = .returned (.bool (cdI c)) ∧ Below w.heap.size w w' := by
  have c1 := isCapital_any w c
  have c2 := digitOr_any w ⟨#[32, 95]⟩ c (by decide) (by decide)
  unfold cdI codeM
  generalize doI ⟨#[32, 95]⟩ c = Z at *
  cases hd : cpI c with
  | true =>
    rw [hd] at c1
    rw [Bool.true_or]
    clear c2
    go_enter Tryz.func73, Tryz.ntmps73
    go_wp2_with (go_at_call 106; refine Stop.mk ?_)
    refine Stop.out (c1.mono ?_)
    rintro e W1 ⟨rfl, rfl⟩
    go_wp2
    go_ret
    exact ⟨rfl, Below.refl _ _⟩
  | false =>
    rw [hd] at c1
    rw [Bool.false_or]
    go_enter Tryz.func73, Tryz.ntmps73
    go_wp2_with (go_at_call 106; refine Stop.mk ?_)
    refine Stop.out (c1.mono ?_)
    rintro e W1 ⟨rfl, rfl⟩
    go_wp2_with (go_at_call 104; refine Stop.mk ?_)
    refine Stop.out (c2.mono ?_)
    rintro e W1 ⟨rfl, hb⟩
    go_wp2
    go_ret
    exact ⟨rfl, hb⟩
def proseM : ByteArray := ⟨#[9, 10, 12, 13]⟩
def prI (c : Int) : Bool := !ctl c || hasR proseM c
set_option maxRecDepth 100000 in
theorem proseC_any (w : World) (c : Int) : Calls Tryz.prog 83 #[.int .i32 c] w fun e w' => e = .returned (.bool (prI c)) ∧ Below w.heap.size w w' := by
  have c1 := isControl_any w c
  have c2 := contains_any w ⟨#[9, 10, 12, 13]⟩ (by decide) (by decide) c
  unfold prI proseM
  generalize hasR ⟨#[9, 10, 12, 13]⟩ c = Z at *
  cases hd : ctl c with
  | false =>
    rw [hd] at c1
    rw [Bool.not_false, Bool.true_or]
    clear c2
    go_enter Tryz.func83, Tryz.ntmps83
    go_wp2_with (go_at_call 115; refine Stop.mk ?_)
    refine Stop.out (c1.mono ?_)
    rintro e W1 ⟨rfl, rfl⟩
    go_wp2
    go_ret
    exact ⟨rfl, Below.refl _ _⟩
  | true =>
    rw [hd] at c1
    rw [Bool.not_true, Bool.false_or]
    go_enter Tryz.func83, Tryz.ntmps83
    go_wp2_with (go_at_call 115; refine Stop.mk ?_)
    refine Stop.out (c1.mono ?_)
    rintro e W1 ⟨rfl, rfl⟩
    go_wp2_with (go_at_call 116; refine Stop.mk ?_)
    refine Stop.out (c2.mono ?_)
    rintro e W1 ⟨rfl, hb⟩
    go_wp2
    go_ret
    exact ⟨rfl, hb⟩
end Go.Proofs.YteglammdigmmfaaGreatDoor.Ck

namespace Go.Proofs.YteglammdigmmfaaGreatDoor.Ck
open Go Go.Proofs Go.RowKit Go.Shelf Go.Lib

/-- What the shelf's names are here. -/
def tlRen : Go.Shelf.Ren := ⟨fun | 119 => 141 | 137 => 140 | 151 => 116 | 152 => 125 | 161 => 123 | 197 => 59 | 217 => 133 | 224 => 135 | 225 => 134 | 227 => 127 | 228 => 128 | 231 => 137 | 233 => 138 | 235 => 139 | 260 => 89 | 266 => 148 | n => n, fun | 0 => 0 | 3 => 3 | 4 => 4 | 5 => 5 | 9 => 9 | 21 => 21 | 46 => 97 | 105 => 95 | 116 => 127 | 117 => 128 | 119 => 116 | 124 => 135 | 138 => 118 | 139 => 119 | n => n, fun | 3 => 0 | 4 => 1 | n => n⟩
theorem tlLays161 : Go.Proofs.Lays.n161 Tryz.prog tlRen := {
  mixed := by kernel_rfl,
  f119 := Tryz.func141.trans (congrArg some (by kernel_rfl)),
  f137 := Tryz.func140.trans (congrArg some (by kernel_rfl)),
  f151 := Tryz.func116.trans (congrArg some (by kernel_rfl)),
  f152 := Tryz.func125.trans (congrArg some (by kernel_rfl)),
  f161 := Tryz.func123.trans (congrArg some (by kernel_rfl)),
  f197 := Tryz.func59.trans (congrArg some (by kernel_rfl)),
  f217 := Tryz.func133.trans (congrArg some (by kernel_rfl)),
  f224 := Tryz.func135.trans (congrArg some (by kernel_rfl)),
  f225 := Tryz.func134.trans (congrArg some (by kernel_rfl)),
  f227 := Tryz.func127.trans (congrArg some (by kernel_rfl)),
  f228 := Tryz.func128.trans (congrArg some (by kernel_rfl)),
  f231 := Tryz.func137.trans (congrArg some (by kernel_rfl)),
  f233 := Tryz.func138.trans (congrArg some (by kernel_rfl)),
  f235 := Tryz.func139.trans (congrArg some (by kernel_rfl)),
  f260 := Tryz.func89.trans (congrArg some (by kernel_rfl)),
  f266 := Tryz.func148.trans (congrArg some (by kernel_rfl)),
  t0 := Tryz.underlying0,
  a0 := Tryz.isAgg0,
  z0 := Tryz.sizeOf0,
  v0 := Tryz.zeroValue0,
  t3 := Tryz.underlying3,
  a3 := Tryz.isAgg3,
  z3 := Tryz.sizeOf3,
  v3 := Tryz.zeroValue3,
  t4 := Tryz.underlying4,
  a4 := Tryz.isAgg4,
  z4 := Tryz.sizeOf4,
  v4 := Tryz.zeroValue4,
  t5 := Tryz.underlying5,
  a5 := Tryz.isAgg5,
  z5 := Tryz.sizeOf5,
  v5 := Tryz.zeroValue5,
  t9 := Tryz.underlying9,
  a9 := Tryz.isAgg9,
  z9 := Tryz.sizeOf9,
  v9 := Tryz.zeroValue9,
  t21 := Tryz.underlying21,
  a21 := Tryz.isAgg21,
  z21 := Tryz.sizeOf21,
  v21 := Tryz.zeroValue21,
  t46 := Tryz.underlying97,
  a46 := Tryz.isAgg97,
  z46 := Tryz.sizeOf97,
  v46 := Tryz.zeroValue97,
  t105 := Tryz.underlying95,
  a105 := Tryz.isAgg95,
  z105 := Tryz.sizeOf95,
  v105 := Tryz.zeroValue95,
  t116 := Tryz.underlying127,
  a116 := Tryz.isAgg127,
  z116 := Tryz.sizeOf127,
  t117 := Tryz.underlying128,
  a117 := Tryz.isAgg128,
  z117 := Tryz.sizeOf128,
  v117 := Tryz.zeroValue128,
  t119 := Tryz.underlying116,
  a119 := Tryz.isAgg116,
  z119 := Tryz.sizeOf116,
  t124 := Tryz.underlying135,
  a124 := Tryz.isAgg135,
  z124 := Tryz.sizeOf135,
  v124 := Tryz.zeroValue135,
  t138 := Tryz.underlying118,
  a138 := Tryz.isAgg118,
  z138 := Tryz.sizeOf118,
  v138 := Tryz.zeroValue118,
  t139 := Tryz.underlying119,
  a139 := Tryz.isAgg119,
  z139 := Tryz.sizeOf119,
  v139 := Tryz.zeroValue119,
  g3 := by kernel_rfl,
  g4 := by kernel_rfl }

/-- What the shelf's names are here. -/
def coRen : Go.Shelf.Ren := ⟨fun | 138 => 91 | 143 => 92 | 195 => 58 | 217 => 133 | 218 => 120 | 219 => 121 | 224 => 135 | 225 => 134 | 266 => 148 | 267 => 136 | 314 => 149 | n => n, fun | 0 => 0 | 3 => 3 | 4 => 4 | 5 => 5 | 9 => 9 | 46 => 97 | 51 => 22 | 146 => 145 | n => n, fun | 1 => 2 | n => n⟩
theorem coLays138 : Go.Proofs.Lays.n138 Tryz.prog coRen := {
  mixed := by kernel_rfl,
  f138 := Tryz.func91.trans (congrArg some (by kernel_rfl)),
  f143 := Tryz.func92.trans (congrArg some (by kernel_rfl)),
  f195 := Tryz.func58.trans (congrArg some (by kernel_rfl)),
  f217 := Tryz.func133.trans (congrArg some (by kernel_rfl)),
  f218 := Tryz.func120.trans (congrArg some (by kernel_rfl)),
  f219 := Tryz.func121.trans (congrArg some (by kernel_rfl)),
  f224 := Tryz.func135.trans (congrArg some (by kernel_rfl)),
  f225 := Tryz.func134.trans (congrArg some (by kernel_rfl)),
  f266 := Tryz.func148.trans (congrArg some (by kernel_rfl)),
  f267 := Tryz.func136.trans (congrArg some (by kernel_rfl)),
  f314 := Tryz.func149.trans (congrArg some (by kernel_rfl)),
  t0 := Tryz.underlying0,
  a0 := Tryz.isAgg0,
  z0 := Tryz.sizeOf0,
  v0 := Tryz.zeroValue0,
  t3 := Tryz.underlying3,
  a3 := Tryz.isAgg3,
  z3 := Tryz.sizeOf3,
  v3 := Tryz.zeroValue3,
  t4 := Tryz.underlying4,
  a4 := Tryz.isAgg4,
  z4 := Tryz.sizeOf4,
  v4 := Tryz.zeroValue4,
  t5 := Tryz.underlying5,
  a5 := Tryz.isAgg5,
  z5 := Tryz.sizeOf5,
  v5 := Tryz.zeroValue5,
  t9 := Tryz.underlying9,
  a9 := Tryz.isAgg9,
  z9 := Tryz.sizeOf9,
  v9 := Tryz.zeroValue9,
  t46 := Tryz.underlying97,
  a46 := Tryz.isAgg97,
  z46 := Tryz.sizeOf97,
  v46 := Tryz.zeroValue97,
  t51 := Tryz.underlying22,
  a51 := Tryz.isAgg22,
  z51 := Tryz.sizeOf22,
  v51 := Tryz.zeroValue22,
  t146 := Tryz.underlying145,
  a146 := Tryz.isAgg145,
  z146 := Tryz.sizeOf145,
  v146 := Tryz.zeroValue145,
  g1 := by kernel_rfl }

/-- What the shelf's names are here. -/
def iaRen : Go.Shelf.Ren := ⟨fun | 119 => 141 | 137 => 140 | 152 => 125 | 153 => 111 | 217 => 133 | 224 => 135 | 225 => 134 | 226 => 126 | 227 => 127 | 228 => 128 | 266 => 148 | n => n, fun | 0 => 0 | 3 => 3 | 4 => 4 | 5 => 5 | 9 => 9 | 21 => 21 | 46 => 97 | 116 => 127 | 117 => 128 | 124 => 135 | n => n, fun  | n => n⟩
theorem iaLays153 : Go.Proofs.Lays.n153 Tryz.prog iaRen := {
  mixed := by kernel_rfl,
  f119 := Tryz.func141.trans (congrArg some (by kernel_rfl)),
  f137 := Tryz.func140.trans (congrArg some (by kernel_rfl)),
  f152 := Tryz.func125.trans (congrArg some (by kernel_rfl)),
  f153 := Tryz.func111.trans (congrArg some (by kernel_rfl)),
  f217 := Tryz.func133.trans (congrArg some (by kernel_rfl)),
  f224 := Tryz.func135.trans (congrArg some (by kernel_rfl)),
  f225 := Tryz.func134.trans (congrArg some (by kernel_rfl)),
  f226 := Tryz.func126.trans (congrArg some (by kernel_rfl)),
  f227 := Tryz.func127.trans (congrArg some (by kernel_rfl)),
  f228 := Tryz.func128.trans (congrArg some (by kernel_rfl)),
  f266 := Tryz.func148.trans (congrArg some (by kernel_rfl)),
  t0 := Tryz.underlying0,
  a0 := Tryz.isAgg0,
  z0 := Tryz.sizeOf0,
  v0 := Tryz.zeroValue0,
  t3 := Tryz.underlying3,
  a3 := Tryz.isAgg3,
  z3 := Tryz.sizeOf3,
  v3 := Tryz.zeroValue3,
  t4 := Tryz.underlying4,
  a4 := Tryz.isAgg4,
  z4 := Tryz.sizeOf4,
  v4 := Tryz.zeroValue4,
  t5 := Tryz.underlying5,
  a5 := Tryz.isAgg5,
  z5 := Tryz.sizeOf5,
  v5 := Tryz.zeroValue5,
  t9 := Tryz.underlying9,
  a9 := Tryz.isAgg9,
  z9 := Tryz.sizeOf9,
  v9 := Tryz.zeroValue9,
  t21 := Tryz.underlying21,
  a21 := Tryz.isAgg21,
  z21 := Tryz.sizeOf21,
  v21 := Tryz.zeroValue21,
  t46 := Tryz.underlying97,
  a46 := Tryz.isAgg97,
  z46 := Tryz.sizeOf97,
  v46 := Tryz.zeroValue97,
  t116 := Tryz.underlying127,
  a116 := Tryz.isAgg127,
  z116 := Tryz.sizeOf127,
  t117 := Tryz.underlying128,
  a117 := Tryz.isAgg128,
  z117 := Tryz.sizeOf128,
  v117 := Tryz.zeroValue128,
  t124 := Tryz.underlying135,
  a124 := Tryz.isAgg135,
  z124 := Tryz.sizeOf135,
  v124 := Tryz.zeroValue135 }
end Go.Proofs.YteglammdigmmfaaGreatDoor.Ck
