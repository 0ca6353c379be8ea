import Derived.Test.YtdggplhkeekdjaaGreatDoorLa
import Derived.Test.YtdggplhkeekdjaaGreatDoorProg
import Derived.Shelf.Strings.Trim
import Derived.Shelf.Strings.Count
import Derived.Shelf.Strings.IndexAnyAll
/-
  DERIVED. The program's characters over marks.
-/
namespace Go.Proofs.YtdggplhkeekdjaaGreatDoor.Ck
open Go Go.Proofs Go.RowKit

/-- A digit or one of these marks. -/
def doI (m : ByteArray) (c : Int) : Bool := dgI c || hasR m c
set_option maxRecDepth 100000 in
theorem digitOr_any (w : World) (m : ByteArray) (c : Int) (hz : m.size < 100) (hs : ∀ b ∈ m.data.toList, b.toNat < 128) : Calls Tryz.prog 137 #[.string m, .int .i32 c] w fun e w' => e = .returned (.bool (doI m c)) ∧ Below w.heap.size w w' := by
  have c1 := isDigit74_any w c
  have c2 := contains_any w m hz hs c
  unfold doI
  clear hs hz
  generalize hasR m c = Z at *
  cases hd : dgI c with
  | true =>
    rw [hd] at c1
    rw [Bool.true_or]
    clear c2
    go_enter Tryz.func137, Tryz.ntmps137
    go_wp2_with (go_at_call 120; refine Stop.mk ?_)
    refine Stop.out (c1.mono ?_)
    rintro e W1 ⟨rfl, rfl⟩
    go_wp2
    go_ret
    exact ⟨rfl, Below.refl _ _⟩
  | false =>
    rw [hd] at c1
    rw [Bool.false_or]
    go_enter Tryz.func137, Tryz.ntmps137
    go_wp2_with (go_at_call 120; refine Stop.mk ?_)
    refine Stop.out (c1.mono ?_)
    rintro e W1 ⟨rfl, rfl⟩
    go_wp2_with (go_at_call 99; refine Stop.mk ?_)
    refine Stop.out (c2.mono ?_)
    rintro e W1 ⟨rfl, hb⟩
    go_wp2
    go_ret
    exact ⟨rfl, hb⟩
def ageM : ByteArray := ⟨#[68, 87, 77, 89]⟩
theorem ageC_any (w : World) (c : Int) : Calls Tryz.prog 117 #[.int .i32 c] w fun e w' => e = .returned (.bool (doI ageM c)) ∧ Below w.heap.size w w' := by
  have c1 := digitOr_any w ⟨#[68, 87, 77, 89]⟩ c (by decide) (by decide)
  unfold ageM
  generalize doI ⟨#[68, 87, 77, 89]⟩ c = Z at *
  go_enter Tryz.func117, Tryz.ntmps117
  go_wp2_with (go_at_call 137; refine Stop.mk ?_)
  refine Stop.out (c1.mono ?_)
  rintro e W1 ⟨rfl, hb⟩
  go_wp2
  go_ret
  exact ⟨rfl, hb⟩
def decimalM : ByteArray := ⟨#[43, 45, 46, 69, 101, 32]⟩
theorem decimalC_any (w : World) (c : Int) : Calls Tryz.prog 122 #[.int .i32 c] w fun e w' => e = .returned (.bool (doI decimalM c)) ∧ Below w.heap.size w w' := by
  have c1 := digitOr_any w ⟨#[43, 45, 46, 69, 101, 32]⟩ c (by decide) (by decide)
  unfold decimalM
  generalize doI ⟨#[43, 45, 46, 69, 101, 32]⟩ c = Z at *
  go_enter Tryz.func122, Tryz.ntmps122
  go_wp2_with (go_at_call 137; refine Stop.mk ?_)
  refine Stop.out (c1.mono ?_)
  rintro e W1 ⟨rfl, hb⟩
  go_wp2
  go_ret
  exact ⟨rfl, hb⟩
def momM : ByteArray := ⟨#[43, 45, 46]⟩
theorem momC_any (w : World) (c : Int) : Calls Tryz.prog 124 #[.int .i32 c] w fun e w' => e = .returned (.bool (doI momM c)) ∧ Below w.heap.size w w' := by
  have c1 := digitOr_any w ⟨#[43, 45, 46]⟩ c (by decide) (by decide)
  unfold momM
  generalize doI ⟨#[43, 45, 46]⟩ c = Z at *
  go_enter Tryz.func124, Tryz.ntmps124
  go_wp2_with (go_at_call 137; refine Stop.mk ?_)
  refine Stop.out (c1.mono ?_)
  rintro e W1 ⟨rfl, hb⟩
  go_wp2
  go_ret
  exact ⟨rfl, hb⟩
def wholeM : ByteArray := ⟨#[43, 45, 32]⟩
theorem wholeC_any (w : World) (c : Int) : Calls Tryz.prog 126 #[.int .i32 c] w fun e w' => e = .returned (.bool (doI wholeM c)) ∧ Below w.heap.size w w' := by
  have c1 := digitOr_any w ⟨#[43, 45, 32]⟩ c (by decide) (by decide)
  unfold wholeM
  generalize doI ⟨#[43, 45, 32]⟩ c = Z at *
  go_enter Tryz.func126, Tryz.ntmps126
  go_wp2_with (go_at_call 137; refine Stop.mk ?_)
  refine Stop.out (c1.mono ?_)
  rintro e W1 ⟨rfl, hb⟩
  go_wp2
  go_ret
  exact ⟨rfl, hb⟩
def pointedM : ByteArray := ⟨#[46]⟩
theorem pointedC_any (w : World) (c : Int) : Calls Tryz.prog 131 #[.int .i32 c] w fun e w' => e = .returned (.bool (doI pointedM c)) ∧ Below w.heap.size w w' := by
  have c1 := digitOr_any w ⟨#[46]⟩ c (by decide) (by decide)
  unfold pointedM
  generalize doI ⟨#[46]⟩ c = Z at *
  go_enter Tryz.func131, Tryz.ntmps131
  go_wp2_with (go_at_call 137; refine Stop.mk ?_)
  refine Stop.out (c1.mono ?_)
  rintro e W1 ⟨rfl, hb⟩
  go_wp2
  go_ret
  exact ⟨rfl, hb⟩
def codeM : ByteArray := ⟨#[32, 95]⟩
def cdI (c : Int) : Bool := cpI c || doI codeM c
set_option maxRecDepth 100000 in
theorem codeC_any (w : World) (c : Int) : Calls Tryz.prog 119 #[.int .i32 c] w fun e w' => e = .returned (.bool (cdI c)) ∧ Below w.heap.size w w' := by
  have c1 := isCapital_any w c
  have c2 := digitOr_any w ⟨#[32, 95]⟩ c (by decide) (by decide)
  unfold cdI codeM
  generalize doI ⟨#[32, 95]⟩ c = Z at *
  cases hd : cpI c with
  | true =>
    rw [hd] at c1
    rw [Bool.true_or]
    clear c2
    go_enter Tryz.func119, Tryz.ntmps119
    go_wp2_with (go_at_call 139; refine Stop.mk ?_)
    refine Stop.out (c1.mono ?_)
    rintro e W1 ⟨rfl, rfl⟩
    go_wp2
    go_ret
    exact ⟨rfl, Below.refl _ _⟩
  | false =>
    rw [hd] at c1
    rw [Bool.false_or]
    go_enter Tryz.func119, Tryz.ntmps119
    go_wp2_with (go_at_call 139; refine Stop.mk ?_)
    refine Stop.out (c1.mono ?_)
    rintro e W1 ⟨rfl, rfl⟩
    go_wp2_with (go_at_call 137; refine Stop.mk ?_)
    refine Stop.out (c2.mono ?_)
    rintro e W1 ⟨rfl, hb⟩
    go_wp2
    go_ret
    exact ⟨rfl, hb⟩
def proseM : ByteArray := ⟨#[9, 10, 12, 13]⟩
def prI (c : Int) : Bool := !ctl c || hasR proseM c
set_option maxRecDepth 100000 in
theorem proseC_any (w : World) (c : Int) : Calls Tryz.prog 129 #[.int .i32 c] w fun e w' => e = .returned (.bool (prI c)) ∧ Below w.heap.size w w' := by
  have c1 := isControl_any w c
  have c2 := contains_any w ⟨#[9, 10, 12, 13]⟩ (by decide) (by decide) c
  unfold prI proseM
  generalize hasR ⟨#[9, 10, 12, 13]⟩ c = Z at *
  cases hd : ctl c with
  | false =>
    rw [hd] at c1
    rw [Bool.not_false, Bool.true_or]
    clear c2
    go_enter Tryz.func129, Tryz.ntmps129
    go_wp2_with (go_at_call 148; refine Stop.mk ?_)
    refine Stop.out (c1.mono ?_)
    rintro e W1 ⟨rfl, rfl⟩
    go_wp2
    go_ret
    exact ⟨rfl, Below.refl _ _⟩
  | true =>
    rw [hd] at c1
    rw [Bool.not_true, Bool.false_or]
    go_enter Tryz.func129, Tryz.ntmps129
    go_wp2_with (go_at_call 148; refine Stop.mk ?_)
    refine Stop.out (c1.mono ?_)
    rintro e W1 ⟨rfl, rfl⟩
    go_wp2_with (go_at_call 99; refine Stop.mk ?_)
    refine Stop.out (c2.mono ?_)
    rintro e W1 ⟨rfl, hb⟩
    go_wp2
    go_ret
    exact ⟨rfl, hb⟩
end Go.Proofs.YtdggplhkeekdjaaGreatDoor.Ck

namespace Go.Proofs.YtdggplhkeekdjaaGreatDoor.Ck
open Go Go.Proofs Go.RowKit Go.Shelf Go.Lib

/-- What the shelf's names are here. -/
def tlRen : Go.Shelf.Ren := ⟨fun | 119 => 113 | 137 => 112 | 151 => 99 | 152 => 107 | 161 => 155 | 197 => 98 | 217 => 136 | 224 => 114 | 225 => 115 | 227 => 77 | 228 => 97 | 231 => 75 | 233 => 78 | 235 => 80 | 260 => 106 | 266 => 154 | n => n, fun | 0 => 0 | 3 => 3 | 4 => 4 | 5 => 5 | 9 => 9 | 21 => 21 | 46 => 138 | 105 => 190 | 116 => 172 | 117 => 173 | 119 => 199 | 124 => 176 | 138 => 201 | 139 => 202 | n => n, fun | 3 => 0 | 4 => 1 | n => n⟩
theorem tlLays161 : Go.Proofs.Lays.n161 Tryz.prog tlRen := {
  mixed := by kernel_rfl,
  f119 := Tryz.func113.trans (congrArg some (by kernel_rfl)),
  f137 := Tryz.func112.trans (congrArg some (by kernel_rfl)),
  f151 := Tryz.func99.trans (congrArg some (by kernel_rfl)),
  f152 := Tryz.func107.trans (congrArg some (by kernel_rfl)),
  f161 := Tryz.func155.trans (congrArg some (by kernel_rfl)),
  f197 := Tryz.func98.trans (congrArg some (by kernel_rfl)),
  f217 := Tryz.func136.trans (congrArg some (by kernel_rfl)),
  f224 := Tryz.func114.trans (congrArg some (by kernel_rfl)),
  f225 := Tryz.func115.trans (congrArg some (by kernel_rfl)),
  f227 := Tryz.func77.trans (congrArg some (by kernel_rfl)),
  f228 := Tryz.func97.trans (congrArg some (by kernel_rfl)),
  f231 := Tryz.func75.trans (congrArg some (by kernel_rfl)),
  f233 := Tryz.func78.trans (congrArg some (by kernel_rfl)),
  f235 := Tryz.func80.trans (congrArg some (by kernel_rfl)),
  f260 := Tryz.func106.trans (congrArg some (by kernel_rfl)),
  f266 := Tryz.func154.trans (congrArg some (by kernel_rfl)),
  t0 := Tryz.underlying0,
  a0 := Tryz.isAgg0,
  z0 := Tryz.sizeOf0,
  v0 := Tryz.zeroValue0,
  t3 := Tryz.underlying3,
  a3 := Tryz.isAgg3,
  z3 := Tryz.sizeOf3,
  v3 := Tryz.zeroValue3,
  t4 := Tryz.underlying4,
  a4 := Tryz.isAgg4,
  z4 := Tryz.sizeOf4,
  v4 := Tryz.zeroValue4,
  t5 := Tryz.underlying5,
  a5 := Tryz.isAgg5,
  z5 := Tryz.sizeOf5,
  v5 := Tryz.zeroValue5,
  t9 := Tryz.underlying9,
  a9 := Tryz.isAgg9,
  z9 := Tryz.sizeOf9,
  v9 := Tryz.zeroValue9,
  t21 := Tryz.underlying21,
  a21 := Tryz.isAgg21,
  z21 := Tryz.sizeOf21,
  v21 := Tryz.zeroValue21,
  t46 := Tryz.underlying138,
  a46 := Tryz.isAgg138,
  z46 := Tryz.sizeOf138,
  v46 := Tryz.zeroValue138,
  t105 := Tryz.underlying190,
  a105 := Tryz.isAgg190,
  z105 := Tryz.sizeOf190,
  v105 := Tryz.zeroValue190,
  t116 := Tryz.underlying172,
  a116 := Tryz.isAgg172,
  z116 := Tryz.sizeOf172,
  t117 := Tryz.underlying173,
  a117 := Tryz.isAgg173,
  z117 := Tryz.sizeOf173,
  v117 := Tryz.zeroValue173,
  t119 := Tryz.underlying199,
  a119 := Tryz.isAgg199,
  z119 := Tryz.sizeOf199,
  t124 := Tryz.underlying176,
  a124 := Tryz.isAgg176,
  z124 := Tryz.sizeOf176,
  v124 := Tryz.zeroValue176,
  t138 := Tryz.underlying201,
  a138 := Tryz.isAgg201,
  z138 := Tryz.sizeOf201,
  v138 := Tryz.zeroValue201,
  t139 := Tryz.underlying202,
  a139 := Tryz.isAgg202,
  z139 := Tryz.sizeOf202,
  v139 := Tryz.zeroValue202,
  g3 := by kernel_rfl,
  g4 := by kernel_rfl }

/-- What the shelf's names are here. -/
def coRen : Go.Shelf.Ren := ⟨fun | 138 => 150 | 143 => 162 | 195 => 111 | 217 => 136 | 218 => 161 | 219 => 171 | 224 => 114 | 225 => 115 | 266 => 154 | 267 => 178 | 314 => 180 | n => n, fun | 0 => 0 | 3 => 3 | 4 => 4 | 5 => 5 | 9 => 9 | 46 => 138 | 51 => 24 | 146 => 234 | n => n, fun | 1 => 2 | n => n⟩
theorem coLays138 : Go.Proofs.Lays.n138 Tryz.prog coRen := {
  mixed := by kernel_rfl,
  f138 := Tryz.func150.trans (congrArg some (by kernel_rfl)),
  f143 := Tryz.func162.trans (congrArg some (by kernel_rfl)),
  f195 := Tryz.func111.trans (congrArg some (by kernel_rfl)),
  f217 := Tryz.func136.trans (congrArg some (by kernel_rfl)),
  f218 := Tryz.func161.trans (congrArg some (by kernel_rfl)),
  f219 := Tryz.func171.trans (congrArg some (by kernel_rfl)),
  f224 := Tryz.func114.trans (congrArg some (by kernel_rfl)),
  f225 := Tryz.func115.trans (congrArg some (by kernel_rfl)),
  f266 := Tryz.func154.trans (congrArg some (by kernel_rfl)),
  f267 := Tryz.func178.trans (congrArg some (by kernel_rfl)),
  f314 := Tryz.func180.trans (congrArg some (by kernel_rfl)),
  t0 := Tryz.underlying0,
  a0 := Tryz.isAgg0,
  z0 := Tryz.sizeOf0,
  v0 := Tryz.zeroValue0,
  t3 := Tryz.underlying3,
  a3 := Tryz.isAgg3,
  z3 := Tryz.sizeOf3,
  v3 := Tryz.zeroValue3,
  t4 := Tryz.underlying4,
  a4 := Tryz.isAgg4,
  z4 := Tryz.sizeOf4,
  v4 := Tryz.zeroValue4,
  t5 := Tryz.underlying5,
  a5 := Tryz.isAgg5,
  z5 := Tryz.sizeOf5,
  v5 := Tryz.zeroValue5,
  t9 := Tryz.underlying9,
  a9 := Tryz.isAgg9,
  z9 := Tryz.sizeOf9,
  v9 := Tryz.zeroValue9,
  t46 := Tryz.underlying138,
  a46 := Tryz.isAgg138,
  z46 := Tryz.sizeOf138,
  v46 := Tryz.zeroValue138,
  t51 := Tryz.underlying24,
  a51 := Tryz.isAgg24,
  z51 := Tryz.sizeOf24,
  v51 := Tryz.zeroValue24,
  t146 := Tryz.underlying234,
  a146 := Tryz.isAgg234,
  z146 := Tryz.sizeOf234,
  v146 := Tryz.zeroValue234,
  g1 := by kernel_rfl }

/-- What the shelf's names are here. -/
def iaRen : Go.Shelf.Ren := ⟨fun | 119 => 113 | 137 => 112 | 152 => 107 | 153 => 144 | 217 => 136 | 224 => 114 | 225 => 115 | 226 => 157 | 227 => 77 | 228 => 97 | 266 => 154 | n => n, fun | 0 => 0 | 3 => 3 | 4 => 4 | 5 => 5 | 9 => 9 | 21 => 21 | 46 => 138 | 116 => 172 | 117 => 173 | 124 => 176 | n => n, fun  | n => n⟩
theorem iaLays153 : Go.Proofs.Lays.n153 Tryz.prog iaRen := {
  mixed := by kernel_rfl,
  f119 := Tryz.func113.trans (congrArg some (by kernel_rfl)),
  f137 := Tryz.func112.trans (congrArg some (by kernel_rfl)),
  f152 := Tryz.func107.trans (congrArg some (by kernel_rfl)),
  f153 := Tryz.func144.trans (congrArg some (by kernel_rfl)),
  f217 := Tryz.func136.trans (congrArg some (by kernel_rfl)),
  f224 := Tryz.func114.trans (congrArg some (by kernel_rfl)),
  f225 := Tryz.func115.trans (congrArg some (by kernel_rfl)),
  f226 := Tryz.func157.trans (congrArg some (by kernel_rfl)),
  f227 := Tryz.func77.trans (congrArg some (by kernel_rfl)),
  f228 := Tryz.func97.trans (congrArg some (by kernel_rfl)),
  f266 := Tryz.func154.trans (congrArg some (by kernel_rfl)),
  t0 := Tryz.underlying0,
  a0 := Tryz.isAgg0,
  z0 := Tryz.sizeOf0,
  v0 := Tryz.zeroValue0,
  t3 := Tryz.underlying3,
  a3 := Tryz.isAgg3,
  z3 := Tryz.sizeOf3,
  v3 := Tryz.zeroValue3,
  t4 := Tryz.underlying4,
  a4 := Tryz.isAgg4,
  z4 := Tryz.sizeOf4,
  v4 := Tryz.zeroValue4,
  t5 := Tryz.underlying5,
  a5 := Tryz.isAgg5,
  z5 := Tryz.sizeOf5,
  v5 := Tryz.zeroValue5,
  t9 := Tryz.underlying9,
  a9 := Tryz.isAgg9,
  z9 := Tryz.sizeOf9,
  v9 := Tryz.zeroValue9,
  t21 := Tryz.underlying21,
  a21 := Tryz.isAgg21,
  z21 := Tryz.sizeOf21,
  v21 := Tryz.zeroValue21,
  t46 := Tryz.underlying138,
  a46 := Tryz.isAgg138,
  z46 := Tryz.sizeOf138,
  v46 := Tryz.zeroValue138,
  t116 := Tryz.underlying172,
  a116 := Tryz.isAgg172,
  z116 := Tryz.sizeOf172,
  t117 := Tryz.underlying173,
  a117 := Tryz.isAgg173,
  z117 := Tryz.sizeOf173,
  v117 := Tryz.zeroValue173,
  t124 := Tryz.underlying176,
  a124 := Tryz.isAgg176,
  z124 := Tryz.sizeOf176,
  v124 := Tryz.zeroValue176 }
end Go.Proofs.YtdggplhkeekdjaaGreatDoor.Ck
