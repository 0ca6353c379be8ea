import Derived.Test.YtmhjjpdfjilobaaDoorPe
import Derived.Shelf.Unicode.DecodeAny
import Derived.Shelf.Utf8.AppendRunePlain
/-
  DERIVED. utf8.DecodeRuneInString and utf8.AppendRune, off the shelf; the rune that a text begins with.
-/
namespace Go.Proofs.YtmhjjpdfjilobaaDoor
open Go Go.Proofs Go.RowKit Go.Shelf Go.Lib

/-- What the shelf's names are here. -/
def decRen : Go.Shelf.Ren := ⟨fun | 197 => 84 | 260 => 90 | n => n, fun | 9 => 9 | 21 => 21 | 3 => 3 | 4 => 4 | 5 => 5 | 105 => 106 | 119 => 157 | 0 => 0 | 46 => 144 | 139 => 160 | 138 => 159 | n => n, fun | 3 => 6 | 4 => 7 | n => n⟩

theorem decLays : Go.Proofs.Lays.n197 Tryd.prog decRen := {
  mixed := by kernel_rfl,
  f197 := Tryd.func84.trans (congrArg some (by kernel_rfl)),
  f260 := Tryd.func90.trans (congrArg some (by kernel_rfl)),
  t0 := Tryd.underlying0,
  a0 := Tryd.isAgg0,
  z0 := Tryd.sizeOf0,
  v0 := Tryd.zeroValue0,
  t3 := Tryd.underlying3,
  a3 := Tryd.isAgg3,
  z3 := Tryd.sizeOf3,
  v3 := Tryd.zeroValue3,
  t4 := Tryd.underlying4,
  a4 := Tryd.isAgg4,
  z4 := Tryd.sizeOf4,
  v4 := Tryd.zeroValue4,
  t5 := Tryd.underlying5,
  a5 := Tryd.isAgg5,
  z5 := Tryd.sizeOf5,
  v5 := Tryd.zeroValue5,
  t9 := Tryd.underlying9,
  a9 := Tryd.isAgg9,
  z9 := Tryd.sizeOf9,
  v9 := Tryd.zeroValue9,
  t21 := Tryd.underlying21,
  a21 := Tryd.isAgg21,
  z21 := Tryd.sizeOf21,
  v21 := Tryd.zeroValue21,
  t46 := Tryd.underlying144,
  a46 := Tryd.isAgg144,
  z46 := Tryd.sizeOf144,
  v46 := Tryd.zeroValue144,
  t105 := Tryd.underlying106,
  a105 := Tryd.isAgg106,
  z105 := Tryd.sizeOf106,
  v105 := Tryd.zeroValue106,
  t119 := Tryd.underlying157,
  a119 := Tryd.isAgg157,
  z119 := Tryd.sizeOf157,
  t138 := Tryd.underlying159,
  a138 := Tryd.isAgg159,
  z138 := Tryd.sizeOf159,
  v138 := Tryd.zeroValue159,
  t139 := Tryd.underlying160,
  a139 := Tryd.isAgg160,
  z139 := Tryd.sizeOf160,
  v139 := Tryd.zeroValue160,
  g3 := by kernel_rfl,
  g4 := by kernel_rfl }

/-- What the shelf's names are here. -/
def appRen : Go.Shelf.Ren := ⟨fun | 242 => 55 | 278 => 71 | n => n, fun | 37 => 43 | 21 => 21 | 51 => 125 | 4 => 4 | 5 => 5 | 46 => 144 | n => n, fun n => n⟩

theorem appLays : Go.Proofs.Lays.n242 Tryd.prog appRen := {
  mixed := by kernel_rfl,
  f242 := Tryd.func55.trans (congrArg some (by kernel_rfl)),
  f278 := Tryd.func71.trans (congrArg some (by kernel_rfl)),
  t4 := Tryd.underlying4,
  a4 := Tryd.isAgg4,
  z4 := Tryd.sizeOf4,
  v4 := Tryd.zeroValue4,
  t5 := Tryd.underlying5,
  a5 := Tryd.isAgg5,
  z5 := Tryd.sizeOf5,
  v5 := Tryd.zeroValue5,
  t21 := Tryd.underlying21,
  a21 := Tryd.isAgg21,
  z21 := Tryd.sizeOf21,
  v21 := Tryd.zeroValue21,
  t37 := Tryd.underlying43,
  a37 := Tryd.isAgg43,
  z37 := Tryd.sizeOf43,
  v37 := Tryd.zeroValue43,
  t46 := Tryd.underlying144,
  a46 := Tryd.isAgg144,
  z46 := Tryd.sizeOf144,
  v46 := Tryd.zeroValue144,
  t51 := Tryd.underlying125,
  a51 := Tryd.isAgg125,
  z51 := Tryd.sizeOf125,
  v51 := Tryd.zeroValue125 }

theorem decode_any (s : ByteArray) (w : World) (hT : Lib.Utf8Tabs 6 7 w) :
    Calls Tryd.prog 84 #[.string s] w fun e w' => e = .returned (.tuple #[.int .i32 ((Lib.decodeGo s).1 : Nat), .int .i64 ((Lib.decodeGo s).2 : Nat)]) ∧ Below w.heap.size w w' :=
  Any.utf8_DecodeRuneInString decLays s w hT

theorem append_any (B : Nat) (v : Value) (n : Nat) (xs : List Value) (r : Int) (h0 : -2147483648 ≤ r) (h1 : r ≤ 2147483647) (w : World) (hown : w.ownsRow B 5 1 v n xs) (hn : n + 4 ≤ 140737488355328) (hB : B ≤ w.heap.size) :
    Calls Tryd.prog 55 #[v, .int .i32 r] w fun e w' => ∃ v', e = .returned v' ∧ w'.ownsRow B 5 1 v' (n + (Lib.runeCells r).length) (xs ++ Lib.runeCells r) ∧ ∃ o, (w.alloc o).grownBy w' v.ownBlock :=
  Any.utf8_AppendRune_plain appLays (by kernel_rfl) B v n xs r h0 h1 w hown hn hB

/-- The rune of several bytes that a text begins with, and how many; nothing if there is none. -/
def uHead (s : ByteArray) : Nat × Nat :=
  if decide ((Lib.decodeGo s).2 < 2) || !(wid (Lib.decodeGo s).1) then (0, 0) else ((Lib.decodeGo s).1, (Lib.decodeGo s).2)

set_option maxRecDepth 100000 in
theorem uhead_any (s : ByteArray) (w : World) (hT : Lib.Utf8Tabs 6 7 w) :
    Calls Tryd.prog 70 #[.string s] w fun e w' => e = .returned (.tuple #[.int .i32 ((uHead s).1 : Nat), .int .i64 ((uHead s).2 : Nat)]) ∧ Below w.heap.size w w' := by
  have c := decode_any s w hT
  unfold uHead
  generalize (Lib.decodeGo s).1 = r at *
  generalize (Lib.decodeGo s).2 = k at *
  clear hT
  have c38 := fun W => isWide_any W (r : Int)
  generalize wid (r : Int) = b at *
  by_cases hk : (k : Int) < 2
  · have e : decide (k < 2) = true := by simp; omega
    simp only [e, Bool.true_or, if_true]
    clear e
    go_enter Tryd.func70, Tryd.ntmps70
    go_wp2_with (first | (go_at_call 84; refine c.mono ?_; rintro e w' ⟨rfl, hb⟩) | (go_at_call 38; refine (c38 _).mono ?_; rintro e w' ⟨rfl, rfl⟩))
    exact bodyPost_ret (v := .tuple #[.int .i32 0, .int .i64 0]) (by simp [results, Tryd.results70, go_sem]) rfl ⟨rfl, hb⟩
  · have e : decide (k < 2) = false := by simp; omega
    simp only [e, Bool.false_or]
    clear e
    cases b with
    | true =>
      go_enter Tryd.func70, Tryd.ntmps70
      go_wp2_with (first | (go_at_call 84; refine c.mono ?_; rintro e w' ⟨rfl, hb⟩) | (go_at_call 38; refine (c38 _).mono ?_; rintro e w' ⟨rfl, rfl⟩))
      exact bodyPost_ret (v := .tuple #[.int .i32 (r : Int), .int .i64 (k : Int)]) (by simp [results, Tryd.results70, go_sem]) rfl ⟨rfl, hb⟩
    | false =>
      go_enter Tryd.func70, Tryd.ntmps70
      go_wp2_with (first | (go_at_call 84; refine c.mono ?_; rintro e w' ⟨rfl, hb⟩) | (go_at_call 38; refine (c38 _).mono ?_; rintro e w' ⟨rfl, rfl⟩))
      exact bodyPost_ret (v := .tuple #[.int .i32 0, .int .i64 0]) (by simp [results, Tryd.results70, go_sem]) rfl ⟨rfl, hb⟩

end Go.Proofs.YtmhjjpdfjilobaaDoor
