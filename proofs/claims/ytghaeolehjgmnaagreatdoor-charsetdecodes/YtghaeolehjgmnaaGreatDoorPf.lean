
import Derived.Test.YtghaeolehjgmnaaGreatDoorPe
import Derived.Shelf.Unicode.DecodeAny
import Derived.Shelf.Utf8.AppendRunePlain
/-
  DERIVED. utf8.DecodeRuneInString and utf8.AppendRune, off the shelf; the rune that a text begins with.
-/
namespace Go.Proofs.YtghaeolehjgmnaaGreatDoor
open Go Go.Proofs Go.RowKit Go.Shelf Go.Lib

/-- What the shelf's names are here. -/
def decRen : Go.Shelf.Ren := ⟨fun | 197 => 63 | 260 => 78 | n => n, fun | 9 => 9 | 21 => 21 | 3 => 3 | 4 => 4 | 5 => 5 | 105 => 59 | 119 => 145 | 0 => 0 | 46 => 92 | 139 => 148 | 138 => 147 | n => n, fun | 3 => 6 | 4 => 7 | n => n⟩

theorem decLays : Go.Proofs.Lays.n197 Tryz.prog decRen := {
  mixed := by kernel_rfl,
  f197 := Tryz.func63.trans (congrArg some (by kernel_rfl)),
  f260 := Tryz.func78.trans (congrArg some (by kernel_rfl)),
  t0 := Tryz.underlying0,
  a0 := Tryz.isAgg0,
  z0 := Tryz.sizeOf0,
  v0 := Tryz.zeroValue0,
  t3 := Tryz.underlying3,
  a3 := Tryz.isAgg3,
  z3 := Tryz.sizeOf3,
  v3 := Tryz.zeroValue3,
  t4 := Tryz.underlying4,
  a4 := Tryz.isAgg4,
  z4 := Tryz.sizeOf4,
  v4 := Tryz.zeroValue4,
  t5 := Tryz.underlying5,
  a5 := Tryz.isAgg5,
  z5 := Tryz.sizeOf5,
  v5 := Tryz.zeroValue5,
  t9 := Tryz.underlying9,
  a9 := Tryz.isAgg9,
  z9 := Tryz.sizeOf9,
  v9 := Tryz.zeroValue9,
  t21 := Tryz.underlying21,
  a21 := Tryz.isAgg21,
  z21 := Tryz.sizeOf21,
  v21 := Tryz.zeroValue21,
  t46 := Tryz.underlying92,
  a46 := Tryz.isAgg92,
  z46 := Tryz.sizeOf92,
  v46 := Tryz.zeroValue92,
  t105 := Tryz.underlying59,
  a105 := Tryz.isAgg59,
  z105 := Tryz.sizeOf59,
  v105 := Tryz.zeroValue59,
  t119 := Tryz.underlying145,
  a119 := Tryz.isAgg145,
  z119 := Tryz.sizeOf145,
  t138 := Tryz.underlying147,
  a138 := Tryz.isAgg147,
  z138 := Tryz.sizeOf147,
  v138 := Tryz.zeroValue147,
  t139 := Tryz.underlying148,
  a139 := Tryz.isAgg148,
  z139 := Tryz.sizeOf148,
  v139 := Tryz.zeroValue148,
  g3 := by kernel_rfl,
  g4 := by kernel_rfl }

/-- What the shelf's names are here. -/
def appRen : Go.Shelf.Ren := ⟨fun | 242 => 37 | 278 => 50 | n => n, fun | 37 => 23 | 21 => 21 | 51 => 108 | 4 => 4 | 5 => 5 | 46 => 92 | n => n, fun n => n⟩

theorem appLays : Go.Proofs.Lays.n242 Tryz.prog appRen := {
  mixed := by kernel_rfl,
  f242 := Tryz.func37.trans (congrArg some (by kernel_rfl)),
  f278 := Tryz.func50.trans (congrArg some (by kernel_rfl)),
  t4 := Tryz.underlying4,
  a4 := Tryz.isAgg4,
  z4 := Tryz.sizeOf4,
  v4 := Tryz.zeroValue4,
  t5 := Tryz.underlying5,
  a5 := Tryz.isAgg5,
  z5 := Tryz.sizeOf5,
  v5 := Tryz.zeroValue5,
  t21 := Tryz.underlying21,
  a21 := Tryz.isAgg21,
  z21 := Tryz.sizeOf21,
  v21 := Tryz.zeroValue21,
  t37 := Tryz.underlying23,
  a37 := Tryz.isAgg23,
  z37 := Tryz.sizeOf23,
  v37 := Tryz.zeroValue23,
  t46 := Tryz.underlying92,
  a46 := Tryz.isAgg92,
  z46 := Tryz.sizeOf92,
  v46 := Tryz.zeroValue92,
  t51 := Tryz.underlying108,
  a51 := Tryz.isAgg108,
  z51 := Tryz.sizeOf108,
  v51 := Tryz.zeroValue108 }

theorem decode_any (s : ByteArray) (w : World) (hT : Lib.Utf8Tabs 6 7 w) :
    Calls Tryz.prog 63 #[.string s] w fun e w' => e = .returned (.tuple #[.int .i32 ((Lib.decodeGo s).1 : Nat), .int .i64 ((Lib.decodeGo s).2 : Nat)]) ∧ Below w.heap.size w w' :=
  Any.utf8_DecodeRuneInString decLays s w hT

theorem append_any (B : Nat) (v : Value) (n : Nat) (xs : List Value) (r : Int) (h0 : -2147483648 ≤ r) (h1 : r ≤ 2147483647) (w : World) (hown : w.ownsRow B 5 1 v n xs) (hn : n + 4 ≤ 140737488355328) (hB : B ≤ w.heap.size) :
    Calls Tryz.prog 37 #[v, .int .i32 r] w fun e w' => ∃ v', e = .returned v' ∧ w'.ownsRow B 5 1 v' (n + (Lib.runeCells r).length) (xs ++ Lib.runeCells r) ∧ ∃ o, (w.alloc o).grownBy w' v.ownBlock :=
  Any.utf8_AppendRune_plain appLays (by kernel_rfl) B v n xs r h0 h1 w hown hn hB

/-- The rune of several bytes that a text begins with, and how many; nothing if there is none. -/
def uHead (s : ByteArray) : Nat × Nat :=
  if decide ((Lib.decodeGo s).2 < 2) || !(wid (Lib.decodeGo s).1) then (0, 0) else ((Lib.decodeGo s).1, (Lib.decodeGo s).2)

set_option maxRecDepth 100000 in
theorem uhead_any (s : ByteArray) (w : World) (hT : Lib.Utf8Tabs 6 7 w) :
    Calls Tryz.prog 49 #[.string s] w fun e w' => e = .returned (.tuple #[.int .i32 ((uHead s).1 : Nat), .int .i64 ((uHead s).2 : Nat)]) ∧ Below w.heap.size w w' := by
  have c := decode_any s w hT
  unfold uHead
  generalize (Lib.decodeGo s).1 = r at *
  generalize (Lib.decodeGo s).2 = k at *
  clear hT
  have c38 := fun W => isWide_any W (r : Int)
  generalize wid (r : Int) = b at *
  by_cases hk : (k : Int) < 2
  · have e : decide (k < 2) = true := by simp; omega
    simp only [e, Bool.true_or, if_true]
    clear e
    go_enter Tryz.func49, Tryz.ntmps49
    go_wp2_with (first | (go_at_call 63; refine c.mono ?_; rintro e w' ⟨rfl, hb⟩) | (go_at_call 64; refine (c38 _).mono ?_; rintro e w' ⟨rfl, rfl⟩))
    exact bodyPost_ret (v := .tuple #[.int .i32 0, .int .i64 0]) (by simp [results, Tryz.results49, go_sem]) rfl ⟨rfl, hb⟩
  · have e : decide (k < 2) = false := by simp; omega
    simp only [e, Bool.false_or]
    clear e
    cases b with
    | true =>
      go_enter Tryz.func49, Tryz.ntmps49
      go_wp2_with (first | (go_at_call 63; refine c.mono ?_; rintro e w' ⟨rfl, hb⟩) | (go_at_call 64; refine (c38 _).mono ?_; rintro e w' ⟨rfl, rfl⟩))
      exact bodyPost_ret (v := .tuple #[.int .i32 (r : Int), .int .i64 (k : Int)]) (by simp [results, Tryz.results49, go_sem]) rfl ⟨rfl, hb⟩
    | false =>
      go_enter Tryz.func49, Tryz.ntmps49
      go_wp2_with (first | (go_at_call 63; refine c.mono ?_; rintro e w' ⟨rfl, hb⟩) | (go_at_call 64; refine (c38 _).mono ?_; rintro e w' ⟨rfl, rfl⟩))
      exact bodyPost_ret (v := .tuple #[.int .i32 0, .int .i64 0]) (by simp [results, Tryz.results49, go_sem]) rfl ⟨rfl, hb⟩

end Go.Proofs.YtghaeolehjgmnaaGreatDoor
