import Derived.Test.YtohojghndnfgdaaGreatDoorRc
import Derived.Deep.Cut
import Derived.Deep.CutRange
import Derived.ChangeKeysEq
/-
  DERIVED. The law, walked over what its calls tell.
-/
namespace Go.Proofs.YtohojghndnfgdaaGreatDoor
open Go Go.Proofs Go.RowKit

theorem eq9 (W : World) (y : ByteArray) : (Go.Op.equalIn 9997 9 (.string y) (.string y)).run Tryz.prog W = .ok true W := by
  rw [run_equalIn_string (w := W) 9996 9 y y Tryz.underlying9]; simp
theorem inf9 : ∃ i, Tryz.prog.info? 9 = some i := Option.isSome_iff_exists.1 (by kernel_rfl)
theorem inf39 : ∃ i, Tryz.prog.info? 39 = some i := Option.isSome_iff_exists.1 (by kernel_rfl)
theorem cel9 : Tryz.prog.cellsOf 9 = 1 := by kernel_rfl
theorem cel39 : Tryz.prog.cellsOf 39 = 5 := by kernel_rfl
theorem eq39 (W : World) (x0 x1 x2 x3 x4 : ByteArray) : (Go.Op.equalIn 9998 39 (.agg #[.string x0, .string x1, .string x2, .string x3, .string x4]) (.agg #[.string x0, .string x1, .string x2, .string x3, .string x4])).run Tryz.prog W = .ok true W := by
  obtain ⟨i, hi⟩ := inf9
  rw [run_equalIn_array (P := Tryz.prog) W 9997 _ _ Tryz.underlying39 hi, cel9]
  have p : ∀ (k : Nat) (v : Value), (#[.string x0, .string x1, .string x2, .string x3, .string x4] : Array Value)[k]? = some v → (part 9 #[.string x0, .string x1, .string x2, .string x3, .string x4] k).run Tryz.prog W = .ok v W := fun k v h => run_part_plain W (by kernel_rfl) h
  have p0 := p 0 (.string x0) rfl
  have p1 := p 1 (.string x1) rfl
  have p2 := p 2 (.string x2) rfl
  have p3 := p 3 (.string x3) rfl
  have p4 := p 4 (.string x4) rfl
  show (Op.eqItems 9997 9 1 _ _ [0, 1, 2, 3, 4]).run Tryz.prog W = _
  simp only [Op.eqItems, Sem.run_bind, Nat.mul_one, p0, p1, p2, p3, p4, Result.andThen_ok, eq9, Bool.not_true, Bool.false_eq_true, if_false, Sem.run_pure]
theorem eq40 (W : World) (x0 x1 x2 x3 x4 x5 x6 x7 x8 x9 x10 x11 x12 x13 x14 : ByteArray) : (Go.Op.equalIn 9999 40 (.agg #[.string x0, .string x1, .string x2, .string x3, .string x4, .string x5, .string x6, .string x7, .string x8, .string x9, .string x10, .string x11, .string x12, .string x13, .string x14]) (.agg #[.string x0, .string x1, .string x2, .string x3, .string x4, .string x5, .string x6, .string x7, .string x8, .string x9, .string x10, .string x11, .string x12, .string x13, .string x14])).run Tryz.prog W = .ok true W := by
  obtain ⟨i, hi⟩ := inf39
  rw [run_equalIn_array (P := Tryz.prog) W 9998 _ _ Tryz.underlying40 hi, cel39]
  have p0 : (part 39 #[.string x0, .string x1, .string x2, .string x3, .string x4, .string x5, .string x6, .string x7, .string x8, .string x9, .string x10, .string x11, .string x12, .string x13, .string x14] 0).run Tryz.prog W = .ok (.agg #[.string x0, .string x1, .string x2, .string x3, .string x4]) W := by kernel_rfl
  have p1 : (part 39 #[.string x0, .string x1, .string x2, .string x3, .string x4, .string x5, .string x6, .string x7, .string x8, .string x9, .string x10, .string x11, .string x12, .string x13, .string x14] 5).run Tryz.prog W = .ok (.agg #[.string x5, .string x6, .string x7, .string x8, .string x9]) W := by kernel_rfl
  have p2 : (part 39 #[.string x0, .string x1, .string x2, .string x3, .string x4, .string x5, .string x6, .string x7, .string x8, .string x9, .string x10, .string x11, .string x12, .string x13, .string x14] 10).run Tryz.prog W = .ok (.agg #[.string x10, .string x11, .string x12, .string x13, .string x14]) W := by kernel_rfl
  show (Op.eqItems 9998 39 5 _ _ [0, 1, 2]).run Tryz.prog W = _
  simp only [Op.eqItems, Sem.run_bind, show 0 * 5 = 0 from rfl, show 1 * 5 = 5 from rfl, show 2 * 5 = 10 from rfl, p0, p1, p2, Result.andThen_ok, eq39, Bool.not_true, Bool.false_eq_true, if_false, Sem.run_pure]

theorem row_lit (c : Array Value) : ∀ i, i < c.size → c[i]? = some (c.getD i undef) := fun i hi => by simp [Array.getD, hi]
theorem z15_lit : z15 = #[Value.string ⟨#[]⟩, .string ⟨#[]⟩, .string ⟨#[]⟩, .string ⟨#[]⟩, .string ⟨#[]⟩, .string ⟨#[]⟩, .string ⟨#[]⟩, .string ⟨#[]⟩, .string ⟨#[]⟩, .string ⟨#[]⟩, .string ⟨#[]⟩, .string ⟨#[]⟩, .string ⟨#[]⟩, .string ⟨#[]⟩, .string ⟨#[]⟩] := rfl
/-- An error or none. -/
def Er (v : Value) (o : Bool) : Prop := (o = true → v = .nilIface) ∧ (o = false → ∃ q, v = .iface 78 (.pointer (some ⟨q, 0, none⟩)))
/-- What a call tells: a value and no error. -/
def Tl (f : Nat) (a : Array Value) (w : World) (V : Value) : Prop := ∀ W, Below w.heap.size w W → Calls Tryz.prog f a W fun e W' => e = .returned (.tuple #[V, .nilIface]) ∧ Below W.heap.size W W'
/-- What a call tells: a value, and perhaps an error. -/
def Tp (f : Nat) (a : Array Value) (w : World) (V : Value) (o : Bool) : Prop := ∀ W, Below w.heap.size w W → Calls Tryz.prog f a W fun e W' => ∃ v, e = .returned (.tuple #[V, v]) ∧ Er v o ∧ Below W.heap.size W W'

def tmV (h mi sc mc p : Int) : Value := .agg #[.int .i64 h, .int .i64 mi, .int .i64 sc, .int .i64 mc, .int .i64 p]
def moV (y m d dp h mi sc mc p : Int) (zd : Bool) (z : Int) : Value := .agg #[.int .i64 y, .int .i64 m, .int .i64 d, .int .i64 dp, .int .i64 h, .int .i64 mi, .int .i64 sc, .int .i64 mc, .int .i64 p, .bool zd, .int .i64 z]

def TimeOk (w : World) (s : ByteArray) : Prop := ∃ (h mi sc mc p : Int) (o : Bool), Tp 5 #[.string s] w (tmV h mi sc mc p) o ∧ (o = true → Tl 6 #[tmV h mi sc mc p] w (.string s))
def MomOk (w : World) (s : ByteArray) : Prop := ∃ (y m d dp h mi sc mc p : Int) (zd : Bool) (z : Int) (o : Bool), Tp 7 #[.string s] w (moV y m d dp h mi sc mc p zd z) o ∧ (o = true → Tl 8 #[moV y m d dp h mi sc mc p zd z] w (.string s))
def NameOk (w : World) (s : ByteArray) : Prop := ∃ (X : List (List ByteArray)) (o : Bool), Tp 9 #[.string s] w (.agg (a15 X)) o ∧ (o = true → ∃ U : ByteArray, U.size ≤ s.size ∧ Tl 10 #[.agg (a15 X)] w (.string U) ∧ Tl 9 #[.string U] w (.agg (a15 X)))
def WholeOk (w : World) (s : ByteArray) : Prop := ∃ (k : Int) (o : Bool), Tp 11 #[.string s] w (.int .i64 k) o ∧ (o = true → ∃ U : ByteArray, Tl 12 #[.int .i64 k] w (.string U) ∧ Tl 11 #[.string U] w (.int .i64 k))
def d0 : ByteArray := ⟨#[50, 48, 50, 52, 48, 50, 50, 57]⟩
def BackPost (w : World) (e : Ending) (w' : World) : Prop := e = .returned (.bool true) ∧ Below w.heap.size w w'

theorem a15_lit (X : List (List ByteArray)) : a15 X = #[.string (t15 X 0), .string (t15 X 1), .string (t15 X 2), .string (t15 X 3), .string (t15 X 4), .string (t15 X 5), .string (t15 X 6), .string (t15 X 7), .string (t15 X 8), .string (t15 X 9), .string (t15 X 10), .string (t15 X 11), .string (t15 X 12), .string (t15 X 13), .string (t15 X 14)] := rfl

set_option maxRecDepth 100000 in
set_option maxHeartbeats 4000000 in
theorem back_walk (w : World) (s : ByteArray) (c4 : Tl 4 #[.string d0] w (.agg #[.int .i64 2024, .int .i64 2, .int .i64 29])) (HT : Hid (TimeOk w s)) (HM : Hid (MomOk w s)) (HN : Hid (NameOk w s)) (HW : Hid (WholeOk w s)) :
    Calls Tryz.prog 3 #[.string s] w (BackPost w) := by
  go_enter Tryz.func3, Tryz.ntmps3
  go_wp2_with (go_at_call 4; refine Stop.mk ?_)
  refine Stop.out ((c4 _ (Below.refl _ _)).mono ?_)
  rintro e W1 ⟨rfl, hb1⟩
  have B1 : Hid (Below w.heap.size w W1) := hb1
  clear hb1 c4
  go_upto_region 4 with fail
  have B2 : Hid (Below w.heap.size w (W1.alloc (.cells #[.int .i64 2024, .int .i64 2, .int .i64 29] 23))) := B1.out.alloc B1.out.size _
  generalize W1.alloc (.cells #[.int .i64 2024, .int .i64 2, .int .i64 29] 23) = W2 at *
  obtain ⟨h, mi, sc, mc, p, o, t1, t2⟩ := HT.out
  unfold tmV at t1 t2
  go_wp2_with (go_at_call 5; refine Stop.mk ?_)
  refine Stop.out ((t1 _ B2.out).mono ?_)
  rintro e W3 ⟨v, rfl, he, hb⟩
  have B3 : Hid (Below w.heap.size w W3) := B2.out.trans (hb.mono B2.out.size)
  clear hb B2 B1 t1
  go_upto_region 5 with fail
  have B4 : Hid (Below w.heap.size w (W3.alloc (.cells #[.int .i64 h, .int .i64 mi, .int .i64 sc, .int .i64 mc, .int .i64 p] 29))) := B3.out.alloc B3.out.size _
  have R4 : Hid ((W3.alloc (.cells #[.int .i64 h, .int .i64 mi, .int .i64 sc, .int .i64 mc, .int .i64 p] 29)).rowIs W3.heap.size 29 5 (fun k => #[Value.int .i64 h, .int .i64 mi, .int .i64 sc, .int .i64 mc, .int .i64 p].getD k undef)) := World.rowIs_alloc W3 _ 29 _ (row_lit _)
  generalize W3.alloc (.cells #[.int .i64 h, .int .i64 mi, .int .i64 sc, .int .i64 mc, .int .i64 p] 29) = W4 at *
  generalize W3.heap.size = q4 at *
  go_cut [40] from 39 (fun s40 wx => s40 = .bool o ∧ wx = W4)
  case first =>
    cases o with
    | true =>
      obtain rfl := he.1 rfl
      go_wp2
      go_meet
      case rel => exact ⟨by simp, rfl⟩
    | false =>
      obtain ⟨q, rfl⟩ := he.2 rfl
      go_wp2
      go_meet
      case rel => exact ⟨by simp, rfl⟩
  case rest =>
  obtain ⟨rfl, rfl⟩ := hcut
  go_upto_if 40 with fail
  go_cut [2] from 3 (fun s2 wx => s2 = .bool false ∧ Hid (Below w.heap.size w wx))
  case first =>
    cases o with
    | false =>
      go_wp2
      go_meet
      case rel => exact ⟨by simp, B4⟩
    | true =>
      have r0 := R4.out.cell (i := 0) (by omega)
      have r1 := R4.out.cell (i := 1) (by omega)
      have r2 := R4.out.cell (i := 2) (by omega)
      have r3 := R4.out.cell (i := 3) (by omega)
      have r4 := R4.out.cell (i := 4) (by omega)
      have T2 : Hid _ := t2 rfl
      clear t2
      go_wp2_with (go_at_call 6; refine Stop.mk ?_)
      refine Stop.out ((T2.out _ B4.out).mono ?_)
      rintro e W5 ⟨rfl, hb⟩
      have B5 : Hid (Below w.heap.size w W5) := B4.out.trans (hb.mono B4.out.size)
      clear hb
      go_wp2
      go_meet
      case rel => exact ⟨by simp, B5⟩
  case rest =>
  obtain ⟨rfl, BT⟩ := hcut
  clear B4 R4 t2 he
  clear h mi sc mc p o
  obtain ⟨y, m, d, dp, h, mi, sc, mc, p, zd, z, o, t1, t2⟩ := HM.out
  unfold moV at t1 t2
  have T1 : Hid _ := t1
  clear t1
  go_wp2_with (go_at_call 7; refine Stop.mk ?_)
  refine Stop.out ((T1.out _ BT.out).mono ?_)
  rintro e W6 ⟨v6, rfl, he, hb⟩
  have B6 : Hid (Below w.heap.size w W6) := BT.out.trans (hb.mono BT.out.size)
  clear hb
  go_upto_region 10 with fail
  have B7 : Hid (Below w.heap.size w (W6.alloc (.cells #[.int .i64 y, .int .i64 m, .int .i64 d, .int .i64 dp, .int .i64 h, .int .i64 mi, .int .i64 sc, .int .i64 mc, .int .i64 p, .bool zd, .int .i64 z] 35))) := B6.out.alloc B6.out.size _
  have R7 : Hid ((W6.alloc (.cells #[.int .i64 y, .int .i64 m, .int .i64 d, .int .i64 dp, .int .i64 h, .int .i64 mi, .int .i64 sc, .int .i64 mc, .int .i64 p, .bool zd, .int .i64 z] 35)).rowIs W6.heap.size 35 11 (fun k => #[Value.int .i64 y, .int .i64 m, .int .i64 d, .int .i64 dp, .int .i64 h, .int .i64 mi, .int .i64 sc, .int .i64 mc, .int .i64 p, .bool zd, .int .i64 z].getD k undef)) := World.rowIs_alloc W6 _ 35 _ (row_lit _)
  generalize W6.alloc (.cells #[.int .i64 y, .int .i64 m, .int .i64 d, .int .i64 dp, .int .i64 h, .int .i64 mi, .int .i64 sc, .int .i64 mc, .int .i64 p, .bool zd, .int .i64 z] 35) = W7 at *
  generalize W6.heap.size = q7 at *
  go_cut [59] from 58 (fun s59 wx => s59 = .bool o ∧ wx = W7)
  case first =>
    cases o with
    | true =>
      obtain rfl := he.1 rfl
      go_wp2
      go_meet
      case rel => exact ⟨by simp, rfl⟩
    | false =>
      obtain ⟨q, rfl⟩ := he.2 rfl
      go_wp2
      go_meet
      case rel => exact ⟨by simp, rfl⟩
  case rest =>
  obtain ⟨rfl, rfl⟩ := hcut
  go_upto_if 59 with fail
  go_cut [2] from 3 (fun s2 wx => s2 = .bool false ∧ Hid (Below w.heap.size w wx))
  case first =>
    cases o with
    | false =>
      go_wp2
      go_meet
      case rel => exact ⟨by simp, B7⟩
    | true =>
      have r0 := R7.out.cell (i := 0) (by omega)
      have r1 := R7.out.cell (i := 1) (by omega)
      have r2 := R7.out.cell (i := 2) (by omega)
      have r3 := R7.out.cell (i := 3) (by omega)
      have r4 := R7.out.cell (i := 4) (by omega)
      have r5 := R7.out.cell (i := 5) (by omega)
      have r6 := R7.out.cell (i := 6) (by omega)
      have r7 := R7.out.cell (i := 7) (by omega)
      have r8 := R7.out.cell (i := 8) (by omega)
      have r9 := R7.out.cell (i := 9) (by omega)
      have r10 := R7.out.cell (i := 10) (by omega)
      have T2 : Hid _ := t2 rfl
      clear t2
      go_wp2_with (go_at_call 8; refine Stop.mk ?_)
      refine Stop.out ((T2.out _ B7.out).mono ?_)
      rintro e W8 ⟨rfl, hb⟩
      have B8 : Hid (Below w.heap.size w W8) := B7.out.trans (hb.mono B7.out.size)
      have R8 := R7.out.of_block (hb.block _ R7.out.lt)
      have R8' : Hid (W8.rowIs q7 35 11 (fun k => #[Value.int .i64 y, .int .i64 m, .int .i64 d, .int .i64 dp, .int .i64 h, .int .i64 mi, .int .i64 sc, .int .i64 mc, .int .i64 p, .bool zd, .int .i64 z].getD k undef)) := R8
      clear hb r0 r1 r2 r3 r4 r5 r6 r7 r8 r9 r10 R7 R8
      go_wp2_with (go_at_call 7; refine Stop.mk ?_)
      refine Stop.out ((T1.out _ B8.out).mono ?_)
      rintro e W9 ⟨v9, rfl, he9, hb⟩
      obtain rfl := he9.1 rfl
      have B9 : Hid (Below w.heap.size w W9) := B8.out.trans (hb.mono B8.out.size)
      have R9 := R8'.out.of_block (hb.block _ R8'.out.lt)
      have R9' : Hid (W9.rowIs q7 35 11 (fun k => #[Value.int .i64 y, .int .i64 m, .int .i64 d, .int .i64 dp, .int .i64 h, .int .i64 mi, .int .i64 sc, .int .i64 mc, .int .i64 p, .bool zd, .int .i64 z].getD k undef)) := R9
      clear hb R8' R9 he9
      go_upto_region 13 with fail
      have B10 : Hid (Below w.heap.size w (W9.alloc (.cells #[.int .i64 y, .int .i64 m, .int .i64 d, .int .i64 dp, .int .i64 h, .int .i64 mi, .int .i64 sc, .int .i64 mc, .int .i64 p, .bool zd, .int .i64 z] 35))) := B9.out.alloc B9.out.size _
      have R10 : Hid ((W9.alloc (.cells #[.int .i64 y, .int .i64 m, .int .i64 d, .int .i64 dp, .int .i64 h, .int .i64 mi, .int .i64 sc, .int .i64 mc, .int .i64 p, .bool zd, .int .i64 z] 35)).rowIs W9.heap.size 35 11 (fun k => #[Value.int .i64 y, .int .i64 m, .int .i64 d, .int .i64 dp, .int .i64 h, .int .i64 mi, .int .i64 sc, .int .i64 mc, .int .i64 p, .bool zd, .int .i64 z].getD k undef)) := World.rowIs_alloc W9 _ 35 _ (row_lit _)
      have R11 := R9'.out.of_block ((Below.refl W9.heap.size W9).alloc (Nat.le_refl _) (.cells #[.int .i64 y, .int .i64 m, .int .i64 d, .int .i64 dp, .int .i64 h, .int .i64 mi, .int .i64 sc, .int .i64 mc, .int .i64 p, .bool zd, .int .i64 z] 35) |>.block _ R9'.out.lt)
      generalize W9.alloc (.cells #[.int .i64 y, .int .i64 m, .int .i64 d, .int .i64 dp, .int .i64 h, .int .i64 mi, .int .i64 sc, .int .i64 mc, .int .i64 p, .bool zd, .int .i64 z] 35) = W10 at *
      generalize W9.heap.size = q10 at *
      have r0 := R10.out.cell (i := 0) (by omega)
      have r1 := R10.out.cell (i := 1) (by omega)
      have r2 := R10.out.cell (i := 2) (by omega)
      have r3 := R10.out.cell (i := 3) (by omega)
      have r4 := R10.out.cell (i := 4) (by omega)
      have r5 := R10.out.cell (i := 5) (by omega)
      have r6 := R10.out.cell (i := 6) (by omega)
      have r7 := R10.out.cell (i := 7) (by omega)
      have r8 := R10.out.cell (i := 8) (by omega)
      have r9 := R10.out.cell (i := 9) (by omega)
      have r10 := R10.out.cell (i := 10) (by omega)
      have s0 := R11.cell (i := 0) (by omega)
      have s1 := R11.cell (i := 1) (by omega)
      have s2 := R11.cell (i := 2) (by omega)
      have s3 := R11.cell (i := 3) (by omega)
      have s4 := R11.cell (i := 4) (by omega)
      have s5 := R11.cell (i := 5) (by omega)
      have s6 := R11.cell (i := 6) (by omega)
      have s7 := R11.cell (i := 7) (by omega)
      have s8 := R11.cell (i := 8) (by omega)
      have s9 := R11.cell (i := 9) (by omega)
      have s10 := R11.cell (i := 10) (by omega)
      clear R11 R10 R9' T1 T2
      go_wp2
      go_meet
      case rel => exact ⟨by simp, B10⟩
  case rest =>
  obtain ⟨rfl, BM⟩ := hcut
  clear B7 R7 t2 he T1 BT B6
  clear y m d dp h mi sc mc p zd z o
  obtain ⟨X, o, t1, t2⟩ := HN.out
  have hiX : (Tryz.prog.info? 42).map (·.size) = some (a15 X).size := by rw [a15_size]; exact info25
  have hzX : z15.size = (a15 X).size := by rw [a15_size]; rfl
  have hoX := a15_one X
  obtain ⟨D, hD⟩ : ∃ D, a15 X = D := ⟨_, rfl⟩
  have HD : Hid (a15 X = D) := hD
  rw [hD] at t1 t2 hiX hzX hoX
  clear hD
  have T1 : Hid _ := t1
  clear t1
  go_wp2_with (go_at_call 9; refine Stop.mk ?_)
  refine Stop.out ((T1.out _ BM.out).mono ?_)
  rintro e W11 ⟨v11, rfl, he, hb⟩
  have B11 : Hid (Below w.heap.size w W11) := BM.out.trans (hb.mono BM.out.size)
  clear hb
  have q1 : (W11.alloc (.cells z15 42)).heap[W11.heap.size]? = some (.cells z15 42 (0, 0)) := heap_alloc_new W11 _
  go_upto_region 16 with (refine wpList_store_rowTo rfl 42 (.tmp 13) (.tmp 89) rfl rfl W11.heap.size D rfl rfl 42 z15 q1 hiX hzX hoX ?_)
  have B12 : Hid (Below w.heap.size w ((W11.alloc (.cells z15 42)).setRow W11.heap.size D)) := B11.out.trans ((below_setRow ((Below.refl _ W11).alloc (Nat.le_refl _) _) _).mono B11.out.size)
  have R12 : Hid (((W11.alloc (.cells z15 42)).setRow W11.heap.size D).heap[W11.heap.size]? = some (.cells D 42 (0, 0))) := setRow_heap _ _ z15 D 42 (0, 0) q1
  clear q1
  rw [z15_lit] at B12 R12
  generalize (W11.alloc (.cells #[.string ⟨#[]⟩, .string ⟨#[]⟩, .string ⟨#[]⟩, .string ⟨#[]⟩, .string ⟨#[]⟩, .string ⟨#[]⟩, .string ⟨#[]⟩, .string ⟨#[]⟩, .string ⟨#[]⟩, .string ⟨#[]⟩, .string ⟨#[]⟩, .string ⟨#[]⟩, .string ⟨#[]⟩, .string ⟨#[]⟩, .string ⟨#[]⟩] 42)).setRow W11.heap.size D = W12 at *
  generalize W11.heap.size = q12 at *
  go_cut [92] from 91 (fun s92 wx => s92 = .bool o ∧ wx = W12)
  case first =>
    cases o with
    | true =>
      obtain rfl := he.1 rfl
      go_wp2
      go_meet
      case rel => exact ⟨by simp, rfl⟩
    | false =>
      obtain ⟨q, rfl⟩ := he.2 rfl
      go_wp2
      go_meet
      case rel => exact ⟨by simp, rfl⟩
  case rest =>
  obtain ⟨rfl, rfl⟩ := hcut
  go_upto_if 92 with fail
  go_cut [2] from 3 (fun s2 wx => s2 = .bool false ∧ Hid (Below w.heap.size w wx))
  case first =>
    cases o with
    | false =>
      go_wp2
      go_meet
      case rel => exact ⟨by simp, B12⟩
    | true =>
      obtain ⟨U, hU, t3, t4⟩ := t2 rfl
      have T3 : Hid _ := t3
      have T4 : Hid _ := t4
      clear t2 t3 t4
      have k12 := R12.out
      go_wp2_with (first | refine wpList_load_row rfl 42 (.tmp 13) rfl q12 rfl 42 D (0, 0) _ k12 Tryz.underlying42 rfl hiX ?_ | (go_at_call 10; refine Stop.mk ?_))
      refine Stop.out ((T3.out _ B12.out).mono ?_)
      rintro e W13 ⟨rfl, hb⟩
      have B13 : Hid (Below w.heap.size w W13) := B12.out.trans (hb.mono B12.out.size)
      have R13 : Hid (W13.heap[q12]? = some (.cells D 42 (0, 0))) := (hb.block _ (Array.getElem?_eq_some_iff.1 R12.out).1).trans R12.out
      clear hb k12 R12
      go_wp2_with (go_at_call 9; refine Stop.mk ?_)
      refine Stop.out ((T4.out _ B13.out).mono ?_)
      rintro e W14 ⟨rfl, hb⟩
      have B14 : Hid (Below w.heap.size w W14) := B13.out.trans (hb.mono B13.out.size)
      have R14 : Hid (W14.heap[q12]? = some (.cells D 42 (0, 0))) := (hb.block _ (Array.getElem?_eq_some_iff.1 R13.out).1).trans R13.out
      clear hb R13
      have q1 : (W14.alloc (.cells z15 42)).heap[W14.heap.size]? = some (.cells z15 42 (0, 0)) := heap_alloc_new W14 _
      go_upto_region 19 with (refine wpList_store_rowTo rfl 42 (.tmp 16) (.tmp 101) rfl rfl W14.heap.size D rfl rfl 42 z15 q1 hiX hzX hoX ?_)
      have hbb : Below W14.heap.size W14 ((W14.alloc (.cells z15 42)).setRow W14.heap.size D) := below_setRow ((Below.refl _ W14).alloc (Nat.le_refl _) _) _
      have B15 : Hid (Below w.heap.size w ((W14.alloc (.cells z15 42)).setRow W14.heap.size D)) := B14.out.trans (hbb.mono B14.out.size)
      have R15 : ((W14.alloc (.cells z15 42)).setRow W14.heap.size D).heap[q12]? = some (.cells D 42 (0, 0)) := (hbb.block _ (Array.getElem?_eq_some_iff.1 R14.out).1).trans R14.out
      have S15 : ((W14.alloc (.cells z15 42)).setRow W14.heap.size D).heap[W14.heap.size]? = some (.cells D 42 (0, 0)) := setRow_heap _ _ z15 D 42 (0, 0) q1
      clear q1 hbb R14
      rw [z15_lit] at B15 R15 S15
      generalize (W14.alloc (.cells #[.string ⟨#[]⟩, .string ⟨#[]⟩, .string ⟨#[]⟩, .string ⟨#[]⟩, .string ⟨#[]⟩, .string ⟨#[]⟩, .string ⟨#[]⟩, .string ⟨#[]⟩, .string ⟨#[]⟩, .string ⟨#[]⟩, .string ⟨#[]⟩, .string ⟨#[]⟩, .string ⟨#[]⟩, .string ⟨#[]⟩, .string ⟨#[]⟩] 42)).setRow W14.heap.size D = W15 at *
      generalize W14.heap.size = q15 at *
      obtain ⟨x0, x1, x2, x3, x4, x5, x6, x7, x8, x9, x10, x11, x12, x13, x14, rfl⟩ : ∃ x0 x1 x2 x3 x4 x5 x6 x7 x8 x9 x10 x11 x12 x13 x14 : ByteArray, D = #[.string x0, .string x1, .string x2, .string x3, .string x4, .string x5, .string x6, .string x7, .string x8, .string x9, .string x10, .string x11, .string x12, .string x13, .string x14] := ⟨_, _, _, _, _, _, _, _, _, _, _, _, _, _, _, HD.out.symm.trans (a15_lit X)⟩
      clear HD hzX hoX
      have e40 := eq40 W15 x0 x1 x2 x3 x4 x5 x6 x7 x8 x9 x10 x11 x12 x13 x14
      have hU' : ¬ ((s.size : Int) < (U.size : Int)) := by omega
      have hU2 : decide ((s.size : Int) < (U.size : Int)) = false := decide_eq_false hU'
      have HU : Hid (U.size ≤ s.size) := hU
      clear hU
      have RS : W15.rowIs q15 42 15 (fun k => #[Value.string x0, .string x1, .string x2, .string x3, .string x4, .string x5, .string x6, .string x7, .string x8, .string x9, .string x10, .string x11, .string x12, .string x13, .string x14].getD k undef) := ⟨_, S15, rfl, row_lit #[Value.string x0, .string x1, .string x2, .string x3, .string x4, .string x5, .string x6, .string x7, .string x8, .string x9, .string x10, .string x11, .string x12, .string x13, .string x14]⟩
      have RR : W15.rowIs q12 42 15 (fun k => #[Value.string x0, .string x1, .string x2, .string x3, .string x4, .string x5, .string x6, .string x7, .string x8, .string x9, .string x10, .string x11, .string x12, .string x13, .string x14].getD k undef) := ⟨_, R15, rfl, row_lit #[Value.string x0, .string x1, .string x2, .string x3, .string x4, .string x5, .string x6, .string x7, .string x8, .string x9, .string x10, .string x11, .string x12, .string x13, .string x14]⟩
      have a0 := RS.cell (i := 0) (by omega)
      have b0 := RR.cell (i := 0) (by omega)
      have a1 := RS.cell (i := 1) (by omega)
      have b1 := RR.cell (i := 1) (by omega)
      have a2 := RS.cell (i := 2) (by omega)
      have b2 := RR.cell (i := 2) (by omega)
      have a3 := RS.cell (i := 3) (by omega)
      have b3 := RR.cell (i := 3) (by omega)
      have a4 := RS.cell (i := 4) (by omega)
      have b4 := RR.cell (i := 4) (by omega)
      have a5 := RS.cell (i := 5) (by omega)
      have b5 := RR.cell (i := 5) (by omega)
      have a6 := RS.cell (i := 6) (by omega)
      have b6 := RR.cell (i := 6) (by omega)
      have a7 := RS.cell (i := 7) (by omega)
      have b7 := RR.cell (i := 7) (by omega)
      have a8 := RS.cell (i := 8) (by omega)
      have b8 := RR.cell (i := 8) (by omega)
      have a9 := RS.cell (i := 9) (by omega)
      have b9 := RR.cell (i := 9) (by omega)
      have a10 := RS.cell (i := 10) (by omega)
      have b10 := RR.cell (i := 10) (by omega)
      have a11 := RS.cell (i := 11) (by omega)
      have b11 := RR.cell (i := 11) (by omega)
      have a12 := RS.cell (i := 12) (by omega)
      have b12 := RR.cell (i := 12) (by omega)
      have a13 := RS.cell (i := 13) (by omega)
      have b13 := RR.cell (i := 13) (by omega)
      have a14 := RS.cell (i := 14) (by omega)
      have b14 := RR.cell (i := 14) (by omega)
      clear RS RR S15 R15
      go_wp2
      go_meet
      case rel => exact ⟨by simp, B15⟩
  case rest =>
  obtain ⟨rfl, BN⟩ := hcut
  clear B12 R12 t2 he T1 BM B11 hiX hzX hoX HD
  clear D X o
  obtain ⟨k, o, t1, t2⟩ := HW.out
  have T1 : Hid _ := t1
  clear t1
  go_wp2_with (go_at_call 11; refine Stop.mk ?_)
  refine Stop.out ((T1.out _ BN.out).mono ?_)
  rintro e W16 ⟨v16, rfl, he, hb⟩
  have B16 : Hid (Below w.heap.size w W16) := BN.out.trans (hb.mono BN.out.size)
  clear hb
  cases o with
  | false =>
    obtain ⟨q, rfl⟩ := he.2 rfl
    go_wp2
    go_ret
    exact ⟨rfl, B16.out⟩
  | true =>
    obtain rfl := he.1 rfl
    obtain ⟨U, t3, t4⟩ := t2 rfl
    have T3 : Hid _ := t3
    have T4 : Hid _ := t4
    clear t2 t3 t4
    go_wp2_with (go_at_call 12; refine Stop.mk ?_)
    refine Stop.out ((T3.out _ B16.out).mono ?_)
    rintro e W17 ⟨rfl, hb⟩
    have B17 : Hid (Below w.heap.size w W17) := B16.out.trans (hb.mono B16.out.size)
    clear hb
    go_wp2_with (go_at_call 11; refine Stop.mk ?_)
    refine Stop.out ((T4.out _ B17.out).mono ?_)
    rintro e W18 ⟨rfl, hb⟩
    have B18 : Hid (Below w.heap.size w W18) := B17.out.trans (hb.mono B17.out.size)
    clear hb
    go_wp2
    go_ret
    exact ⟨by simp, B18.out⟩
end Go.Proofs.YtohojghndnfgdaaGreatDoor
