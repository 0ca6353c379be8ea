import Derived.Test.YtehgeninocbpeaaGreatDoorQK
import Derived.Deep.Cut
namespace Go.Proofs.YtehgeninocbpeaaGreatDoor.Tm
open Go Go.Proofs Go.RowKit
def PostR (w : World) (M : Value) (o : Option (Int × Int)) (e : Ending) (w' : World) : Prop := ∃ v, e = .returned (.tuple #[M, v]) ∧ PErr w' v o ∧ Below w.heap.size w w'
def zm0 : Nat → Value := fun k => #[Value.int .i64 0, .int .i64 0, .int .i64 0, .int .i64 0, .int .i64 0, .int .i64 0, .int .i64 0, .int .i64 0, .int .i64 0, .bool false, .int .i64 0].getD k undef
def k1 (s : ByteArray) : Nat := cnt s 0 4
def k2 (s : ByteArray) : Nat := if decide (k1 s < 4) = true then 0 else cnt s (k1 s) 2
def b2 (s : ByteArray) : Bool := decide (k1 s < 4) || decide (k2 s < 2)
def k3 (s : ByteArray) : Nat := if b2 s = true then 0 else cnt s (k1 s + k2 s) 2
def b3 (s : ByteArray) : Bool := b2 s || decide (k3 s < 2)
def yy (s : ByteArray) : Nat := nv s 0 (k1 s)
def mm (s : ByteArray) : Nat := nv s (k1 s) (k2 s)
def dd (s : ByteArray) : Nat := nv s (k1 s + k2 s) (k3 s)
def o1 (s : ByteArray) : Option (Int × Int) := nextD none (decide ((yy s : Int) < 1) || decide (9999 < (yy s : Int))) 0
def o2 (s : ByteArray) : Option (Int × Int) := nextD (o1 s) (decide ((mm s : Int) < 1) || decide (12 < (mm s : Int))) (k1 s)
def o3 (s : ByteArray) : Option (Int × Int) := nextD (o2 s) (decide ((dd s : Int) < 1) || decide ((md (yy s) (mm s) : Int) < (dd s : Int))) (k1 s + k2 s)
def oe (s : ByteArray) : Option (Int × Int) := if b3 s = true ∨ k1 s + k2 s + k3 s < s.size then some (((k1 s + k2 s + k3 s : Nat) : Int), 100) else none
theorem row_lit (c : Array Value) : ∀ i, i < c.size → c[i]? = some (c.getD i undef) := fun i hi => by simp [Array.getD, hi]
theorem row_kept {w w' : World} {q r : Nat} {t : TypeId} {n : Nat} {f : Nat → Value} (h : w.rowIs r t n f) (hg : w.grownBy w' (some q)) (hne : r ≠ q) : w'.rowIs r t n f :=
  h.of_block (hg.block r h.lt (by simpa using hne))
def oP (s : ByteArray) : Option (Int × Int) := (oe s).or (o3 s)
end Go.Proofs.YtehgeninocbpeaaGreatDoor.Tm

namespace Go.Proofs.YtehgeninocbpeaaGreatDoor.Tm
open Go Go.Proofs Go.RowKit
structure Mst where
  a : Nat
  b : Bool
  o : Option (Int × Int)
  y : Nat
  m : Nat
  d : Nat
  dp : Nat
  h : Nat
  mi : Nat
  sc : Nat
  mc : Nat
  p : Nat
  zd : Bool
  z : Int
structure CkF (w : World) (q : Nat) (f : Nat → Value) (s : ByteArray) (S : Mst) : Prop where
  cur : Cur w q f s S.a S.b
  le : S.a ≤ s.size
  dbt : Dbt w q (f 3) S.o
  v4 : f 4 = .int .i64 (S.y : Int)
  v5 : f 5 = .int .i64 (S.m : Int)
  v6 : f 6 = .int .i64 (S.d : Int)
  v7 : f 7 = .int .i64 (S.dp : Int)
  v8 : f 8 = .int .i64 (S.h : Int)
  v9 : f 9 = .int .i64 (S.mi : Int)
  v10 : f 10 = .int .i64 (S.sc : Int)
  v11 : f 11 = .int .i64 (S.mc : Int)
  v12 : f 12 = .int .i64 (S.p : Int)
  v13 : f 13 = .bool S.zd
  v14 : f 14 = .int .i64 S.z
  tab : Mt w
  q0 : q ≠ 5
def Ck (w : World) (q : Nat) (s : ByteArray) (S : Mst) : Prop := ∃ f, CkF w q f s S
def PostC (w : World) (q : Nat) (s : ByteArray) (S : Mst) (e : Ending) (w' : World) : Prop := ∃ v, e = .returned v ∧ Ck w' q s S ∧ w.grownBy w' (some q)
theorem Mt.grown {w w' : World} {q : Nat} (h : Mt w) (hg : w.grownBy w' (some q)) (hq : q ≠ 5) : Mt w' :=
  ⟨fun i hi => hg.cell (h.p i hi) (by simpa using fun h => hq h.symm)⟩
def pcC (s : ByteArray) (S : Mst) (k : Nat) : Nat := if S.b = true then 0 else cnt s S.a k
def pcN (s : ByteArray) (S : Mst) (k : Nat) : Nat := nv s S.a (pcC s S k)
def pcO (s : ByteArray) (S : Mst) (k : Nat) (lo hi : Int) : Option (Int × Int) := nextD S.o (decide ((pcN s S k : Int) < lo) || decide (hi < (pcN s S k : Int))) S.a
def yearS (s : ByteArray) (S : Mst) : Mst := { S with a := S.a + pcC s S 4, b := S.b || decide (pcC s S 4 < 4), o := pcO s S 4 1 9999, y := pcN s S 4, dp := 1 }
def monthS (s : ByteArray) (S : Mst) : Mst := { S with a := S.a + pcC s S 2, b := S.b || decide (pcC s S 2 < 2), o := pcO s S 2 1 12, m := pcN s S 2, dp := 2 }
def dayS (s : ByteArray) (S : Mst) : Mst := { S with a := S.a + pcC s S 2, b := S.b || decide (pcC s S 2 < 2), o := pcO s S 2 1 (md S.y S.m : Nat), d := pcN s S 2, dp := 3 }
def hourS (s : ByteArray) (S : Mst) : Mst := { S with a := S.a + pcC s S 2, b := S.b || decide (pcC s S 2 < 2), o := pcO s S 2 0 23, h := pcN s S 2, p := 1 }
def minuteS (s : ByteArray) (S : Mst) : Mst := { S with a := S.a + pcC s S 2, b := S.b || decide (pcC s S 2 < 2), o := pcO s S 2 0 59, mi := pcN s S 2, p := 2 }
def secondS (s : ByteArray) (S : Mst) : Mst := { S with a := S.a + pcC s S 2, b := S.b || decide (pcC s S 2 < 2), o := pcO s S 2 0 60, sc := pcN s S 2, p := 3 }
theorem pcC_le {s : ByteArray} {S : Mst} (k : Nat) (h : S.a ≤ s.size) : S.a + pcC s S k ≤ s.size := by
  unfold pcC
  split
  · omega
  · exact cnt_size s k S.a h
theorem year_ck {w : World} {q : Nat} {s : ByteArray} {S : Mst} (h : Ck w q s S) (hs : s.size ≤ 140737488351232) : Calls Tryz.prog 140 #[.pointer (some ⟨q, 0, none⟩)] w (PostC w q s (yearS s S)) := by
  obtain ⟨f, hf⟩ := h
  refine (year_any w q f s S.a S.b S.o hf.cur hf.dbt hf.le hs (pcC s S 4) rfl).mono ?_
  rintro e w' ⟨f', v, rfl, hc, hk, hN, hp, hd, hg⟩
  exact ⟨v, rfl, ⟨f', { cur := hc, le := pcC_le 4 hf.le, dbt := hd, v4 := hN, v5 := (hk 5 (by omega) (by omega) (by omega)).trans hf.v5, v6 := (hk 6 (by omega) (by omega) (by omega)).trans hf.v6, v7 := hp, v8 := (hk 8 (by omega) (by omega) (by omega)).trans hf.v8, v9 := (hk 9 (by omega) (by omega) (by omega)).trans hf.v9, v10 := (hk 10 (by omega) (by omega) (by omega)).trans hf.v10, v11 := (hk 11 (by omega) (by omega) (by omega)).trans hf.v11, v12 := (hk 12 (by omega) (by omega) (by omega)).trans hf.v12, v13 := (hk 13 (by omega) (by omega) (by omega)).trans hf.v13, v14 := (hk 14 (by omega) (by omega) (by omega)).trans hf.v14, tab := hf.tab.grown hg hf.q0, q0 := hf.q0 }⟩, hg⟩
theorem month_ck {w : World} {q : Nat} {s : ByteArray} {S : Mst} (h : Ck w q s S) (hs : s.size ≤ 140737488351232) : Calls Tryz.prog 141 #[.pointer (some ⟨q, 0, none⟩)] w (PostC w q s (monthS s S)) := by
  obtain ⟨f, hf⟩ := h
  refine (month55_any w q f s S.a S.b S.o hf.cur hf.dbt hf.le hs (pcC s S 2) rfl).mono ?_
  rintro e w' ⟨f', v, rfl, hc, hk, hN, hp, hd, hg⟩
  exact ⟨v, rfl, ⟨f', { cur := hc, le := pcC_le 2 hf.le, dbt := hd, v5 := hN, v4 := (hk 4 (by omega) (by omega) (by omega)).trans hf.v4, v6 := (hk 6 (by omega) (by omega) (by omega)).trans hf.v6, v7 := hp, v8 := (hk 8 (by omega) (by omega) (by omega)).trans hf.v8, v9 := (hk 9 (by omega) (by omega) (by omega)).trans hf.v9, v10 := (hk 10 (by omega) (by omega) (by omega)).trans hf.v10, v11 := (hk 11 (by omega) (by omega) (by omega)).trans hf.v11, v12 := (hk 12 (by omega) (by omega) (by omega)).trans hf.v12, v13 := (hk 13 (by omega) (by omega) (by omega)).trans hf.v13, v14 := (hk 14 (by omega) (by omega) (by omega)).trans hf.v14, tab := hf.tab.grown hg hf.q0, q0 := hf.q0 }⟩, hg⟩
theorem day_ck {w : World} {q : Nat} {s : ByteArray} {S : Mst} (h : Ck w q s S) (hs : s.size ≤ 140737488351232) : Calls Tryz.prog 142 #[.pointer (some ⟨q, 0, none⟩)] w (PostC w q s (dayS s S)) := by
  obtain ⟨f, hf⟩ := h
  refine (day_any w q f s S.a S.b S.o hf.cur hf.dbt hf.le hs (pcC s S 2) rfl S.y S.m hf.v4 hf.v5 hf.tab hf.q0).mono ?_
  rintro e w' ⟨f', v, rfl, hc, hk, hN, hp, hd, hg⟩
  exact ⟨v, rfl, ⟨f', { cur := hc, le := pcC_le 2 hf.le, dbt := hd, v6 := hN, v4 := (hk 4 (by omega) (by omega) (by omega)).trans hf.v4, v5 := (hk 5 (by omega) (by omega) (by omega)).trans hf.v5, v7 := hp, v8 := (hk 8 (by omega) (by omega) (by omega)).trans hf.v8, v9 := (hk 9 (by omega) (by omega) (by omega)).trans hf.v9, v10 := (hk 10 (by omega) (by omega) (by omega)).trans hf.v10, v11 := (hk 11 (by omega) (by omega) (by omega)).trans hf.v11, v12 := (hk 12 (by omega) (by omega) (by omega)).trans hf.v12, v13 := (hk 13 (by omega) (by omega) (by omega)).trans hf.v13, v14 := (hk 14 (by omega) (by omega) (by omega)).trans hf.v14, tab := hf.tab.grown hg hf.q0, q0 := hf.q0 }⟩, hg⟩
def PostH (w : World) (q : Nat) (f : Nat → Value) (s : ByteArray) (a : Nat) (b : Bool) (o : Option (Int × Int)) (i : Nat) (N p : Int) (e : Ending) (w' : World) : Prop :=
  ∃ f' v, e = .returned v ∧ Cur w' q f' s a b ∧ (∀ j, 4 ≤ j → j ≠ 12 → j ≠ i → f' j = f j) ∧ f' i = .int .i64 N ∧ f' 12 = .int .i64 p ∧ Dbt w' q (f' 3) o ∧ w.grownBy w' (some q)
set_option maxRecDepth 100000 in
set_option maxHeartbeats 1000000 in
theorem hour_any (w : World) (q : Nat) (f : Nat → Value) (s : ByteArray) (a : Nat) (b : Bool) (o : Option (Int × Int)) (h : Cur w q f s a b) (hd : Dbt w q (f 3) o) (ha : a ≤ s.size) (hs : s.size ≤ 140737488351232) (c : Nat) (hc : c = if b = true then 0 else cnt s a 2) :
    Calls Tryz.prog 143 #[.pointer (some ⟨q, 0, none⟩)] w (PostH w q f s (a + c) (b || decide (c < 2)) (nextD o (decide ((nv s a c : Int) < 0) || decide (23 < (nv s a c : Int))) a) 8 (nv s a c : Nat) 1) := by
  have q7 : w.cell? ⟨q, 12, none⟩ = some (f 12) := h.row.cell (i := 12) (by omega)
  have qf : ∀ i, w.frozen? ⟨q, i, none⟩ = false := fun i => h.row.frozen i
  have hc1 := h.set 12 (by omega) (.int .i64 1)
  have hg1 : w.grownBy (w.setCell ⟨q, 12, none⟩ (.int .i64 1)) (some q) := grown_set (grown_refl _ _) 12 _
  have hd1 : Dbt (w.setCell ⟨q, 12, none⟩ (.int .i64 1)) q (up f 12 (.int .i64 1) 3) o := by rw [up_ne (by omega)]; exact hd.grown hg1
  obtain ⟨W1, hW1⟩ : ∃ W1, w.setCell ⟨q, 12, none⟩ (.int .i64 1) = W1 := ⟨_, rfl⟩
  rw [hW1] at hc1 hd1 hg1
  have c71 := piece_any W1 q _ s a b o hc1 hd1 ha hs 2 (by omega) c hc 0 23
  have HG1 : Hid (w.grownBy W1 (some q)) := hg1
  generalize nv s a c = N at *
  clear h hd hc hc1 hd1 hg1
  go_enter Tryz.func143, Tryz.ntmps143
  go_wp2_with (go_at_call 165; refine Stop.mk ?_)
  refine Stop.out (c71.mono ?_)
  rintro e W2 ⟨f2, rfl, hc2, hf2, hd2, hg2⟩
  have r5 : W2.cell? ⟨q, 8, none⟩ = some (f2 8) := hc2.row.cell (i := 8) (by omega)
  have rf : ∀ i, W2.frozen? ⟨q, i, none⟩ = false := fun i => hc2.row.frozen i
  have hc3 := hc2.set 8 (by omega) (.int .i64 (N : Int))
  have hg3 : W2.grownBy (W2.setCell ⟨q, 8, none⟩ (.int .i64 (N : Int))) (some q) := grown_set (grown_refl _ _) 8 _
  have hd3 := hd2.grown hg3
  have HR : Hid (PostH w q f s (a + c) (b || decide (c < 2)) (nextD o (decide ((N : Int) < 0) || decide (23 < (N : Int))) a) 8 (N : Int) 1 (.returned (.tuple #[])) (W2.setCell ⟨q, 8, none⟩ (.int .i64 (N : Int)))) := by
    refine ⟨_, _, rfl, hc3, fun j hj hj7 hj4 => ?_, up_eq, ?_, ?_, (HG1.out.trans hg2).trans hg3⟩
    · rw [up_ne hj4, hf2 j (by omega), up_ne hj7]
    · rw [up_ne (by omega), hf2 12 (by omega), up_eq]
    · rw [up_ne (by omega)]; exact hd3
  clear hc2 hf2 hd2 hg2 hc3 hg3 hd3 c71
  go_wp2
  exact bodyPost_end (results_none rfl _ _ _) rfl HR.out
theorem hour_ck {w : World} {q : Nat} {s : ByteArray} {S : Mst} (h : Ck w q s S) (hs : s.size ≤ 140737488351232) : Calls Tryz.prog 143 #[.pointer (some ⟨q, 0, none⟩)] w (PostC w q s (hourS s S)) := by
  obtain ⟨f, hf⟩ := h
  refine (hour_any w q f s S.a S.b S.o hf.cur hf.dbt hf.le hs (pcC s S 2) rfl).mono ?_
  rintro e w' ⟨f', v, rfl, hc, hk, hN, hp, hd, hg⟩
  exact ⟨v, rfl, ⟨f', { cur := hc, le := pcC_le 2 hf.le, dbt := hd, v8 := hN, v12 := hp, v4 := (hk 4 (by omega) (by omega) (by omega)).trans hf.v4, v5 := (hk 5 (by omega) (by omega) (by omega)).trans hf.v5, v6 := (hk 6 (by omega) (by omega) (by omega)).trans hf.v6, v7 := (hk 7 (by omega) (by omega) (by omega)).trans hf.v7, v9 := (hk 9 (by omega) (by omega) (by omega)).trans hf.v9, v10 := (hk 10 (by omega) (by omega) (by omega)).trans hf.v10, v11 := (hk 11 (by omega) (by omega) (by omega)).trans hf.v11, v13 := (hk 13 (by omega) (by omega) (by omega)).trans hf.v13, v14 := (hk 14 (by omega) (by omega) (by omega)).trans hf.v14, tab := hf.tab.grown hg hf.q0, q0 := hf.q0 }⟩, hg⟩
set_option maxRecDepth 100000 in
set_option maxHeartbeats 1000000 in
theorem minute_any (w : World) (q : Nat) (f : Nat → Value) (s : ByteArray) (a : Nat) (b : Bool) (o : Option (Int × Int)) (h : Cur w q f s a b) (hd : Dbt w q (f 3) o) (ha : a ≤ s.size) (hs : s.size ≤ 140737488351232) (c : Nat) (hc : c = if b = true then 0 else cnt s a 2) :
    Calls Tryz.prog 145 #[.pointer (some ⟨q, 0, none⟩)] w (PostH w q f s (a + c) (b || decide (c < 2)) (nextD o (decide ((nv s a c : Int) < 0) || decide (59 < (nv s a c : Int))) a) 9 (nv s a c : Nat) 2) := by
  have q7 : w.cell? ⟨q, 12, none⟩ = some (f 12) := h.row.cell (i := 12) (by omega)
  have qf : ∀ i, w.frozen? ⟨q, i, none⟩ = false := fun i => h.row.frozen i
  have hc1 := h.set 12 (by omega) (.int .i64 2)
  have hg1 : w.grownBy (w.setCell ⟨q, 12, none⟩ (.int .i64 2)) (some q) := grown_set (grown_refl _ _) 12 _
  have hd1 : Dbt (w.setCell ⟨q, 12, none⟩ (.int .i64 2)) q (up f 12 (.int .i64 2) 3) o := by rw [up_ne (by omega)]; exact hd.grown hg1
  obtain ⟨W1, hW1⟩ : ∃ W1, w.setCell ⟨q, 12, none⟩ (.int .i64 2) = W1 := ⟨_, rfl⟩
  rw [hW1] at hc1 hd1 hg1
  have c71 := piece_any W1 q _ s a b o hc1 hd1 ha hs 2 (by omega) c hc 0 59
  have HG1 : Hid (w.grownBy W1 (some q)) := hg1
  generalize nv s a c = N at *
  clear h hd hc hc1 hd1 hg1
  go_enter Tryz.func145, Tryz.ntmps145
  go_wp2_with (go_at_call 165; refine Stop.mk ?_)
  refine Stop.out (c71.mono ?_)
  rintro e W2 ⟨f2, rfl, hc2, hf2, hd2, hg2⟩
  have r5 : W2.cell? ⟨q, 9, none⟩ = some (f2 9) := hc2.row.cell (i := 9) (by omega)
  have rf : ∀ i, W2.frozen? ⟨q, i, none⟩ = false := fun i => hc2.row.frozen i
  have hc3 := hc2.set 9 (by omega) (.int .i64 (N : Int))
  have hg3 : W2.grownBy (W2.setCell ⟨q, 9, none⟩ (.int .i64 (N : Int))) (some q) := grown_set (grown_refl _ _) 9 _
  have hd3 := hd2.grown hg3
  have HR : Hid (PostH w q f s (a + c) (b || decide (c < 2)) (nextD o (decide ((N : Int) < 0) || decide (59 < (N : Int))) a) 9 (N : Int) 2 (.returned (.tuple #[])) (W2.setCell ⟨q, 9, none⟩ (.int .i64 (N : Int)))) := by
    refine ⟨_, _, rfl, hc3, fun j hj hj7 hj4 => ?_, up_eq, ?_, ?_, (HG1.out.trans hg2).trans hg3⟩
    · rw [up_ne hj4, hf2 j (by omega), up_ne hj7]
    · rw [up_ne (by omega), hf2 12 (by omega), up_eq]
    · rw [up_ne (by omega)]; exact hd3
  clear hc2 hf2 hd2 hg2 hc3 hg3 hd3 c71
  go_wp2
  exact bodyPost_end (results_none rfl _ _ _) rfl HR.out
theorem minute_ck {w : World} {q : Nat} {s : ByteArray} {S : Mst} (h : Ck w q s S) (hs : s.size ≤ 140737488351232) : Calls Tryz.prog 145 #[.pointer (some ⟨q, 0, none⟩)] w (PostC w q s (minuteS s S)) := by
  obtain ⟨f, hf⟩ := h
  refine (minute_any w q f s S.a S.b S.o hf.cur hf.dbt hf.le hs (pcC s S 2) rfl).mono ?_
  rintro e w' ⟨f', v, rfl, hc, hk, hN, hp, hd, hg⟩
  exact ⟨v, rfl, ⟨f', { cur := hc, le := pcC_le 2 hf.le, dbt := hd, v9 := hN, v12 := hp, v4 := (hk 4 (by omega) (by omega) (by omega)).trans hf.v4, v5 := (hk 5 (by omega) (by omega) (by omega)).trans hf.v5, v6 := (hk 6 (by omega) (by omega) (by omega)).trans hf.v6, v7 := (hk 7 (by omega) (by omega) (by omega)).trans hf.v7, v8 := (hk 8 (by omega) (by omega) (by omega)).trans hf.v8, v10 := (hk 10 (by omega) (by omega) (by omega)).trans hf.v10, v11 := (hk 11 (by omega) (by omega) (by omega)).trans hf.v11, v13 := (hk 13 (by omega) (by omega) (by omega)).trans hf.v13, v14 := (hk 14 (by omega) (by omega) (by omega)).trans hf.v14, tab := hf.tab.grown hg hf.q0, q0 := hf.q0 }⟩, hg⟩
set_option maxRecDepth 100000 in
set_option maxHeartbeats 1000000 in
theorem second_any (w : World) (q : Nat) (f : Nat → Value) (s : ByteArray) (a : Nat) (b : Bool) (o : Option (Int × Int)) (h : Cur w q f s a b) (hd : Dbt w q (f 3) o) (ha : a ≤ s.size) (hs : s.size ≤ 140737488351232) (c : Nat) (hc : c = if b = true then 0 else cnt s a 2) :
    Calls Tryz.prog 146 #[.pointer (some ⟨q, 0, none⟩)] w (PostH w q f s (a + c) (b || decide (c < 2)) (nextD o (decide ((nv s a c : Int) < 0) || decide (60 < (nv s a c : Int))) a) 10 (nv s a c : Nat) 3) := by
  have q7 : w.cell? ⟨q, 12, none⟩ = some (f 12) := h.row.cell (i := 12) (by omega)
  have qf : ∀ i, w.frozen? ⟨q, i, none⟩ = false := fun i => h.row.frozen i
  have hc1 := h.set 12 (by omega) (.int .i64 3)
  have hg1 : w.grownBy (w.setCell ⟨q, 12, none⟩ (.int .i64 3)) (some q) := grown_set (grown_refl _ _) 12 _
  have hd1 : Dbt (w.setCell ⟨q, 12, none⟩ (.int .i64 3)) q (up f 12 (.int .i64 3) 3) o := by rw [up_ne (by omega)]; exact hd.grown hg1
  obtain ⟨W1, hW1⟩ : ∃ W1, w.setCell ⟨q, 12, none⟩ (.int .i64 3) = W1 := ⟨_, rfl⟩
  rw [hW1] at hc1 hd1 hg1
  have c71 := piece_any W1 q _ s a b o hc1 hd1 ha hs 2 (by omega) c hc 0 60
  have HG1 : Hid (w.grownBy W1 (some q)) := hg1
  generalize nv s a c = N at *
  clear h hd hc hc1 hd1 hg1
  go_enter Tryz.func146, Tryz.ntmps146
  go_wp2_with (go_at_call 165; refine Stop.mk ?_)
  refine Stop.out (c71.mono ?_)
  rintro e W2 ⟨f2, rfl, hc2, hf2, hd2, hg2⟩
  have r5 : W2.cell? ⟨q, 10, none⟩ = some (f2 10) := hc2.row.cell (i := 10) (by omega)
  have rf : ∀ i, W2.frozen? ⟨q, i, none⟩ = false := fun i => hc2.row.frozen i
  have hc3 := hc2.set 10 (by omega) (.int .i64 (N : Int))
  have hg3 : W2.grownBy (W2.setCell ⟨q, 10, none⟩ (.int .i64 (N : Int))) (some q) := grown_set (grown_refl _ _) 10 _
  have hd3 := hd2.grown hg3
  have HR : Hid (PostH w q f s (a + c) (b || decide (c < 2)) (nextD o (decide ((N : Int) < 0) || decide (60 < (N : Int))) a) 10 (N : Int) 3 (.returned (.tuple #[])) (W2.setCell ⟨q, 10, none⟩ (.int .i64 (N : Int)))) := by
    refine ⟨_, _, rfl, hc3, fun j hj hj7 hj4 => ?_, up_eq, ?_, ?_, (HG1.out.trans hg2).trans hg3⟩
    · rw [up_ne hj4, hf2 j (by omega), up_ne hj7]
    · rw [up_ne (by omega), hf2 12 (by omega), up_eq]
    · rw [up_ne (by omega)]; exact hd3
  clear hc2 hf2 hd2 hg2 hc3 hg3 hd3 c71
  go_wp2
  exact bodyPost_end (results_none rfl _ _ _) rfl HR.out
theorem second_ck {w : World} {q : Nat} {s : ByteArray} {S : Mst} (h : Ck w q s S) (hs : s.size ≤ 140737488351232) : Calls Tryz.prog 146 #[.pointer (some ⟨q, 0, none⟩)] w (PostC w q s (secondS s S)) := by
  obtain ⟨f, hf⟩ := h
  refine (second_any w q f s S.a S.b S.o hf.cur hf.dbt hf.le hs (pcC s S 2) rfl).mono ?_
  rintro e w' ⟨f', v, rfl, hc, hk, hN, hp, hd, hg⟩
  exact ⟨v, rfl, ⟨f', { cur := hc, le := pcC_le 2 hf.le, dbt := hd, v10 := hN, v12 := hp, v4 := (hk 4 (by omega) (by omega) (by omega)).trans hf.v4, v5 := (hk 5 (by omega) (by omega) (by omega)).trans hf.v5, v6 := (hk 6 (by omega) (by omega) (by omega)).trans hf.v6, v7 := (hk 7 (by omega) (by omega) (by omega)).trans hf.v7, v8 := (hk 8 (by omega) (by omega) (by omega)).trans hf.v8, v9 := (hk 9 (by omega) (by omega) (by omega)).trans hf.v9, v11 := (hk 11 (by omega) (by omega) (by omega)).trans hf.v11, v13 := (hk 13 (by omega) (by omega) (by omega)).trans hf.v13, v14 := (hk 14 (by omega) (by omega) (by omega)).trans hf.v14, tab := hf.tab.grown hg hf.q0, q0 := hf.q0 }⟩, hg⟩
end Go.Proofs.YtehgeninocbpeaaGreatDoor.Tm

namespace Go.Proofs.YtehgeninocbpeaaGreatDoor.Tm
open Go Go.Proofs Go.RowKit
theorem CkF.on {w w' : World} {q : Nat} {f : Nat → Value} {s : ByteArray} {S : Mst} (h : CkF w q f s S) (hb : Below w.heap.size w w') : CkF w' q f s S :=
  { h with cur := h.cur.on hb, dbt := h.dbt.on hb, tab := h.tab.on hb }
theorem Ck.on {w w' : World} {q : Nat} {s : ByteArray} {S : Mst} (h : Ck w q s S) (hb : Below w.heap.size w w') : Ck w' q s S := by
  obtain ⟨f, hf⟩ := h
  exact ⟨f, hf.on hb⟩
theorem onDigit_ck {w : World} {q : Nat} {s : ByteArray} {S : Mst} (h : Ck w q s S) :
    Calls Tryz.prog 131 #[.pointer (some ⟨q, 0, none⟩)] w fun e w' => e = .returned (.bool (!S.b && isD s S.a)) ∧ ∃ n, w' = w.drewN n := by
  obtain ⟨f, hf⟩ := h
  exact onDigit_any w q f s S.a S.b hf.cur hf.le
def moreS (s : ByteArray) : List (Mst → Mst) → Mst → Mst
  | [], S => S
  | t :: l, S => if (!S.b && isD s S.a) = true then moreS s l (t S) else S
def fv (k q : Nat) : Value := .func (.func k) #[.pointer (some ⟨q, 0, none⟩)] #[]
set_option maxRecDepth 100000 in
set_option maxHeartbeats 2000000 in
theorem more2_ck {w : World} {q p : Nat} {s : ByteArray} {S : Mst} (h : Ck w q s S) (hs : s.size ≤ 140737488351232) (hpq : p ≠ q)
    (h0 : w.cell? ⟨p, 0, none⟩ = some (fv 145 q))
    (h1 : w.cell? ⟨p, 1, none⟩ = some (fv 146 q)) :
    Calls Tryz.prog 144 #[.pointer (some ⟨q, 0, none⟩), .slice (some ⟨p, 0, none⟩) 2 2] w (PostC w q s (moreS s [minuteS s, secondS s] S)) := by
  obtain ⟨F, hF⟩ : ∃ F, moreS s [minuteS s, secondS s] S = F := ⟨_, rfl⟩
  have HF0 : Hid (moreS s ([minuteS s, secondS s].drop 0) S = F) := hF
  rw [hF]
  have HC0 : Hid (Ck w q s S) := h
  have HP : Hid (w.cell? ⟨p, 0, none⟩ = some (fv 145 q) ∧ w.cell? ⟨p, 1, none⟩ = some (fv 146 q)) := ⟨h0, h1⟩
  clear hF h h0 h1
  go_enter Tryz.func144, Tryz.ntmps144
  go_wp2
  go_loopg [8] 2 (fun g s8 wx => ∃ (i : Nat) (Sx : Mst), s8 = .int .i64 (i : Int) ∧ g + i = 2 ∧ Hid (Ck wx q s Sx) ∧ Hid (moreS s ([minuteS s, secondS s].drop i) Sx = F) ∧ Hid (w.grownBy wx (some q)))
  case atStart => exact ⟨0, S, rfl, by omega, HC0, HF0, grown_refl _ _⟩
  case round =>
    clear HC0 HF0
    obtain ⟨i, Sx, rfl, hg, HC, HE, HG⟩ := hrel
    have c72 := onDigit_ck HC.out
    have hi : i = 0 ∨ i = 1 ∨ i = 2 := by omega
    rcases hi with rfl | rfl | rfl
    · have hcell : wr.cell? ⟨p, 0, none⟩ = some (.func (.func 145) #[.pointer (some ⟨q, 0, none⟩)] #[]) := HG.out.cell (HP.out.1) (by simpa using hpq)
      have hE : (if (!Sx.b && isD s Sx.a) = true then moreS s ([minuteS s, secondS s].drop 1) (minuteS s Sx) else Sx) = F := HE.out
      cases hd : (!Sx.b && isD s Sx.a) with
      | false =>
        rw [hd] at c72 hE
        rw [if_neg (by decide)] at hE
        subst hE
        clear hd HE
        go_wp2_with (go_at_call 131; refine c72.mono ?_; rintro e w' ⟨rfl, n, rfl⟩)
        exact bodyPost_ret (v := .tuple #[]) (by simp [results, go_sem]) rfl ⟨_, rfl, HC.out.on (below_drewN (Below.refl _ _) n), grown_drewN HG.out n⟩
      | true =>
        rw [hd] at c72 hE
        rw [if_pos rfl] at hE
        have HE2 : Hid (moreS s ([minuteS s, secondS s].drop 1) (minuteS s Sx) = F) := hE
        have cf := fun n => minute_ck (HC.out.on (below_drewN (Below.refl _ wr) n)) hs
        clear hd HE hE
        go_wp2_with (first | (go_at_call 131; refine c72.mono ?_; rintro e w' ⟨rfl, n, rfl⟩) | (go_at_call 145; refine Stop.mk ?_))
        refine Stop.out ((cf _).mono ?_)
        rintro e W2 ⟨v, rfl, hc2, hg2⟩
        have HC2 : Hid (Ck W2 q s (minuteS s Sx)) := hc2
        have HG2 : Hid (w.grownBy W2 (some q)) := (grown_drewN HG.out _).trans hg2
        clear hc2 hg2 cf c72 HC HG
        go_wp2
        go_roundg 1
        case measure => omega
        case rel => exact ⟨1, minuteS s Sx, rfl, by omega, HC2, HE2, HG2⟩
    · have hcell : wr.cell? ⟨p, 1, none⟩ = some (.func (.func 146) #[.pointer (some ⟨q, 0, none⟩)] #[]) := HG.out.cell (HP.out.2) (by simpa using hpq)
      have hE : (if (!Sx.b && isD s Sx.a) = true then moreS s ([minuteS s, secondS s].drop 2) (secondS s Sx) else Sx) = F := HE.out
      cases hd : (!Sx.b && isD s Sx.a) with
      | false =>
        rw [hd] at c72 hE
        rw [if_neg (by decide)] at hE
        subst hE
        clear hd HE
        go_wp2_with (go_at_call 131; refine c72.mono ?_; rintro e w' ⟨rfl, n, rfl⟩)
        exact bodyPost_ret (v := .tuple #[]) (by simp [results, go_sem]) rfl ⟨_, rfl, HC.out.on (below_drewN (Below.refl _ _) n), grown_drewN HG.out n⟩
      | true =>
        rw [hd] at c72 hE
        rw [if_pos rfl] at hE
        have HE2 : Hid (moreS s ([minuteS s, secondS s].drop 2) (secondS s Sx) = F) := hE
        have cf := fun n => second_ck (HC.out.on (below_drewN (Below.refl _ wr) n)) hs
        clear hd HE hE
        go_wp2_with (first | (go_at_call 131; refine c72.mono ?_; rintro e w' ⟨rfl, n, rfl⟩) | (go_at_call 146; refine Stop.mk ?_))
        refine Stop.out ((cf _).mono ?_)
        rintro e W2 ⟨v, rfl, hc2, hg2⟩
        have HC2 : Hid (Ck W2 q s (secondS s Sx)) := hc2
        have HG2 : Hid (w.grownBy W2 (some q)) := (grown_drewN HG.out _).trans hg2
        clear hc2 hg2 cf c72 HC HG
        go_wp2
        go_roundg 0
        case measure => omega
        case rel => exact ⟨2, secondS s Sx, rfl, by omega, HC2, HE2, HG2⟩
    · have hE : Sx = F := HE.out
      subst hE
      clear HE
      go_wp2
      exact bodyPost_end (results_none rfl _ _ _) rfl ⟨_, rfl, HC.out, HG.out⟩
end Go.Proofs.YtehgeninocbpeaaGreatDoor.Tm

namespace Go.Proofs.YtehgeninocbpeaaGreatDoor.Tm
open Go Go.Proofs Go.RowKit
set_option maxRecDepth 100000 in
set_option maxHeartbeats 2000000 in
theorem more5_ck {w : World} {q p : Nat} {s : ByteArray} {S : Mst} (h : Ck w q s S) (hs : s.size ≤ 140737488351232) (hpq : p ≠ q)
    (h0 : w.cell? ⟨p, 0, none⟩ = some (fv 141 q))
    (h1 : w.cell? ⟨p, 1, none⟩ = some (fv 142 q))
    (h2 : w.cell? ⟨p, 2, none⟩ = some (fv 143 q))
    (h3 : w.cell? ⟨p, 3, none⟩ = some (fv 145 q))
    (h4 : w.cell? ⟨p, 4, none⟩ = some (fv 146 q)) :
    Calls Tryz.prog 144 #[.pointer (some ⟨q, 0, none⟩), .slice (some ⟨p, 0, none⟩) 5 5] w (PostC w q s (moreS s [monthS s, dayS s, hourS s, minuteS s, secondS s] S)) := by
  obtain ⟨F, hF⟩ : ∃ F, moreS s [monthS s, dayS s, hourS s, minuteS s, secondS s] S = F := ⟨_, rfl⟩
  have HF0 : Hid (moreS s ([monthS s, dayS s, hourS s, minuteS s, secondS s].drop 0) S = F) := hF
  rw [hF]
  have HC0 : Hid (Ck w q s S) := h
  have HP : Hid (w.cell? ⟨p, 0, none⟩ = some (fv 141 q) ∧ w.cell? ⟨p, 1, none⟩ = some (fv 142 q) ∧ w.cell? ⟨p, 2, none⟩ = some (fv 143 q) ∧ w.cell? ⟨p, 3, none⟩ = some (fv 145 q) ∧ w.cell? ⟨p, 4, none⟩ = some (fv 146 q)) := ⟨h0, h1, h2, h3, h4⟩
  clear hF h h0 h1 h2 h3 h4
  go_enter Tryz.func144, Tryz.ntmps144
  go_wp2
  go_loopg [8] 5 (fun g s8 wx => ∃ (i : Nat) (Sx : Mst), s8 = .int .i64 (i : Int) ∧ g + i = 5 ∧ Hid (Ck wx q s Sx) ∧ Hid (moreS s ([monthS s, dayS s, hourS s, minuteS s, secondS s].drop i) Sx = F) ∧ Hid (w.grownBy wx (some q)))
  case atStart => exact ⟨0, S, rfl, by omega, HC0, HF0, grown_refl _ _⟩
  case round =>
    clear HC0 HF0
    obtain ⟨i, Sx, rfl, hg, HC, HE, HG⟩ := hrel
    have c72 := onDigit_ck HC.out
    have hi : i = 0 ∨ i = 1 ∨ i = 2 ∨ i = 3 ∨ i = 4 ∨ i = 5 := by omega
    rcases hi with rfl | rfl | rfl | rfl | rfl | rfl
    · have hcell : wr.cell? ⟨p, 0, none⟩ = some (.func (.func 141) #[.pointer (some ⟨q, 0, none⟩)] #[]) := HG.out.cell (HP.out.1) (by simpa using hpq)
      have hE : (if (!Sx.b && isD s Sx.a) = true then moreS s ([monthS s, dayS s, hourS s, minuteS s, secondS s].drop 1) (monthS s Sx) else Sx) = F := HE.out
      cases hd : (!Sx.b && isD s Sx.a) with
      | false =>
        rw [hd] at c72 hE
        rw [if_neg (by decide)] at hE
        subst hE
        clear hd HE
        go_wp2_with (go_at_call 131; refine c72.mono ?_; rintro e w' ⟨rfl, n, rfl⟩)
        exact bodyPost_ret (v := .tuple #[]) (by simp [results, go_sem]) rfl ⟨_, rfl, HC.out.on (below_drewN (Below.refl _ _) n), grown_drewN HG.out n⟩
      | true =>
        rw [hd] at c72 hE
        rw [if_pos rfl] at hE
        have HE2 : Hid (moreS s ([monthS s, dayS s, hourS s, minuteS s, secondS s].drop 1) (monthS s Sx) = F) := hE
        have cf := fun n => month_ck (HC.out.on (below_drewN (Below.refl _ wr) n)) hs
        clear hd HE hE
        go_wp2_with (first | (go_at_call 131; refine c72.mono ?_; rintro e w' ⟨rfl, n, rfl⟩) | (go_at_call 141; refine Stop.mk ?_))
        refine Stop.out ((cf _).mono ?_)
        rintro e W2 ⟨v, rfl, hc2, hg2⟩
        have HC2 : Hid (Ck W2 q s (monthS s Sx)) := hc2
        have HG2 : Hid (w.grownBy W2 (some q)) := (grown_drewN HG.out _).trans hg2
        clear hc2 hg2 cf c72 HC HG
        go_wp2
        go_roundg 4
        case measure => omega
        case rel => exact ⟨1, monthS s Sx, rfl, by omega, HC2, HE2, HG2⟩
    · have hcell : wr.cell? ⟨p, 1, none⟩ = some (.func (.func 142) #[.pointer (some ⟨q, 0, none⟩)] #[]) := HG.out.cell (HP.out.2.1) (by simpa using hpq)
      have hE : (if (!Sx.b && isD s Sx.a) = true then moreS s ([monthS s, dayS s, hourS s, minuteS s, secondS s].drop 2) (dayS s Sx) else Sx) = F := HE.out
      cases hd : (!Sx.b && isD s Sx.a) with
      | false =>
        rw [hd] at c72 hE
        rw [if_neg (by decide)] at hE
        subst hE
        clear hd HE
        go_wp2_with (go_at_call 131; refine c72.mono ?_; rintro e w' ⟨rfl, n, rfl⟩)
        exact bodyPost_ret (v := .tuple #[]) (by simp [results, go_sem]) rfl ⟨_, rfl, HC.out.on (below_drewN (Below.refl _ _) n), grown_drewN HG.out n⟩
      | true =>
        rw [hd] at c72 hE
        rw [if_pos rfl] at hE
        have HE2 : Hid (moreS s ([monthS s, dayS s, hourS s, minuteS s, secondS s].drop 2) (dayS s Sx) = F) := hE
        have cf := fun n => day_ck (HC.out.on (below_drewN (Below.refl _ wr) n)) hs
        clear hd HE hE
        go_wp2_with (first | (go_at_call 131; refine c72.mono ?_; rintro e w' ⟨rfl, n, rfl⟩) | (go_at_call 142; refine Stop.mk ?_))
        refine Stop.out ((cf _).mono ?_)
        rintro e W2 ⟨v, rfl, hc2, hg2⟩
        have HC2 : Hid (Ck W2 q s (dayS s Sx)) := hc2
        have HG2 : Hid (w.grownBy W2 (some q)) := (grown_drewN HG.out _).trans hg2
        clear hc2 hg2 cf c72 HC HG
        go_wp2
        go_roundg 3
        case measure => omega
        case rel => exact ⟨2, dayS s Sx, rfl, by omega, HC2, HE2, HG2⟩
    · have hcell : wr.cell? ⟨p, 2, none⟩ = some (.func (.func 143) #[.pointer (some ⟨q, 0, none⟩)] #[]) := HG.out.cell (HP.out.2.2.1) (by simpa using hpq)
      have hE : (if (!Sx.b && isD s Sx.a) = true then moreS s ([monthS s, dayS s, hourS s, minuteS s, secondS s].drop 3) (hourS s Sx) else Sx) = F := HE.out
      cases hd : (!Sx.b && isD s Sx.a) with
      | false =>
        rw [hd] at c72 hE
        rw [if_neg (by decide)] at hE
        subst hE
        clear hd HE
        go_wp2_with (go_at_call 131; refine c72.mono ?_; rintro e w' ⟨rfl, n, rfl⟩)
        exact bodyPost_ret (v := .tuple #[]) (by simp [results, go_sem]) rfl ⟨_, rfl, HC.out.on (below_drewN (Below.refl _ _) n), grown_drewN HG.out n⟩
      | true =>
        rw [hd] at c72 hE
        rw [if_pos rfl] at hE
        have HE2 : Hid (moreS s ([monthS s, dayS s, hourS s, minuteS s, secondS s].drop 3) (hourS s Sx) = F) := hE
        have cf := fun n => hour_ck (HC.out.on (below_drewN (Below.refl _ wr) n)) hs
        clear hd HE hE
        go_wp2_with (first | (go_at_call 131; refine c72.mono ?_; rintro e w' ⟨rfl, n, rfl⟩) | (go_at_call 143; refine Stop.mk ?_))
        refine Stop.out ((cf _).mono ?_)
        rintro e W2 ⟨v, rfl, hc2, hg2⟩
        have HC2 : Hid (Ck W2 q s (hourS s Sx)) := hc2
        have HG2 : Hid (w.grownBy W2 (some q)) := (grown_drewN HG.out _).trans hg2
        clear hc2 hg2 cf c72 HC HG
        go_wp2
        go_roundg 2
        case measure => omega
        case rel => exact ⟨3, hourS s Sx, rfl, by omega, HC2, HE2, HG2⟩
    · have hcell : wr.cell? ⟨p, 3, none⟩ = some (.func (.func 145) #[.pointer (some ⟨q, 0, none⟩)] #[]) := HG.out.cell (HP.out.2.2.2.1) (by simpa using hpq)
      have hE : (if (!Sx.b && isD s Sx.a) = true then moreS s ([monthS s, dayS s, hourS s, minuteS s, secondS s].drop 4) (minuteS s Sx) else Sx) = F := HE.out
      cases hd : (!Sx.b && isD s Sx.a) with
      | false =>
        rw [hd] at c72 hE
        rw [if_neg (by decide)] at hE
        subst hE
        clear hd HE
        go_wp2_with (go_at_call 131; refine c72.mono ?_; rintro e w' ⟨rfl, n, rfl⟩)
        exact bodyPost_ret (v := .tuple #[]) (by simp [results, go_sem]) rfl ⟨_, rfl, HC.out.on (below_drewN (Below.refl _ _) n), grown_drewN HG.out n⟩
      | true =>
        rw [hd] at c72 hE
        rw [if_pos rfl] at hE
        have HE2 : Hid (moreS s ([monthS s, dayS s, hourS s, minuteS s, secondS s].drop 4) (minuteS s Sx) = F) := hE
        have cf := fun n => minute_ck (HC.out.on (below_drewN (Below.refl _ wr) n)) hs
        clear hd HE hE
        go_wp2_with (first | (go_at_call 131; refine c72.mono ?_; rintro e w' ⟨rfl, n, rfl⟩) | (go_at_call 145; refine Stop.mk ?_))
        refine Stop.out ((cf _).mono ?_)
        rintro e W2 ⟨v, rfl, hc2, hg2⟩
        have HC2 : Hid (Ck W2 q s (minuteS s Sx)) := hc2
        have HG2 : Hid (w.grownBy W2 (some q)) := (grown_drewN HG.out _).trans hg2
        clear hc2 hg2 cf c72 HC HG
        go_wp2
        go_roundg 1
        case measure => omega
        case rel => exact ⟨4, minuteS s Sx, rfl, by omega, HC2, HE2, HG2⟩
    · have hcell : wr.cell? ⟨p, 4, none⟩ = some (.func (.func 146) #[.pointer (some ⟨q, 0, none⟩)] #[]) := HG.out.cell (HP.out.2.2.2.2) (by simpa using hpq)
      have hE : (if (!Sx.b && isD s Sx.a) = true then moreS s ([monthS s, dayS s, hourS s, minuteS s, secondS s].drop 5) (secondS s Sx) else Sx) = F := HE.out
      cases hd : (!Sx.b && isD s Sx.a) with
      | false =>
        rw [hd] at c72 hE
        rw [if_neg (by decide)] at hE
        subst hE
        clear hd HE
        go_wp2_with (go_at_call 131; refine c72.mono ?_; rintro e w' ⟨rfl, n, rfl⟩)
        exact bodyPost_ret (v := .tuple #[]) (by simp [results, go_sem]) rfl ⟨_, rfl, HC.out.on (below_drewN (Below.refl _ _) n), grown_drewN HG.out n⟩
      | true =>
        rw [hd] at c72 hE
        rw [if_pos rfl] at hE
        have HE2 : Hid (moreS s ([monthS s, dayS s, hourS s, minuteS s, secondS s].drop 5) (secondS s Sx) = F) := hE
        have cf := fun n => second_ck (HC.out.on (below_drewN (Below.refl _ wr) n)) hs
        clear hd HE hE
        go_wp2_with (first | (go_at_call 131; refine c72.mono ?_; rintro e w' ⟨rfl, n, rfl⟩) | (go_at_call 146; refine Stop.mk ?_))
        refine Stop.out ((cf _).mono ?_)
        rintro e W2 ⟨v, rfl, hc2, hg2⟩
        have HC2 : Hid (Ck W2 q s (secondS s Sx)) := hc2
        have HG2 : Hid (w.grownBy W2 (some q)) := (grown_drewN HG.out _).trans hg2
        clear hc2 hg2 cf c72 HC HG
        go_wp2
        go_roundg 0
        case measure => omega
        case rel => exact ⟨5, secondS s Sx, rfl, by omega, HC2, HE2, HG2⟩
    · have hE : Sx = F := HE.out
      subst hE
      clear HE
      go_wp2
      exact bodyPost_end (results_none rfl _ _ _) rfl ⟨_, rfl, HC.out, HG.out⟩
end Go.Proofs.YtehgeninocbpeaaGreatDoor.Tm
