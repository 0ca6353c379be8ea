import Derived.Test.YtgdemlebohlolaaGreatDoorQL
/-
  DERIVED. The reader of times and moments: what it holds, piece by piece.
-/
namespace Go.Proofs.YtgdemlebohlolaaGreatDoor.Tm
open Go Go.Proofs Go.RowKit

/-- What the reader knows so far. -/
structure Mst where
  a : Nat
  b : Bool
  o : Option (Int × Int)
  y : Nat
  m : Nat
  d : Nat
  dp : Nat
  h : Nat
  mi : Nat
  sc : Nat
  mc : Nat
  p : Nat
  zd : Bool
  z : Int

structure CkF (w : World) (q : Nat) (f : Nat → Value) (s : ByteArray) (S : Mst) : Prop where
  cur : Cur w q f s S.a S.b
  le : S.a ≤ s.size
  dbt : Dbt w q (f 3) S.o
  v4 : f 4 = .int .i64 (S.y : Int)
  v5 : f 5 = .int .i64 (S.m : Int)
  v6 : f 6 = .int .i64 (S.d : Int)
  v7 : f 7 = .int .i64 (S.dp : Int)
  v8 : f 8 = .int .i64 (S.h : Int)
  v9 : f 9 = .int .i64 (S.mi : Int)
  v10 : f 10 = .int .i64 (S.sc : Int)
  v11 : f 11 = .int .i64 (S.mc : Int)
  v12 : f 12 = .int .i64 (S.p : Int)
  v13 : f 13 = .bool S.zd
  v14 : f 14 = .int .i64 S.z
  tab : Mt w
  q0 : q ≠ 5
def Ck (w : World) (q : Nat) (s : ByteArray) (S : Mst) : Prop := ∃ f, CkF w q f s S
def PostC (w : World) (q : Nat) (s : ByteArray) (S : Mst) (e : Ending) (w' : World) : Prop := ∃ v, e = .returned v ∧ Ck w' q s S ∧ w.grownBy w' (some q)

theorem Mt.grown {w w' : World} {q : Nat} (h : Mt w) (hg : w.grownBy w' (some q)) (hq : q ≠ 5) : Mt w' :=
  ⟨fun i hi => hg.cell (h.p i hi) (by simpa using fun h => hq h.symm)⟩

def pcC (s : ByteArray) (S : Mst) (k : Nat) : Nat := if S.b = true then 0 else cnt s S.a k
def pcN (s : ByteArray) (S : Mst) (k : Nat) : Nat := nv s S.a (pcC s S k)
def pcO (s : ByteArray) (S : Mst) (k : Nat) (lo hi : Int) : Option (Int × Int) := nextD S.o (decide ((pcN s S k : Int) < lo) || decide (hi < (pcN s S k : Int))) S.a
def yearS (s : ByteArray) (S : Mst) : Mst := { S with a := S.a + pcC s S 4, b := S.b || decide (pcC s S 4 < 4), o := pcO s S 4 1 9999, y := pcN s S 4, dp := 1 }
def monthS (s : ByteArray) (S : Mst) : Mst := { S with a := S.a + pcC s S 2, b := S.b || decide (pcC s S 2 < 2), o := pcO s S 2 1 12, m := pcN s S 2, dp := 2 }
def dayS (s : ByteArray) (S : Mst) : Mst := { S with a := S.a + pcC s S 2, b := S.b || decide (pcC s S 2 < 2), o := pcO s S 2 1 (md S.y S.m : Nat), d := pcN s S 2, dp := 3 }
def hourS (s : ByteArray) (S : Mst) : Mst := { S with a := S.a + pcC s S 2, b := S.b || decide (pcC s S 2 < 2), o := pcO s S 2 0 23, h := pcN s S 2, p := 1 }
def minuteS (s : ByteArray) (S : Mst) : Mst := { S with a := S.a + pcC s S 2, b := S.b || decide (pcC s S 2 < 2), o := pcO s S 2 0 59, mi := pcN s S 2, p := 2 }
def secondS (s : ByteArray) (S : Mst) : Mst := { S with a := S.a + pcC s S 2, b := S.b || decide (pcC s S 2 < 2), o := pcO s S 2 0 60, sc := pcN s S 2, p := 3 }

theorem pcC_le {s : ByteArray} {S : Mst} (k : Nat) (h : S.a ≤ s.size) : S.a + pcC s S k ≤ s.size := by
  unfold pcC
  split
  · omega
  · exact cnt_size s k S.a h

theorem year_ck {w : World} {q : Nat} {s : ByteArray} {S : Mst} (h : Ck w q s S) (hs : s.size ≤ 140737488351232) : Calls Tryz.prog 117 #[.pointer (some ⟨q, 0, none⟩)] w (PostC w q s (yearS s S)) := by
  obtain ⟨f, hf⟩ := h
  refine (year_any w q f s S.a S.b S.o hf.cur hf.dbt hf.le hs (pcC s S 4) rfl).mono ?_
  rintro e w' ⟨f', v, rfl, hc, hk, hN, hp, hd, hg⟩
  exact ⟨v, rfl, ⟨f', { cur := hc, le := pcC_le 4 hf.le, dbt := hd, v4 := hN, v5 := (hk 5 (by omega) (by omega) (by omega)).trans hf.v5, v6 := (hk 6 (by omega) (by omega) (by omega)).trans hf.v6, v7 := hp, v8 := (hk 8 (by omega) (by omega) (by omega)).trans hf.v8, v9 := (hk 9 (by omega) (by omega) (by omega)).trans hf.v9, v10 := (hk 10 (by omega) (by omega) (by omega)).trans hf.v10, v11 := (hk 11 (by omega) (by omega) (by omega)).trans hf.v11, v12 := (hk 12 (by omega) (by omega) (by omega)).trans hf.v12, v13 := (hk 13 (by omega) (by omega) (by omega)).trans hf.v13, v14 := (hk 14 (by omega) (by omega) (by omega)).trans hf.v14, tab := hf.tab.grown hg hf.q0, q0 := hf.q0 }⟩, hg⟩
theorem month_ck {w : World} {q : Nat} {s : ByteArray} {S : Mst} (h : Ck w q s S) (hs : s.size ≤ 140737488351232) : Calls Tryz.prog 118 #[.pointer (some ⟨q, 0, none⟩)] w (PostC w q s (monthS s S)) := by
  obtain ⟨f, hf⟩ := h
  refine (month55_any w q f s S.a S.b S.o hf.cur hf.dbt hf.le hs (pcC s S 2) rfl).mono ?_
  rintro e w' ⟨f', v, rfl, hc, hk, hN, hp, hd, hg⟩
  exact ⟨v, rfl, ⟨f', { cur := hc, le := pcC_le 2 hf.le, dbt := hd, v5 := hN, v4 := (hk 4 (by omega) (by omega) (by omega)).trans hf.v4, v6 := (hk 6 (by omega) (by omega) (by omega)).trans hf.v6, v7 := hp, v8 := (hk 8 (by omega) (by omega) (by omega)).trans hf.v8, v9 := (hk 9 (by omega) (by omega) (by omega)).trans hf.v9, v10 := (hk 10 (by omega) (by omega) (by omega)).trans hf.v10, v11 := (hk 11 (by omega) (by omega) (by omega)).trans hf.v11, v12 := (hk 12 (by omega) (by omega) (by omega)).trans hf.v12, v13 := (hk 13 (by omega) (by omega) (by omega)).trans hf.v13, v14 := (hk 14 (by omega) (by omega) (by omega)).trans hf.v14, tab := hf.tab.grown hg hf.q0, q0 := hf.q0 }⟩, hg⟩
theorem day_ck {w : World} {q : Nat} {s : ByteArray} {S : Mst} (h : Ck w q s S) (hs : s.size ≤ 140737488351232) : Calls Tryz.prog 119 #[.pointer (some ⟨q, 0, none⟩)] w (PostC w q s (dayS s S)) := by
  obtain ⟨f, hf⟩ := h
  refine (day_any w q f s S.a S.b S.o hf.cur hf.dbt hf.le hs (pcC s S 2) rfl S.y S.m hf.v4 hf.v5 hf.tab hf.q0).mono ?_
  rintro e w' ⟨f', v, rfl, hc, hk, hN, hp, hd, hg⟩
  exact ⟨v, rfl, ⟨f', { cur := hc, le := pcC_le 2 hf.le, dbt := hd, v6 := hN, v4 := (hk 4 (by omega) (by omega) (by omega)).trans hf.v4, v5 := (hk 5 (by omega) (by omega) (by omega)).trans hf.v5, v7 := hp, v8 := (hk 8 (by omega) (by omega) (by omega)).trans hf.v8, v9 := (hk 9 (by omega) (by omega) (by omega)).trans hf.v9, v10 := (hk 10 (by omega) (by omega) (by omega)).trans hf.v10, v11 := (hk 11 (by omega) (by omega) (by omega)).trans hf.v11, v12 := (hk 12 (by omega) (by omega) (by omega)).trans hf.v12, v13 := (hk 13 (by omega) (by omega) (by omega)).trans hf.v13, v14 := (hk 14 (by omega) (by omega) (by omega)).trans hf.v14, tab := hf.tab.grown hg hf.q0, q0 := hf.q0 }⟩, hg⟩

def PostH (w : World) (q : Nat) (f : Nat → Value) (s : ByteArray) (a : Nat) (b : Bool) (o : Option (Int × Int)) (i : Nat) (N p : Int) (e : Ending) (w' : World) : Prop :=
  ∃ f' v, e = .returned v ∧ Cur w' q f' s a b ∧ (∀ j, 4 ≤ j → j ≠ 12 → j ≠ i → f' j = f j) ∧ f' i = .int .i64 N ∧ f' 12 = .int .i64 p ∧ Dbt w' q (f' 3) o ∧ w.grownBy w' (some q)

set_option maxRecDepth 100000 in
set_option maxHeartbeats 1000000 in
theorem hour_any (w : World) (q : Nat) (f : Nat → Value) (s : ByteArray) (a : Nat) (b : Bool) (o : Option (Int × Int)) (h : Cur w q f s a b) (hd : Dbt w q (f 3) o) (ha : a ≤ s.size) (hs : s.size ≤ 140737488351232) (c : Nat) (hc : c = if b = true then 0 else cnt s a 2) :
    Calls Tryz.prog 120 #[.pointer (some ⟨q, 0, none⟩)] w (PostH w q f s (a + c) (b || decide (c < 2)) (nextD o (decide ((nv s a c : Int) < 0) || decide (23 < (nv s a c : Int))) a) 8 (nv s a c : Nat) 1) := by
  have q7 : w.cell? ⟨q, 12, none⟩ = some (f 12) := h.row.cell (i := 12) (by omega)
  have qf : ∀ i, w.frozen? ⟨q, i, none⟩ = false := fun i => h.row.frozen i
  have hc1 := h.set 12 (by omega) (.int .i64 1)
  have hg1 : w.grownBy (w.setCell ⟨q, 12, none⟩ (.int .i64 1)) (some q) := grown_set (grown_refl _ _) 12 _
  have hd1 : Dbt (w.setCell ⟨q, 12, none⟩ (.int .i64 1)) q (up f 12 (.int .i64 1) 3) o := by rw [up_ne (by omega)]; exact hd.grown hg1
  obtain ⟨W1, hW1⟩ : ∃ W1, w.setCell ⟨q, 12, none⟩ (.int .i64 1) = W1 := ⟨_, rfl⟩
  rw [hW1] at hc1 hd1 hg1
  have c71 := piece_any W1 q _ s a b o hc1 hd1 ha hs 2 (by omega) c hc 0 23
  have HG1 : Hid (w.grownBy W1 (some q)) := hg1
  generalize nv s a c = N at *
  clear h hd hc hc1 hd1 hg1
  go_enter Tryz.func120, Tryz.ntmps120
  go_wp2_with (go_at_call 148; refine Stop.mk ?_)
  refine Stop.out (c71.mono ?_)
  rintro e W2 ⟨f2, rfl, hc2, hf2, hd2, hg2⟩
  have r5 : W2.cell? ⟨q, 8, none⟩ = some (f2 8) := hc2.row.cell (i := 8) (by omega)
  have rf : ∀ i, W2.frozen? ⟨q, i, none⟩ = false := fun i => hc2.row.frozen i
  have hc3 := hc2.set 8 (by omega) (.int .i64 (N : Int))
  have hg3 : W2.grownBy (W2.setCell ⟨q, 8, none⟩ (.int .i64 (N : Int))) (some q) := grown_set (grown_refl _ _) 8 _
  have hd3 := hd2.grown hg3
  have HR : Hid (PostH w q f s (a + c) (b || decide (c < 2)) (nextD o (decide ((N : Int) < 0) || decide (23 < (N : Int))) a) 8 (N : Int) 1 (.returned (.tuple #[])) (W2.setCell ⟨q, 8, none⟩ (.int .i64 (N : Int)))) := by
    refine ⟨_, _, rfl, hc3, fun j hj hj7 hj4 => ?_, up_eq, ?_, ?_, (HG1.out.trans hg2).trans hg3⟩
    · rw [up_ne hj4, hf2 j (by omega), up_ne hj7]
    · rw [up_ne (by omega), hf2 12 (by omega), up_eq]
    · rw [up_ne (by omega)]; exact hd3
  clear hc2 hf2 hd2 hg2 hc3 hg3 hd3 c71
  go_wp2
  exact bodyPost_end (results_none rfl _ _ _) rfl HR.out

theorem hour_ck {w : World} {q : Nat} {s : ByteArray} {S : Mst} (h : Ck w q s S) (hs : s.size ≤ 140737488351232) : Calls Tryz.prog 120 #[.pointer (some ⟨q, 0, none⟩)] w (PostC w q s (hourS s S)) := by
  obtain ⟨f, hf⟩ := h
  refine (hour_any w q f s S.a S.b S.o hf.cur hf.dbt hf.le hs (pcC s S 2) rfl).mono ?_
  rintro e w' ⟨f', v, rfl, hc, hk, hN, hp, hd, hg⟩
  exact ⟨v, rfl, ⟨f', { cur := hc, le := pcC_le 2 hf.le, dbt := hd, v8 := hN, v12 := hp, v4 := (hk 4 (by omega) (by omega) (by omega)).trans hf.v4, v5 := (hk 5 (by omega) (by omega) (by omega)).trans hf.v5, v6 := (hk 6 (by omega) (by omega) (by omega)).trans hf.v6, v7 := (hk 7 (by omega) (by omega) (by omega)).trans hf.v7, v9 := (hk 9 (by omega) (by omega) (by omega)).trans hf.v9, v10 := (hk 10 (by omega) (by omega) (by omega)).trans hf.v10, v11 := (hk 11 (by omega) (by omega) (by omega)).trans hf.v11, v13 := (hk 13 (by omega) (by omega) (by omega)).trans hf.v13, v14 := (hk 14 (by omega) (by omega) (by omega)).trans hf.v14, tab := hf.tab.grown hg hf.q0, q0 := hf.q0 }⟩, hg⟩

set_option maxRecDepth 100000 in
set_option maxHeartbeats 1000000 in
theorem minute_any (w : World) (q : Nat) (f : Nat → Value) (s : ByteArray) (a : Nat) (b : Bool) (o : Option (Int × Int)) (h : Cur w q f s a b) (hd : Dbt w q (f 3) o) (ha : a ≤ s.size) (hs : s.size ≤ 140737488351232) (c : Nat) (hc : c = if b = true then 0 else cnt s a 2) :
    Calls Tryz.prog 122 #[.pointer (some ⟨q, 0, none⟩)] w (PostH w q f s (a + c) (b || decide (c < 2)) (nextD o (decide ((nv s a c : Int) < 0) || decide (59 < (nv s a c : Int))) a) 9 (nv s a c : Nat) 2) := by
  have q7 : w.cell? ⟨q, 12, none⟩ = some (f 12) := h.row.cell (i := 12) (by omega)
  have qf : ∀ i, w.frozen? ⟨q, i, none⟩ = false := fun i => h.row.frozen i
  have hc1 := h.set 12 (by omega) (.int .i64 2)
  have hg1 : w.grownBy (w.setCell ⟨q, 12, none⟩ (.int .i64 2)) (some q) := grown_set (grown_refl _ _) 12 _
  have hd1 : Dbt (w.setCell ⟨q, 12, none⟩ (.int .i64 2)) q (up f 12 (.int .i64 2) 3) o := by rw [up_ne (by omega)]; exact hd.grown hg1
  obtain ⟨W1, hW1⟩ : ∃ W1, w.setCell ⟨q, 12, none⟩ (.int .i64 2) = W1 := ⟨_, rfl⟩
  rw [hW1] at hc1 hd1 hg1
  have c71 := piece_any W1 q _ s a b o hc1 hd1 ha hs 2 (by omega) c hc 0 59
  have HG1 : Hid (w.grownBy W1 (some q)) := hg1
  generalize nv s a c = N at *
  clear h hd hc hc1 hd1 hg1
  go_enter Tryz.func122, Tryz.ntmps122
  go_wp2_with (go_at_call 148; refine Stop.mk ?_)
  refine Stop.out (c71.mono ?_)
  rintro e W2 ⟨f2, rfl, hc2, hf2, hd2, hg2⟩
  have r5 : W2.cell? ⟨q, 9, none⟩ = some (f2 9) := hc2.row.cell (i := 9) (by omega)
  have rf : ∀ i, W2.frozen? ⟨q, i, none⟩ = false := fun i => hc2.row.frozen i
  have hc3 := hc2.set 9 (by omega) (.int .i64 (N : Int))
  have hg3 : W2.grownBy (W2.setCell ⟨q, 9, none⟩ (.int .i64 (N : Int))) (some q) := grown_set (grown_refl _ _) 9 _
  have hd3 := hd2.grown hg3
  have HR : Hid (PostH w q f s (a + c) (b || decide (c < 2)) (nextD o (decide ((N : Int) < 0) || decide (59 < (N : Int))) a) 9 (N : Int) 2 (.returned (.tuple #[])) (W2.setCell ⟨q, 9, none⟩ (.int .i64 (N : Int)))) := by
    refine ⟨_, _, rfl, hc3, fun j hj hj7 hj4 => ?_, up_eq, ?_, ?_, (HG1.out.trans hg2).trans hg3⟩
    · rw [up_ne hj4, hf2 j (by omega), up_ne hj7]
    · rw [up_ne (by omega), hf2 12 (by omega), up_eq]
    · rw [up_ne (by omega)]; exact hd3
  clear hc2 hf2 hd2 hg2 hc3 hg3 hd3 c71
  go_wp2
  exact bodyPost_end (results_none rfl _ _ _) rfl HR.out

theorem minute_ck {w : World} {q : Nat} {s : ByteArray} {S : Mst} (h : Ck w q s S) (hs : s.size ≤ 140737488351232) : Calls Tryz.prog 122 #[.pointer (some ⟨q, 0, none⟩)] w (PostC w q s (minuteS s S)) := by
  obtain ⟨f, hf⟩ := h
  refine (minute_any w q f s S.a S.b S.o hf.cur hf.dbt hf.le hs (pcC s S 2) rfl).mono ?_
  rintro e w' ⟨f', v, rfl, hc, hk, hN, hp, hd, hg⟩
  exact ⟨v, rfl, ⟨f', { cur := hc, le := pcC_le 2 hf.le, dbt := hd, v9 := hN, v12 := hp, v4 := (hk 4 (by omega) (by omega) (by omega)).trans hf.v4, v5 := (hk 5 (by omega) (by omega) (by omega)).trans hf.v5, v6 := (hk 6 (by omega) (by omega) (by omega)).trans hf.v6, v7 := (hk 7 (by omega) (by omega) (by omega)).trans hf.v7, v8 := (hk 8 (by omega) (by omega) (by omega)).trans hf.v8, v10 := (hk 10 (by omega) (by omega) (by omega)).trans hf.v10, v11 := (hk 11 (by omega) (by omega) (by omega)).trans hf.v11, v13 := (hk 13 (by omega) (by omega) (by omega)).trans hf.v13, v14 := (hk 14 (by omega) (by omega) (by omega)).trans hf.v14, tab := hf.tab.grown hg hf.q0, q0 := hf.q0 }⟩, hg⟩

set_option maxRecDepth 100000 in
set_option maxHeartbeats 1000000 in
theorem second_any (w : World) (q : Nat) (f : Nat → Value) (s : ByteArray) (a : Nat) (b : Bool) (o : Option (Int × Int)) (h : Cur w q f s a b) (hd : Dbt w q (f 3) o) (ha : a ≤ s.size) (hs : s.size ≤ 140737488351232) (c : Nat) (hc : c = if b = true then 0 else cnt s a 2) :
    Calls Tryz.prog 123 #[.pointer (some ⟨q, 0, none⟩)] w (PostH w q f s (a + c) (b || decide (c < 2)) (nextD o (decide ((nv s a c : Int) < 0) || decide (60 < (nv s a c : Int))) a) 10 (nv s a c : Nat) 3) := by
  have q7 : w.cell? ⟨q, 12, none⟩ = some (f 12) := h.row.cell (i := 12) (by omega)
  have qf : ∀ i, w.frozen? ⟨q, i, none⟩ = false := fun i => h.row.frozen i
  have hc1 := h.set 12 (by omega) (.int .i64 3)
  have hg1 : w.grownBy (w.setCell ⟨q, 12, none⟩ (.int .i64 3)) (some q) := grown_set (grown_refl _ _) 12 _
  have hd1 : Dbt (w.setCell ⟨q, 12, none⟩ (.int .i64 3)) q (up f 12 (.int .i64 3) 3) o := by rw [up_ne (by omega)]; exact hd.grown hg1
  obtain ⟨W1, hW1⟩ : ∃ W1, w.setCell ⟨q, 12, none⟩ (.int .i64 3) = W1 := ⟨_, rfl⟩
  rw [hW1] at hc1 hd1 hg1
  have c71 := piece_any W1 q _ s a b o hc1 hd1 ha hs 2 (by omega) c hc 0 60
  have HG1 : Hid (w.grownBy W1 (some q)) := hg1
  generalize nv s a c = N at *
  clear h hd hc hc1 hd1 hg1
  go_enter Tryz.func123, Tryz.ntmps123
  go_wp2_with (go_at_call 148; refine Stop.mk ?_)
  refine Stop.out (c71.mono ?_)
  rintro e W2 ⟨f2, rfl, hc2, hf2, hd2, hg2⟩
  have r5 : W2.cell? ⟨q, 10, none⟩ = some (f2 10) := hc2.row.cell (i := 10) (by omega)
  have rf : ∀ i, W2.frozen? ⟨q, i, none⟩ = false := fun i => hc2.row.frozen i
  have hc3 := hc2.set 10 (by omega) (.int .i64 (N : Int))
  have hg3 : W2.grownBy (W2.setCell ⟨q, 10, none⟩ (.int .i64 (N : Int))) (some q) := grown_set (grown_refl _ _) 10 _
  have hd3 := hd2.grown hg3
  have HR : Hid (PostH w q f s (a + c) (b || decide (c < 2)) (nextD o (decide ((N : Int) < 0) || decide (60 < (N : Int))) a) 10 (N : Int) 3 (.returned (.tuple #[])) (W2.setCell ⟨q, 10, none⟩ (.int .i64 (N : Int)))) := by
    refine ⟨_, _, rfl, hc3, fun j hj hj7 hj4 => ?_, up_eq, ?_, ?_, (HG1.out.trans hg2).trans hg3⟩
    · rw [up_ne hj4, hf2 j (by omega), up_ne hj7]
    · rw [up_ne (by omega), hf2 12 (by omega), up_eq]
    · rw [up_ne (by omega)]; exact hd3
  clear hc2 hf2 hd2 hg2 hc3 hg3 hd3 c71
  go_wp2
  exact bodyPost_end (results_none rfl _ _ _) rfl HR.out

theorem second_ck {w : World} {q : Nat} {s : ByteArray} {S : Mst} (h : Ck w q s S) (hs : s.size ≤ 140737488351232) : Calls Tryz.prog 123 #[.pointer (some ⟨q, 0, none⟩)] w (PostC w q s (secondS s S)) := by
  obtain ⟨f, hf⟩ := h
  refine (second_any w q f s S.a S.b S.o hf.cur hf.dbt hf.le hs (pcC s S 2) rfl).mono ?_
  rintro e w' ⟨f', v, rfl, hc, hk, hN, hp, hd, hg⟩
  exact ⟨v, rfl, ⟨f', { cur := hc, le := pcC_le 2 hf.le, dbt := hd, v10 := hN, v12 := hp, v4 := (hk 4 (by omega) (by omega) (by omega)).trans hf.v4, v5 := (hk 5 (by omega) (by omega) (by omega)).trans hf.v5, v6 := (hk 6 (by omega) (by omega) (by omega)).trans hf.v6, v7 := (hk 7 (by omega) (by omega) (by omega)).trans hf.v7, v8 := (hk 8 (by omega) (by omega) (by omega)).trans hf.v8, v9 := (hk 9 (by omega) (by omega) (by omega)).trans hf.v9, v11 := (hk 11 (by omega) (by omega) (by omega)).trans hf.v11, v13 := (hk 13 (by omega) (by omega) (by omega)).trans hf.v13, v14 := (hk 14 (by omega) (by omega) (by omega)).trans hf.v14, tab := hf.tab.grown hg hf.q0, q0 := hf.q0 }⟩, hg⟩
end Go.Proofs.YtgdemlebohlolaaGreatDoor.Tm
