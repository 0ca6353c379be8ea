import Derived.Test.YtiieikdbhpflgabDoorE
import Derived.Test.YtiieikdbhpflgabDoorM
import Derived.Test.YtiieikdbhpflgabDoorXn
import Derived.Test.YtiieikdbhpflgabDoorF
/-
  DERIVED. New of both; what a provider tells.
-/
namespace Go.Proofs.YtiieikdbhpflgabDoor
open Go Go.Proofs Go.RowKit

/-- A provider, but for the request that it keeps. -/
def Pv (w : World) (q : Nat) (art left sta : Int) (asked : Bool) : Prop :=
  w.cell? ⟨q, 0, none⟩ = some (.int .i64 art) ∧ w.cell? ⟨q, 1, none⟩ = some (.int .i64 left) ∧ w.cell? ⟨q, 2, none⟩ = some (.int .i64 sta) ∧ w.cell? ⟨q, 3, none⟩ = some (.bool asked)
theorem Pv.on {w w' : World} {q : Nat} {a l s : Int} {b : Bool} (h : Pv w q a l s b) (hb : Below w.heap.size w w') : Pv w' q a l s b :=
  ⟨(hb.cell (cell_lt h.1)).trans h.1, (hb.cell (cell_lt h.2.1)).trans h.2.1, (hb.cell (cell_lt h.2.2.1)).trans h.2.2.1, (hb.cell (cell_lt h.2.2.2)).trans h.2.2.2⟩

set_option maxRecDepth 100000 in
theorem new_ok (w : World) (a : Int) (h1 : 1 ≤ a) (h2 : a ≤ 1000) : Calls Tryd.prog 4 #[.int .i64 a] w fun e w' => e = .returned (.tuple #[.pointer (some ⟨w.heap.size, 0, none⟩), .nilIface]) ∧ Below w.heap.size w w' ∧ Pv w' w.heap.size a 0 1 false := by
  go_enter Tryd.func4, Tryd.ntmps4
  go_wp2
  all_goals first | (exfalso; omega) | skip
  refine bodyPost_ret (v := .tuple #[.pointer (some ⟨w.heap.size, 0, none⟩), .nilIface]) (by simp [results, Tryd.results4, go_sem]) rfl ⟨rfl, (Below.refl _ _).alloc (Nat.le_refl _) _, ?_⟩
  refine ⟨?_, ?_, ?_, ?_⟩ <;> simp

set_option maxRecDepth 100000 in
theorem new_no (w : World) (a : Int) (h : a < 1 ∨ 1000 < a) : Calls Tryd.prog 4 #[.int .i64 a] w fun e w' => ∃ v, e = .returned (.tuple #[.pointer none, v]) ∧ Below w.heap.size w w' ∧ PErr w' v (some (0, 180)) := by
  have hr := refusal_any 0 180
  go_enter Tryd.func4, Tryd.ntmps4
  go_wp2_with (go_at_call 15; refine (hr _).mono ?_; rintro x W ⟨v, rfl, hp, hb⟩)
  all_goals first | (exfalso; omega) | skip
  all_goals exact bodyPost_ret (v := .tuple #[.pointer none, v]) (by simp [results, Tryd.results4, go_sem]) rfl ⟨v, rfl, hb, hp⟩

/-- The document's provider, but for the request. -/
def Rv (w : World) (q : Nat) (art sta : Int) (asked timed : Bool) (left : Int) : Prop :=
  w.cell? ⟨q, 0, none⟩ = some (.int .i64 art) ∧ w.cell? ⟨q, 1, none⟩ = some (.int .i64 sta) ∧ w.cell? ⟨q, 2, none⟩ = some (.bool asked) ∧ w.cell? ⟨q, 3, none⟩ = some (.bool timed) ∧ w.cell? ⟨q, 4, none⟩ = some (.int .i64 left)
theorem Rv.on {w w' : World} {q : Nat} {a s l : Int} {b c : Bool} (h : Rv w q a s b c l) (hb : Below w.heap.size w w') : Rv w' q a s b c l :=
  ⟨(hb.cell (cell_lt h.1)).trans h.1, (hb.cell (cell_lt h.2.1)).trans h.2.1, (hb.cell (cell_lt h.2.2.1)).trans h.2.2.1, (hb.cell (cell_lt h.2.2.2.1)).trans h.2.2.2.1, (hb.cell (cell_lt h.2.2.2.2)).trans h.2.2.2.2⟩

theorem none0_any (w : World) : Calls Tryd.prog 17 #[] w fun e w' => e = .returned (.agg #[.slice none 0 0, .int .i64 0]) ∧ Below w.heap.size w w' := by
  go_enter Tryd.func17, Tryd.ntmps17
  go_wp2
  exact bodyPost_ret (v := .agg #[.slice none 0 0, .int .i64 0]) (by simp [results, Tryd.results17, go_sem]) rfl ⟨rfl, (Below.refl _ _).alloc (Nat.le_refl _) _⟩

set_option maxRecDepth 100000 in
theorem rnew_ok (w : World) (a : Int) (h1 : 1 ≤ a) (h2 : a ≤ 1000) : Calls Tryd.prog 5 #[.int .i64 a] w fun e w' => ∃ q, e = .returned (.tuple #[.pointer (some ⟨q, 0, none⟩), .agg #[.slice none 0 0, .int .i64 0]]) ∧ Below w.heap.size w w' ∧ Rv w' q a 1 false false 0 := by
  go_enter Tryd.func5, Tryd.ntmps5
  go_wp2_with (go_at_call 17; refine (none0_any _).mono ?_; rintro x W ⟨rfl, hb⟩; have z0 : W.cell? ⟨w.heap.size, 0, none⟩ = some (.slice none 0 0) := (hb.cell (p := ⟨w.heap.size, 0, none⟩) (by simp; omega)).trans (by simp); have z1 : W.cell? ⟨w.heap.size, 1, none⟩ = some (.int .i64 0) := (hb.cell (p := ⟨w.heap.size, 1, none⟩) (by simp; omega)).trans (by simp); have zf : ∀ i, W.frozen? ⟨w.heap.size, i, none⟩ = false := fun i => (hb.frozen (p := ⟨w.heap.size, i, none⟩) (by simp; omega)).trans (by simp))
  all_goals first | (exfalso; omega) | skip
  refine bodyPost_ret (v := .tuple #[.pointer (some ⟨w.heap.size + 1, 0, none⟩), .agg #[.slice none 0 0, .int .i64 0]]) (by simp [results, Tryd.results5, go_sem, z0, z1]) rfl ⟨w.heap.size + 1, rfl, ?_, ?_⟩
  · exact (((((Below.refl _ _).alloc (Nat.le_refl _) _).alloc (by simp) _).trans (hb.mono (by simp; omega))).setCell (p := ⟨w.heap.size, 0, none⟩) (Nat.le_refl _) _).setCell (p := ⟨w.heap.size, 1, none⟩) (Nat.le_refl _) _
  · refine ⟨?_, ?_, ?_, ?_, ?_⟩ <;> exact (cell_set_off (by omega)).trans ((cell_set_off (by omega)).trans ((hb.cell (by simp)).trans (by simp)))

set_option maxRecDepth 100000 in
theorem rnew_no (w : World) (a : Int) (h : a < 1 ∨ 1000 < a) : Calls Tryd.prog 5 #[.int .i64 a] w fun e w' => ∃ v, e = .returned (.tuple #[.pointer none, v]) ∧ Below w.heap.size w w' ∧ RErr w' v (some (0, 180)) := by
  go_enter Tryd.func5, Tryd.ntmps5
  go_wp2_with (go_at_call 16; refine (new0_any 180 0 _).mono ?_; rintro x W ⟨rfl, hb, h0, h1, h2⟩; have z0 : W.cell? ⟨w.heap.size, 0, none⟩ = some (.slice none 0 0) := (hb.cell (p := ⟨w.heap.size, 0, none⟩) (by simp)).trans (by simp); have z1 : W.cell? ⟨w.heap.size, 1, none⟩ = some (.int .i64 0) := (hb.cell (p := ⟨w.heap.size, 1, none⟩) (by simp)).trans (by simp); have zf : ∀ i, W.frozen? ⟨w.heap.size, i, none⟩ = false := fun i => (hb.frozen (p := ⟨w.heap.size, i, none⟩) (by simp)).trans (by simp))
  all_goals first | (exfalso; omega) | skip
  all_goals
    refine bodyPost_ret (v := .tuple #[.pointer none, .agg #[.slice (some ⟨w.heap.size + 1 + 1, 0, none⟩) 1 1, .int .i64 180]]) (by simp [results, Tryd.results5, go_sem, z0, z1]) rfl ⟨_, rfl, ?_, ?_⟩
    · exact ((((Below.refl _ _).alloc (Nat.le_refl _) _).trans (hb.mono (by simp))).setCell (p := ⟨w.heap.size, 0, none⟩) (Nat.le_refl _) _).setCell (p := ⟨w.heap.size, 1, none⟩) (Nat.le_refl _) _
    · refine ⟨w.heap.size + 1 + 1, 1, rfl, ?_, ?_⟩
      · exact (cell_set_off (by omega)).trans ((cell_set_off (by omega)).trans (by simpa using h0))
      · exact (cell_set_off (by omega)).trans ((cell_set_off (by omega)).trans (by simpa using h1))

theorem runs_any (w : World) (q : Nat) (l : Int) (h : w.cell? ⟨q, 1, none⟩ = some (.int .i64 l)) : Calls Tryd.prog 33 #[.pointer (some ⟨q, 0, none⟩)] w fun e w' => e = .returned (.bool (decide (0 < l))) ∧ w' = w := by
  go_enter Tryd.func33, Tryd.ntmps33
  go_wp2
  go_ret
  exact ⟨rfl, rfl⟩

set_option maxRecDepth 100000 in
set_option maxHeartbeats 4000000 in
theorem state_any (w : World) (q : Nat) (a l s : Int) (b : Bool) (h : Pv w q a l s b) : Calls Tryd.prog 12 #[.pointer (some ⟨q, 0, none⟩)] w fun e w' => e = .returned (.agg #[.int .i64 s, .bool b, .bool (decide (0 < l)), .int .i64 l]) ∧ Below w.heap.size w w' := by
  obtain ⟨h0, h1, h2, h3⟩ := h
  have hq : q < w.heap.size := cell_lt h0
  have hr := fun W (h : W.cell? ⟨q, 1, none⟩ = some (.int .i64 l)) => runs_any W q l h
  obtain ⟨W1, hW1⟩ : ∃ W1, w.alloc (.cells #[.int .i64 0, .bool false, .bool false, .int .i64 0] 55) = W1 := ⟨_, rfl⟩
  have hb1 : Below w.heap.size w W1 := hW1 ▸ (Below.refl _ _).alloc (Nat.le_refl _) _
  have g0 := (hb1.cell (p := ⟨q, 0, none⟩) hq).trans h0
  have g1 := (hb1.cell (p := ⟨q, 1, none⟩) hq).trans h1
  have g2 := (hb1.cell (p := ⟨q, 2, none⟩) hq).trans h2
  have g3 := (hb1.cell (p := ⟨q, 3, none⟩) hq).trans h3
  have z0 : W1.cell? ⟨w.heap.size, 0, none⟩ = some (.int .i64 0) := by rw [← hW1]; simp
  have z1 : W1.cell? ⟨w.heap.size, 1, none⟩ = some (.bool false) := by rw [← hW1]; simp
  have z2 : W1.cell? ⟨w.heap.size, 2, none⟩ = some (.bool false) := by rw [← hW1]; simp
  have z3 : W1.cell? ⟨w.heap.size, 3, none⟩ = some (.int .i64 0) := by rw [← hW1]; simp
  have zf : ∀ i, W1.frozen? ⟨w.heap.size, i, none⟩ = false := fun i => by rw [← hW1]; simp
  go_enter Tryd.func12, Tryd.ntmps12
  go_wp2
  clear hW1 h0 h1 h2 h3
  go_region_with (go_at_call 33; refine (hr _ (by simpa using g1)).mono ?_; rintro x W ⟨rfl, rfl⟩)
  all_goals
    go_wp2
    exact bodyPost_ret (v := .agg #[.int .i64 s, .bool b, .bool (decide (0 < l)), .int .i64 l]) (by simp [results, Tryd.results12, go_sem, z0, z1, z2, z3]) rfl ⟨rfl, ((((hb1.setCell (p := ⟨w.heap.size, 0, none⟩) (Nat.le_refl _) _).setCell (p := ⟨w.heap.size, 1, none⟩) (Nat.le_refl _) _).setCell (p := ⟨w.heap.size, 2, none⟩) (Nat.le_refl _) _).setCell (p := ⟨w.heap.size, 3, none⟩) (Nat.le_refl _) _).drew⟩
end Go.Proofs.YtiieikdbhpflgabDoor

/-
  DERIVED. What each row of the table of actions does, in one form.
-/
namespace Go.Proofs.YtiieikdbhpflgabDoor
open Go Go.Proofs Go.RowKit

/-- An act that is told. -/
structure AcD where
  x : Int
  y : Int
  k : Int
  c : Fin 18 → Value
  D : PdD
/-- The same fields, the lists aside. -/
def SameC (c c' : Fin 18 → Value) : Prop := ∀ i, i ≠ 4 → i ≠ 12 → i ≠ 13 → i ≠ 17 → c' i = c i
theorem SameC.refl (c : Fin 18 → Value) : SameC c c := fun _ _ _ _ _ => rfl
theorem SameC.trans {a b c : Fin 18 → Value} (h : SameC a b) (h2 : SameC b c) : SameC a c := fun i h4 h12 h13 h17 => (h2 i h4 h12 h13 h17).trans (h i h4 h12 h13 h17)
/-- These acts lie there, in memory from B on. -/
def AR (B : Nat) (W : World) (v : Value) : List AcD → Prop
  | [] => v = .slice none 0 0
  | [a] => ∃ g c', v = .slice (some ⟨g, 0, none⟩) 1 1 ∧ B ≤ g ∧ W.heap[g]? = some (.cells (Ac a.x a.y a.k c') 61) ∧ OX B W c' a.D ∧ SameC a.c c' ∧ (a.x = 1 → c' = zc)
  | [a, b] => ∃ g c', v = .slice (some ⟨g, 0, none⟩) 2 2 ∧ B ≤ g ∧ W.heap[g]? = some (.cells (Ac a.x a.y a.k c' ++ Ac b.x b.y 0 zc) 61) ∧ OX B W c' a.D ∧ SameC a.c c'
  | _ => False
theorem AR.keep {B : Nat} {W W' : World} {v : Value} : ∀ {L : List AcD}, AR B W v L → (∀ b, B ≤ b → b < W.heap.size → W'.heap[b]? = W.heap[b]?) → AR B W' v L
  | [], h, _ => h
  | [_], ⟨g, c', h1, h2, h3, h4, h5, h6⟩, hk => ⟨g, c', h1, h2, (hk g h2 (Array.getElem?_eq_some_iff.1 h3).1).trans h3, h4.keep hk, h5, h6⟩
  | [_, _], ⟨g, c', h1, h2, h3, h4, h5⟩, hk => ⟨g, c', h1, h2, (hk g h2 (Array.getElem?_eq_some_iff.1 h3).1).trans h3, h4.keep hk, h5⟩
  | _ :: _ :: _ :: _, h, _ => h.elim
theorem AR.low {B B' : Nat} {W : World} {v : Value} : ∀ {L : List AcD}, AR B W v L → B' ≤ B → AR B' W v L
  | [], h, _ => h
  | [_], ⟨g, c', h1, h2, h3, h4, h5, h6⟩, hk => ⟨g, c', h1, Nat.le_trans hk h2, h3, h4.low hk, h5, h6⟩
  | [_, _], ⟨g, c', h1, h2, h3, h4, h5⟩, hk => ⟨g, c', h1, Nat.le_trans hk h2, h3, h4.low hk, h5⟩
  | _ :: _ :: _ :: _, h, _ => h.elim
/-- A PDU as plain data. -/
structure KpD where
  k : Int
  c : Fin 18 → Value
  D : PdD
  F : Nat → Prop
def noPdu : KpD := ⟨0, zc, D0, fun _ => False⟩
/-- An event as plain data. -/
structure EvD where
  kd : Int
  p : KpD
  bad : Bool
  a : KpD
  rs : Nat
  s : Nat
/-- An event lies there. -/
structure EvY (w : World) (EV : Array Value) (d : EvD) : Prop where
  ev : EvX w EV d.kd d.p.k d.p.c d.p.D d.a.k d.a.c d.a.D
  bad : EV[20]? = some (.bool d.bad)
  rs : EV[40]? = some (.int .u8 (d.rs : Int))
  s : d.p.c 15 = .int .u8 (d.s : Int)
  fr : ∀ b, w.heap.size ≤ b → d.p.F b
theorem EvX.on {w w' : World} {EV : Array Value} {kd k1 k2 : Int} {c1 c2 : Fin 18 → Value} {D1 D2 : PdD} (h : EvX w EV kd k1 c1 D1 k2 c2 D2) (hb : Below w.heap.size w w') : EvX w' EV kd k1 c1 D1 k2 c2 D2 :=
  ⟨h.sz, h.kd, h.one, h.pdu, h.ans, h.r1.on hb, h.r2.on hb⟩
theorem EvY.on {w w' : World} {EV : Array Value} {d : EvD} (h : EvY w EV d) (hb : Below w.heap.size w w') : EvY w' EV d := ⟨h.ev.on hb, h.bad, h.rs, h.s, fun b hb2 => h.fr b (Nat.le_trans hb.size hb2)⟩
def shA : AcD := ⟨4, 0, 0, zc, D0⟩
/-- What the function f does. -/
def doesL (f : Nat) (t : Int) (K : KpD) (d : EvD) : List AcD :=
  if f = 51 then [⟨1, 0, 0, zc, D0⟩] else if f = 52 then [⟨3, 0, K.k, K.c, K.D⟩] else if f = 53 then [⟨5, t, d.p.k, d.p.c, d.p.D⟩] else if f = 54 then [⟨5, t, d.p.k, d.p.c, d.p.D⟩, shA]
  else if f = 55 then [⟨2, 0, 0, zc, D0⟩] else if f = 56 then [⟨3, 0, d.a.k, d.a.c, d.a.D⟩] else if f = 57 then [⟨3, 0, d.p.k, d.p.c, d.p.D⟩] else if f = 58 then [⟨3, 0, 5, zc, D0⟩]
  else if f = 59 then [⟨5, t, 0, zc, D0⟩] else if f = 60 then [⟨5, t, 0, zc, D0⟩, shA] else if f = 61 then [⟨3, 0, 6, zc, D0⟩] else if f = 62 then [] else if f = 63 then [⟨3, 0, 7, zc, D0⟩]
  else if f = 64 then [shA] else if f = 65 then [⟨5, if d.s = 0 then 7 else 8, d.p.k, d.p.c, d.p.D⟩, shA] else if f = 66 then [⟨3, 0, 7, abC (if d.kd = 19 then d.rs else 2), D0⟩]
  else if f = 67 then [⟨3, 0, 7, abC (if d.kd = 19 then d.rs else 2), D0⟩, ⟨5, t, 0, zc, D0⟩] else []
/-- The PDU that is kept behind it. -/
def keptA (f : Nat) (K : KpD) (d : EvD) : KpD := if f = 51 then d.p else if f = 52 then noPdu else K
def DoesP (f : Nat) (t : Int) (w : World) (p : Nat) (PV : Array Value) (K : KpD) (d : EvD) (x : Ending) (w' : World) : Prop :=
  ∃ v PV' c', x = .returned v ∧ AR w.heap.size w' v (doesL f t K d) ∧ PvX w' p PV' (keptA f K d).k c' (keptA f K d).D (keptA f K d).F ∧ SameC (keptA f K d).c c' ∧ (∀ j, j < 3 → PV'[j]? = PV[j]?) ∧ PV'[3]? = (if f = 51 then some (.bool true) else PV[3]?) ∧ BelBut p w w'
theorem does_one {f : Nat} {t : Int} {w : World} {p : Nat} {PV : Array Value} {K : KpD} {c0 : Fin 18 → Value} {d : EvD} {x y k : Int} {c : Fin 18 → Value} {D : PdD} (hP : PvX w p PV K.k c0 K.D K.F) (hc0 : SameC K.c c0) (h5 : f ≠ 51) (h6 : f ≠ 52) (hx : x ≠ 1) (hL : doesL f t K d = [⟨x, y, k, c, D⟩]) {e : Ending} {w' : World} (h : Act1 w x y k c D e w') : DoesP f t w p PV K d e w' := by
  obtain ⟨v, c', he, ⟨g, hv, hg, hh⟩, ho, hs, hb⟩ := h
  refine ⟨v, PV, c0, he, ?_, ?_, ?_, fun _ _ => rfl, by rw [if_neg h5], .of hb⟩
  · rw [hL]; exact ⟨g, c', hv, hg, hh, ho, hs, fun h => absurd h hx⟩
  · rw [keptA, if_neg h5, if_neg h6]; exact hP.on hb
  · rw [keptA, if_neg h5, if_neg h6]; exact hc0
theorem does_two {f : Nat} {t : Int} {w : World} {p : Nat} {PV : Array Value} {K : KpD} {c0 : Fin 18 → Value} {d : EvD} {x y k x2 y2 : Int} {c : Fin 18 → Value} {D : PdD} (hP : PvX w p PV K.k c0 K.D K.F) (hc0 : SameC K.c c0) (h5 : f ≠ 51) (h6 : f ≠ 52) (hL : doesL f t K d = [⟨x, y, k, c, D⟩, ⟨x2, y2, 0, zc, D0⟩]) {e : Ending} {w' : World} (h : Act2 w x y k c D x2 y2 e w') : DoesP f t w p PV K d e w' := by
  obtain ⟨g, c', he, hg, hh, ho, hs, hb⟩ := h
  refine ⟨_, PV, c0, he, ?_, ?_, ?_, fun _ _ => rfl, by rw [if_neg h5], .of hb⟩
  · rw [hL]; exact ⟨g, c', rfl, hg, hh, ho, hs⟩
  · rw [keptA, if_neg h5, if_neg h6]; exact hP.on hb
  · rw [keptA, if_neg h5, if_neg h6]; exact hc0
/-- The functions of the table. -/
def FnOk (f : Nat) : Prop := 51 ≤ f ∧ f ≤ 67
theorem does_any {w : World} {p e : Nat} {PV EV : Array Value} {K : KpD} {c0 : Fin 18 → Value} {d : EvD} (f : Fin 17) (t : Int) (hP : PvX w p PV K.k c0 K.D K.F) (hc0 : SameC K.c c0) (ha : ∃ b, PV[3]? = some (.bool b)) (he : w.heap[e]? = some (.cells EV 48)) (hE : EvY w EV d) :
    Calls Tryd.prog (f.val + 51) #[.pointer (some ⟨p, 0, none⟩), .pointer (some ⟨e, 0, none⟩), .int .i64 t] w (DoesP (f.val + 51) t w p PV K d) := by
  match f with
  | ⟨0, _⟩ =>
    refine (connect_any w p e (.int .i64 t) PV EV _ _ _ _ _ _ _ _ _ _ _ d.p.F hE.fr hP ha he hE.ev).mono ?_
    rintro x w' ⟨v, PV', c', rfl, ⟨g, hv, hg, hh⟩, h1, h2, h3, h4, h5, h6⟩
    exact ⟨v, PV', c', rfl, ⟨g, zc, hv, hg, hh, ox_zero _ _ _ zc_one rfl rfl rfl rfl, .refl _, fun _ => rfl⟩, h1, h5, h3, h2, h6⟩
  | ⟨1, _⟩ =>
    refine (sendKept_any w p (.pointer (some ⟨e, 0, none⟩)) (.int .i64 t) PV _ _ _ _ hP).mono ?_
    rintro x w' ⟨v, PV', c', rfl, ⟨g, hv, hg, hh⟩, h1, h3, h4, h5, h6⟩
    exact ⟨v, PV', zc, rfl, ⟨g, c', hv, hg, hh, h4, hc0.trans h5, fun h => absurd h (show (3 : Int) ≠ 1 by decide)⟩, h1, .refl _, fun j hj => h3 j (by omega), h3 3 (by omega), h6⟩
  | ⟨2, _⟩ => exact (tellPdu_any w _ e t EV _ _ _ _ _ _ _ he hE.ev).mono fun _ _ h => does_one hP hc0 (Nat.ne_of_beq_eq_false rfl) (Nat.ne_of_beq_eq_false rfl) (by decide) rfl h
  | ⟨3, _⟩ => exact (tellPduAndShut_any w _ e t EV _ _ _ _ _ _ _ he hE.ev).mono fun _ _ h => does_two hP hc0 (Nat.ne_of_beq_eq_false rfl) (Nat.ne_of_beq_eq_false rfl) rfl h
  | ⟨4, _⟩ => exact (answerX_any w _ _ _).mono fun _ _ h => does_one hP hc0 (Nat.ne_of_beq_eq_false rfl) (Nat.ne_of_beq_eq_false rfl) (by decide) rfl h
  | ⟨5, _⟩ => exact (sendAnswer_any w _ e _ EV _ _ _ _ _ _ _ he hE.ev).mono fun _ _ h => does_one hP hc0 (Nat.ne_of_beq_eq_false rfl) (Nat.ne_of_beq_eq_false rfl) (by decide) rfl h
  | ⟨6, _⟩ => exact (sendPdu_any w _ e _ EV _ _ _ _ _ _ _ he hE.ev).mono fun _ _ h => does_one hP hc0 (Nat.ne_of_beq_eq_false rfl) (Nat.ne_of_beq_eq_false rfl) (by decide) rfl h
  | ⟨7, _⟩ => exact (askForEnd_any w _ _ _).mono fun _ _ h => does_one hP hc0 (Nat.ne_of_beq_eq_false rfl) (Nat.ne_of_beq_eq_false rfl) (by decide) rfl h
  | ⟨8, _⟩ => exact (tell_any w _ _ t).mono fun _ _ h => does_one hP hc0 (Nat.ne_of_beq_eq_false rfl) (Nat.ne_of_beq_eq_false rfl) (by decide) rfl h
  | ⟨9, _⟩ => exact (tellAndShut_any w _ _ t).mono fun _ _ h => does_two hP hc0 (Nat.ne_of_beq_eq_false rfl) (Nat.ne_of_beq_eq_false rfl) rfl h
  | ⟨10, _⟩ => exact (agreeToEnd_any w _ _ _).mono fun _ _ h => does_one hP hc0 (Nat.ne_of_beq_eq_false rfl) (Nat.ne_of_beq_eq_false rfl) (by decide) rfl h
  | ⟨11, _⟩ =>
    refine (nothing_any w _ _ _).mono ?_
    rintro x w' ⟨rfl, rfl⟩
    exact ⟨_, PV, c0, rfl, rfl, hP, hc0, fun _ _ => rfl, rfl, .of (Below.refl _ _)⟩
  | ⟨12, _⟩ => exact (abortForUser_any w _ _ _).mono fun _ _ h => does_one hP hc0 (Nat.ne_of_beq_eq_false rfl) (Nat.ne_of_beq_eq_false rfl) (by decide) rfl h
  | ⟨13, _⟩ => exact (shut_any w _ _ _).mono fun _ _ h => does_one hP hc0 (Nat.ne_of_beq_eq_false rfl) (Nat.ne_of_beq_eq_false rfl) (by decide) rfl h
  | ⟨14, _⟩ => exact (tellAbort_any w _ e _ EV _ _ _ _ _ _ _ _ he hE.ev hE.s).mono fun _ _ h => does_two hP hc0 (Nat.ne_of_beq_eq_false rfl) (Nat.ne_of_beq_eq_false rfl) rfl h
  | ⟨15, _⟩ => exact (abort_any w _ _ e EV _ _ he hE.ev.kd hE.rs).mono fun _ _ h => does_one hP hc0 (Nat.ne_of_beq_eq_false rfl) (Nat.ne_of_beq_eq_false rfl) (by decide) rfl h
  | ⟨16, _⟩ => exact (abortAndTell_any w _ t e EV _ _ he hE.ev.kd hE.rs).mono fun _ _ h => does_two hP hc0 (Nat.ne_of_beq_eq_false rfl) (Nat.ne_of_beq_eq_false rfl) rfl h
  | ⟨n + 17, h⟩ => exact absurd h (by omega)
end Go.Proofs.YtiieikdbhpflgabDoor
