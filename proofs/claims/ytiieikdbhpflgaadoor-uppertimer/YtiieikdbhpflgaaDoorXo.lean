import Derived.Test.YtiieikdbhpflgaaDoorXn
import Derived.Test.YtiieikdbhpflgaaDoorF
import Derived.Test.YtiieikdbhpflgaaDoorH
/-
  DERIVED. What each row of the table of actions does, in one form.
-/
namespace Go.Proofs.YtiieikdbhpflgaaDoor
open Go Go.Proofs Go.RowKit

/-- An act that is told. -/
structure AcD where
  x : Int
  y : Int
  k : Int
  c : Fin 18 → Value
  D : PdD
/-- The same fields, the lists aside. -/
def SameC (c c' : Fin 18 → Value) : Prop := ∀ i, i ≠ 4 → i ≠ 12 → i ≠ 13 → i ≠ 17 → c' i = c i
theorem SameC.refl (c : Fin 18 → Value) : SameC c c := fun _ _ _ _ _ => rfl
theorem SameC.trans {a b c : Fin 18 → Value} (h : SameC a b) (h2 : SameC b c) : SameC a c := fun i h4 h12 h13 h17 => (h2 i h4 h12 h13 h17).trans (h i h4 h12 h13 h17)
/-- These acts lie there, in memory from B on. -/
def AR (B : Nat) (W : World) (v : Value) : List AcD → Prop
  | [] => v = .slice none 0 0
  | [a] => ∃ g c', v = .slice (some ⟨g, 0, none⟩) 1 1 ∧ B ≤ g ∧ W.heap[g]? = some (.cells (Ac a.x a.y a.k c') 57) ∧ OX B W c' a.D ∧ SameC a.c c'
  | [a, b] => ∃ g c', v = .slice (some ⟨g, 0, none⟩) 2 2 ∧ B ≤ g ∧ W.heap[g]? = some (.cells (Ac a.x a.y a.k c' ++ Ac b.x b.y 0 zc) 57) ∧ OX B W c' a.D ∧ SameC a.c c'
  | _ => False
theorem AR.keep {B : Nat} {W W' : World} {v : Value} : ∀ {L : List AcD}, AR B W v L → (∀ b, B ≤ b → b < W.heap.size → W'.heap[b]? = W.heap[b]?) → AR B W' v L
  | [], h, _ => h
  | [_], ⟨g, c', h1, h2, h3, h4, h5⟩, hk => ⟨g, c', h1, h2, (hk g h2 (Array.getElem?_eq_some_iff.1 h3).1).trans h3, h4.keep hk, h5⟩
  | [_, _], ⟨g, c', h1, h2, h3, h4, h5⟩, hk => ⟨g, c', h1, h2, (hk g h2 (Array.getElem?_eq_some_iff.1 h3).1).trans h3, h4.keep hk, h5⟩
  | _ :: _ :: _ :: _, h, _ => h.elim
theorem AR.low {B B' : Nat} {W : World} {v : Value} : ∀ {L : List AcD}, AR B W v L → B' ≤ B → AR B' W v L
  | [], h, _ => h
  | [_], ⟨g, c', h1, h2, h3, h4, h5⟩, hk => ⟨g, c', h1, Nat.le_trans hk h2, h3, h4.low hk, h5⟩
  | [_, _], ⟨g, c', h1, h2, h3, h4, h5⟩, hk => ⟨g, c', h1, Nat.le_trans hk h2, h3, h4.low hk, h5⟩
  | _ :: _ :: _ :: _, h, _ => h.elim
/-- A PDU as plain data. -/
structure KpD where
  k : Int
  c : Fin 18 → Value
  D : PdD
def noPdu : KpD := ⟨0, zc, D0⟩
/-- An event as plain data. -/
structure EvD where
  kd : Int
  p : KpD
  bad : Bool
  a : KpD
  rs : Nat
  s : Nat
/-- An event lies there. -/
structure EvY (w : World) (EV : Array Value) (d : EvD) : Prop where
  ev : EvX w EV d.kd d.p.k d.p.c d.p.D d.a.k d.a.c d.a.D
  bad : EV[20]? = some (.bool d.bad)
  rs : EV[40]? = some (.int .u8 (d.rs : Int))
  s : d.p.c 15 = .int .u8 (d.s : Int)
theorem EvX.on {w w' : World} {EV : Array Value} {kd k1 k2 : Int} {c1 c2 : Fin 18 → Value} {D1 D2 : PdD} (h : EvX w EV kd k1 c1 D1 k2 c2 D2) (hb : Below w.heap.size w w') : EvX w' EV kd k1 c1 D1 k2 c2 D2 :=
  ⟨h.sz, h.kd, h.one, h.pdu, h.ans, h.r1.on hb, h.r2.on hb⟩
theorem EvY.on {w w' : World} {EV : Array Value} {d : EvD} (h : EvY w EV d) (hb : Below w.heap.size w w') : EvY w' EV d := ⟨h.ev.on hb, h.bad, h.rs, h.s⟩
def shA : AcD := ⟨4, 0, 0, zc, D0⟩
/-- What the function f does. -/
def doesL (f : Nat) (t : Int) (K : KpD) (d : EvD) : List AcD :=
  if f = 65 then [⟨1, 0, 0, zc, D0⟩] else if f = 66 then [⟨3, 0, K.k, K.c, K.D⟩] else if f = 67 then [⟨5, t, d.p.k, d.p.c, d.p.D⟩] else if f = 68 then [⟨5, t, d.p.k, d.p.c, d.p.D⟩, shA]
  else if f = 69 then [⟨2, 0, 0, zc, D0⟩] else if f = 70 then [⟨3, 0, d.a.k, d.a.c, d.a.D⟩] else if f = 71 then [⟨3, 0, d.p.k, d.p.c, d.p.D⟩] else if f = 72 then [⟨3, 0, 5, zc, D0⟩]
  else if f = 73 then [⟨5, t, 0, zc, D0⟩] else if f = 74 then [⟨5, t, 0, zc, D0⟩, shA] else if f = 75 then [⟨3, 0, 6, zc, D0⟩] else if f = 76 then [] else if f = 77 then [⟨3, 0, 7, zc, D0⟩]
  else if f = 78 then [shA] else if f = 79 then [⟨5, if d.s = 0 then 7 else 8, d.p.k, d.p.c, d.p.D⟩, shA] else if f = 80 then [⟨3, 0, 7, abC (if d.kd = 19 then d.rs else 2), D0⟩]
  else if f = 81 then [⟨3, 0, 7, abC (if d.kd = 19 then d.rs else 2), D0⟩, ⟨5, t, 0, zc, D0⟩] else []
/-- The PDU that is kept behind it. -/
def keptA (f : Nat) (K : KpD) (d : EvD) : KpD := if f = 65 then d.p else if f = 66 then noPdu else K
def DoesP (f : Nat) (t : Int) (w : World) (p : Nat) (PV : Array Value) (K : KpD) (d : EvD) (x : Ending) (w' : World) : Prop :=
  ∃ v PV' c', x = .returned v ∧ AR w.heap.size w' v (doesL f t K d) ∧ PvX w' p PV' (keptA f K d).k c' (keptA f K d).D ∧ SameC (keptA f K d).c c' ∧ (∀ j, j < 3 → PV'[j]? = PV[j]?) ∧ PV'[3]? = (if f = 65 then some (.bool true) else PV[3]?) ∧ BelBut p w w'
theorem does_one {f : Nat} {t : Int} {w : World} {p : Nat} {PV : Array Value} {K : KpD} {c0 : Fin 18 → Value} {d : EvD} {x y k : Int} {c : Fin 18 → Value} {D : PdD} (hP : PvX w p PV K.k c0 K.D) (hc0 : SameC K.c c0) (h5 : f ≠ 65) (h6 : f ≠ 66) (hL : doesL f t K d = [⟨x, y, k, c, D⟩]) {e : Ending} {w' : World} (h : Act1 w x y k c D e w') : DoesP f t w p PV K d e w' := by
  obtain ⟨v, c', he, ⟨g, hv, hg, hh⟩, ho, hs, hb⟩ := h
  refine ⟨v, PV, c0, he, ?_, ?_, ?_, fun _ _ => rfl, by rw [if_neg h5], .of hb⟩
  · rw [hL]; exact ⟨g, c', hv, hg, hh, ho, hs⟩
  · rw [keptA, if_neg h5, if_neg h6]; exact hP.on hb
  · rw [keptA, if_neg h5, if_neg h6]; exact hc0
theorem does_two {f : Nat} {t : Int} {w : World} {p : Nat} {PV : Array Value} {K : KpD} {c0 : Fin 18 → Value} {d : EvD} {x y k x2 y2 : Int} {c : Fin 18 → Value} {D : PdD} (hP : PvX w p PV K.k c0 K.D) (hc0 : SameC K.c c0) (h5 : f ≠ 65) (h6 : f ≠ 66) (hL : doesL f t K d = [⟨x, y, k, c, D⟩, ⟨x2, y2, 0, zc, D0⟩]) {e : Ending} {w' : World} (h : Act2 w x y k c D x2 y2 e w') : DoesP f t w p PV K d e w' := by
  obtain ⟨g, c', he, hg, hh, ho, hs, hb⟩ := h
  refine ⟨_, PV, c0, he, ?_, ?_, ?_, fun _ _ => rfl, by rw [if_neg h5], .of hb⟩
  · rw [hL]; exact ⟨g, c', rfl, hg, hh, ho, hs⟩
  · rw [keptA, if_neg h5, if_neg h6]; exact hP.on hb
  · rw [keptA, if_neg h5, if_neg h6]; exact hc0
/-- The functions of the table. -/
def FnOk (f : Nat) : Prop := 65 ≤ f ∧ f ≤ 81
theorem does_any {w : World} {p e : Nat} {PV EV : Array Value} {K : KpD} {c0 : Fin 18 → Value} {d : EvD} (f : Fin 17) (t : Int) (hP : PvX w p PV K.k c0 K.D) (hc0 : SameC K.c c0) (ha : ∃ b, PV[3]? = some (.bool b)) (he : w.heap[e]? = some (.cells EV 50)) (hE : EvY w EV d) :
    Calls Tryd.prog (f.val + 65) #[.pointer (some ⟨p, 0, none⟩), .pointer (some ⟨e, 0, none⟩), .int .i64 t] w (DoesP (f.val + 65) t w p PV K d) := by
  match f with
  | ⟨0, _⟩ =>
    refine (connect_any w p e (.int .i64 t) PV EV _ _ _ _ _ _ _ _ _ _ hP ha he hE.ev).mono ?_
    rintro x w' ⟨v, PV', c', rfl, ⟨g, hv, hg, hh⟩, h1, h2, h3, h4, h5, h6⟩
    exact ⟨v, PV', c', rfl, ⟨g, zc, hv, hg, hh, ox_zero _ _ _ zc_one rfl rfl rfl rfl, .refl _⟩, h1, h5, h3, h2, h6⟩
  | ⟨1, _⟩ =>
    refine (sendKept_any w p (.pointer (some ⟨e, 0, none⟩)) (.int .i64 t) PV _ _ _ hP).mono ?_
    rintro x w' ⟨v, PV', c', rfl, ⟨g, hv, hg, hh⟩, h1, h3, h4, h5, h6⟩
    exact ⟨v, PV', zc, rfl, ⟨g, c', hv, hg, hh, h4, hc0.trans h5⟩, h1, .refl _, fun j hj => h3 j (by omega), h3 3 (by omega), h6⟩
  | ⟨2, _⟩ => exact (tellPdu_any w _ e t EV _ _ _ _ _ _ _ he hE.ev).mono fun _ _ h => does_one hP hc0 (Nat.ne_of_beq_eq_false rfl) (Nat.ne_of_beq_eq_false rfl) rfl h
  | ⟨3, _⟩ => exact (tellPduAndShut_any w _ e t EV _ _ _ _ _ _ _ he hE.ev).mono fun _ _ h => does_two hP hc0 (Nat.ne_of_beq_eq_false rfl) (Nat.ne_of_beq_eq_false rfl) rfl h
  | ⟨4, _⟩ => exact (answerX_any w _ _ _).mono fun _ _ h => does_one hP hc0 (Nat.ne_of_beq_eq_false rfl) (Nat.ne_of_beq_eq_false rfl) rfl h
  | ⟨5, _⟩ => exact (sendAnswer_any w _ e _ EV _ _ _ _ _ _ _ he hE.ev).mono fun _ _ h => does_one hP hc0 (Nat.ne_of_beq_eq_false rfl) (Nat.ne_of_beq_eq_false rfl) rfl h
  | ⟨6, _⟩ => exact (sendPdu_any w _ e _ EV _ _ _ _ _ _ _ he hE.ev).mono fun _ _ h => does_one hP hc0 (Nat.ne_of_beq_eq_false rfl) (Nat.ne_of_beq_eq_false rfl) rfl h
  | ⟨7, _⟩ => exact (askForEnd_any w _ _ _).mono fun _ _ h => does_one hP hc0 (Nat.ne_of_beq_eq_false rfl) (Nat.ne_of_beq_eq_false rfl) rfl h
  | ⟨8, _⟩ => exact (tell_any w _ _ t).mono fun _ _ h => does_one hP hc0 (Nat.ne_of_beq_eq_false rfl) (Nat.ne_of_beq_eq_false rfl) rfl h
  | ⟨9, _⟩ => exact (tellAndShut_any w _ _ t).mono fun _ _ h => does_two hP hc0 (Nat.ne_of_beq_eq_false rfl) (Nat.ne_of_beq_eq_false rfl) rfl h
  | ⟨10, _⟩ => exact (agreeToEnd_any w _ _ _).mono fun _ _ h => does_one hP hc0 (Nat.ne_of_beq_eq_false rfl) (Nat.ne_of_beq_eq_false rfl) rfl h
  | ⟨11, _⟩ =>
    refine (nothing_any w _ _ _).mono ?_
    rintro x w' ⟨rfl, rfl⟩
    exact ⟨_, PV, c0, rfl, rfl, hP, hc0, fun _ _ => rfl, rfl, .of (Below.refl _ _)⟩
  | ⟨12, _⟩ => exact (abortForUser_any w _ _ _).mono fun _ _ h => does_one hP hc0 (Nat.ne_of_beq_eq_false rfl) (Nat.ne_of_beq_eq_false rfl) rfl h
  | ⟨13, _⟩ => exact (shut_any w _ _ _).mono fun _ _ h => does_one hP hc0 (Nat.ne_of_beq_eq_false rfl) (Nat.ne_of_beq_eq_false rfl) rfl h
  | ⟨14, _⟩ => exact (tellAbort_any w _ e _ EV _ _ _ _ _ _ _ _ he hE.ev hE.s).mono fun _ _ h => does_two hP hc0 (Nat.ne_of_beq_eq_false rfl) (Nat.ne_of_beq_eq_false rfl) rfl h
  | ⟨15, _⟩ => exact (abort_any w _ _ e EV _ _ he hE.ev.kd hE.rs).mono fun _ _ h => does_one hP hc0 (Nat.ne_of_beq_eq_false rfl) (Nat.ne_of_beq_eq_false rfl) rfl h
  | ⟨16, _⟩ => exact (abortAndTell_any w _ t e EV _ _ he hE.ev.kd hE.rs).mono fun _ _ h => does_two hP hc0 (Nat.ne_of_beq_eq_false rfl) (Nat.ne_of_beq_eq_false rfl) rfl h
  | ⟨n + 17, h⟩ => exact absurd h (by omega)
end Go.Proofs.YtiieikdbhpflgaaDoor
