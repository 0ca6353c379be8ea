import Derived.Test.YtiieikdbhpflgabDoorXr
import Derived.Test.YtiieikdbhpflgabDoorM
import Derived.Test.YtiieikdbhpflgabDoorRows
import Derived.Deep.MidRow
import Derived.ChangeArms
import Derived.SizedLaws
import Derived.OpenShut
/-
  DERIVED. The timer runs in two states alone: of the plain machine.
-/
namespace Go.Proofs.YtiieikdbhpflgabDoor
open Go Go.Proofs Go.RowKit

/-- The timer runs in these. -/
def Td (s : Int) : Prop := s = 2 ∨ s = 13
instance (s : Int) : Decidable (Td s) := by unfold Td; infer_instance
structure InvS (a : Int) (S : Prov) : Prop where
  art : S.art = a
  lo : 1 ≤ S.sta
  hi : S.sta ≤ 13
  on : Td S.sta → 1 ≤ S.left ∧ S.left ≤ a
  off : ¬ Td S.sta → S.left = 0
def tblOk (s e : Nat) (asked bad : Bool) : Bool :=
  tbL.getD (e * 13 + s) 0 == 0 || (decide (1 ≤ thenA (whichA (tbL.getD (e * 13 + s) 0) asked bad)) && decide (thenA (whichA (tbL.getD (e * 13 + s) 0) asked bad) ≤ 13) &&
    (if Td (thenA (whichA (tbL.getD (e * 13 + s) 0) asked bad)) then decide (timerA (whichA (tbL.getD (e * 13 + s) 0) asked bad) = 1 ∨ (timerA (whichA (tbL.getD (e * 13 + s) 0) asked bad) = 0 ∧ Td ((s + 1 : Nat) : Int))) else decide (timerA (whichA (tbL.getD (e * 13 + s) 0) asked bad) = 2 ∨ (timerA (whichA (tbL.getD (e * 13 + s) 0) asked bad) = 0 ∧ ¬ Td ((s + 1 : Nat) : Int)))))
theorem tbl_all : ∀ (s : Fin 13) (e : Fin 19) (x y : Bool), tblOk s.val e.val x y = true := by decide +kernel
theorem tbl_in {s e : Int} {x y : Bool} (h : actP s e ≠ 0) :
    let r := whichA (actP s e).toNat x y
    1 ≤ thenA r ∧ thenA r ≤ 13 ∧ (Td (thenA r) → timerA r = 1 ∨ (timerA r = 0 ∧ Td s)) ∧ (¬ Td (thenA r) → timerA r = 2 ∨ (timerA r = 0 ∧ ¬ Td s)) := by
  obtain ⟨e1, e2, s1, s2⟩ := actP_in h
  have hv : actP s e = ((tbL.getD ((e - 1).toNat * 13 + (s - 1).toNat) 0 : Nat) : Int) := by
    unfold actP; rw [if_neg (by omega)]
  have ht := tbl_all ⟨(s - 1).toNat, by omega⟩ ⟨(e - 1).toNat, by omega⟩ x y
  unfold tblOk at ht
  have hs : (((s - 1).toNat + 1 : Nat) : Int) = s := by omega
  rw [hs] at ht
  rw [hv] at h ⊢
  rw [Int.toNat_natCast]
  generalize tbL.getD ((e - 1).toNat * 13 + (s - 1).toNat) 0 = n at ht h ⊢
  have hn : (n == 0) = false := by simp; omega
  rw [hn, Bool.false_or] at ht
  simp only [Bool.and_eq_true, decide_eq_true_eq] at ht
  obtain ⟨⟨h1, h2⟩, h3⟩ := ht
  refine ⟨h1, h2, fun ht => ?_, fun ht => ?_⟩
  · rw [if_pos ht] at h3; simpa using h3
  · rw [if_neg ht] at h3; simpa using h3
theorem inv_ev {a : Int} {S : Prov} (d : EvD) (ha : 1 ≤ a) (h : InvS a S) : InvS a (evS S d).1 := by
  unfold evS
  by_cases h0 : actP S.sta d.kd = 0
  · rw [if_pos (.inl h0)]; exact h
  · by_cases h1 : complB d.kd d.p.k d.bad d.a.k = false
    · rw [if_pos (.inr h1)]; exact h
    · rw [if_neg (fun h => h.elim h0 h1)]
      obtain ⟨b1, b2, b3, b4⟩ := tbl_in (x := S.asked) (y := d.bad) h0
      show InvS a (stepN _ S d)
      unfold stepN nextS
      generalize whichA (actP S.sta d.kd).toNat S.asked d.bad = r at b1 b2 b3 b4 ⊢
      refine ⟨h.art, b1, b2, fun ht => ?_, fun ht => ?_⟩
      · show 1 ≤ (if timerA r = 1 then S.art else if timerA r = 2 then 0 else S.left) ∧ (if timerA r = 1 then S.art else if timerA r = 2 then 0 else S.left) ≤ a
        rcases b3 ht with h2 | ⟨h2, h3⟩
        · rw [if_pos h2, h.art]; omega
        · rw [if_neg (by omega), if_neg (by omega)]; exact h.on h3
      · show (if timerA r = 1 then S.art else if timerA r = 2 then 0 else S.left) = 0
        rcases b4 ht with h2 | ⟨h2, h3⟩
        · rw [if_neg (by omega), if_pos h2]
        · rw [if_neg (by omega), if_neg (by omega)]; exact h.off h3
theorem compl_no (k : Int) (h : k ≠ 6) (h0 : ndA.getD k.toNat 0 = 0) : complB k 0 false 0 = true := by
  unfold complB
  rw [h0, if_neg (by simp), if_pos h]
/-- The timer has expired. -/
theorem ev_exp {S : Prov} (h : Td S.sta) : (evS S (evD 18)).2 = [shA] ∧ (evS S (evD 18)).1 = ⟨S.art, 0, 1, false, noPdu⟩ := by
  have h22 : actP S.sta 18 = 22 := by rcases h with h | h <;> rw [h] <;> decide +kernel
  unfold evS
  rw [show (evD 18).kd = 18 from rfl, h22, show complB 18 (evD 18).p.k (evD 18).bad (evD 18).a.k = true by kernel_rfl, if_neg (by decide)]
  have hw : whichA ((22 : Int).toNat) S.asked (evD 18).bad = 22 := by cases S.asked <;> rfl
  refine ⟨?_, ?_⟩
  · show actsN (Int.toNat 22) S (evD 18) = _
    unfold actsN
    rw [hw]
    rfl
  · show stepN (Int.toNat 22) S (evD 18) = _
    unfold stepN
    rw [hw]
    rfl
theorem inv_do {a : Int} {S : Prov} (d : EvD) (ha : 1 ≤ a) (h : InvS a S) : InvS a (doS S d).1 := by
  unfold doS
  by_cases hk : d.kd = 20
  · rw [if_pos hk]
    by_cases h0 : S.left ≤ 0
    · rw [if_pos h0]; exact h
    · rw [if_neg h0]
      have ht : Td S.sta := by
        by_cases ht : Td S.sta
        · exact ht
        · have := h.off ht; omega
      by_cases h1 : S.left = 1
      · rw [if_pos h1, (ev_exp (S := { S with left := 0 }) ht).2]
        exact ⟨h.art, by show (1 : Int) ≤ 1; decide, by show (1 : Int) ≤ 13; decide, fun h => absurd (show Td 1 from h) (by decide), fun _ => rfl⟩
      · rw [if_neg h1]
        have := h.on ht
        exact ⟨h.art, h.lo, h.hi, fun _ => ⟨by show 1 ≤ S.left - 1; omega, by show S.left - 1 ≤ a; omega⟩, fun hn => absurd ht hn⟩
  · rw [if_neg hk]; exact inv_ev d ha h
/-- The state behind an event of the table that is complete. -/
theorem sta_ev (S : Prov) (k : Int) (hk : k ≠ 20) (hc : complB k 0 false 0 = true) : (doS S (evD k)).1.sta = if actP S.sta k = 0 then S.sta else thenA (whichA (actP S.sta k).toNat S.asked false) := by
  unfold doS
  rw [if_neg (show ¬ (evD k).kd = 20 from hk)]
  unfold evS
  rw [show complB (evD k).kd (evD k).p.k (evD k).bad (evD k).a.k = true from hc]
  by_cases h0 : actP S.sta k = 0
  · rw [if_pos (.inl h0), if_pos h0]
  · rw [if_neg (fun h => h.elim h0 (fun h => by cases h)), if_neg h0]; rfl
theorem tbl5 : ∀ (s : Fin 13) (x : Bool), (if actP ((s.val + 1 : Nat) : Int) 5 = 0 then ((s.val + 1 : Nat) : Int) else thenA (whichA (actP ((s.val + 1 : Nat) : Int) 5).toNat x false)) = if s.val = 0 then 2 else ((s.val + 1 : Nat) : Int) := by decide +kernel
theorem tbl15 : ∀ (s : Fin 13) (x : Bool), s.val ≠ 0 → (if actP ((s.val + 1 : Nat) : Int) 15 = 0 then ((s.val + 1 : Nat) : Int) else thenA (whichA (actP ((s.val + 1 : Nat) : Int) 15).toNat x false)) = if s.val = 1 then 2 else if s.val = 3 then 1 else 13 := by decide +kernel
/-- A connection comes, then the user aborts: the timer runs, but where a connection was awaited. -/
theorem sta_end {a : Int} {S : Prov} (h : InvS a S) : Td (doS (doS S (evD 5)).1 (evD 15)).1.sta ∨ ((doS (doS S (evD 5)).1 (evD 15)).1.sta = 1 ∧ S.sta = 4) := by
  have e5 := sta_ev S 5 (by decide) (by decide +kernel)
  have e15 := sta_ev (doS S (evD 5)).1 15 (by decide) (by decide +kernel)
  have l := h.lo
  have u := h.hi
  have t5 := tbl5 ⟨(S.sta - 1).toNat, by omega⟩ S.asked
  rw [show (((S.sta - 1).toNat + 1 : Nat) : Int) = S.sta by omega] at t5
  rw [t5] at e5
  generalize (doS S (evD 5)).1 = S1 at e5 e15 ⊢
  have hs1 : 2 ≤ S1.sta ∧ S1.sta ≤ 13 ∧ (S1.sta = 4 → S.sta = 4) := by
    rw [e5]
    simp only
    split <;> omega
  have t15 := tbl15 ⟨(S1.sta - 1).toNat, by omega⟩ S1.asked (by simp only; omega)
  rw [show (((S1.sta - 1).toNat + 1 : Nat) : Int) = S1.sta by omega] at t15
  rw [t15] at e15
  generalize (doS S1 (evD 15)).1 = S2 at e15 ⊢
  rw [e15]
  simp only
  by_cases c1 : (S1.sta - 1).toNat = 1
  · rw [if_pos c1]; exact .inl (.inl rfl)
  · rw [if_neg c1]
    by_cases c3 : (S1.sta - 1).toNat = 3
    · rw [if_pos c3]; exact .inr ⟨rfl, hs1.2.2 (by omega)⟩
    · rw [if_neg c3]; exact .inl (.inr rfl)
end Go.Proofs.YtiieikdbhpflgabDoor

/-
  DERIVED. The law of the timer.
-/
namespace Go.Proofs.YtiieikdbhpflgabDoor
open Go Go.Proofs Go.RowKit

theorem BelBut.below {p : Nat} {w w' : World} (h : BelBut p w w') {B : Nat} (h1 : B ≤ p) (h2 : B ≤ w.heap.size) : Below B w w' :=
  ⟨h.os, h.tape, h.output, h.size, fun b hb => h.block b (Nat.lt_of_lt_of_le hb h2) (by omega)⟩
def S0 (a : Int) : Prov := ⟨a, 0, 1, false, noPdu⟩
set_option maxRecDepth 100000 in
theorem new_x (w : World) (a : Int) (h1 : 1 ≤ a) (h2 : a ≤ 1000) : Calls Tryd.prog 4 #[.int .i64 a] w fun e w' => e = .returned (.tuple #[.pointer (some ⟨w.heap.size, 0, none⟩), .nilIface]) ∧ Below w.heap.size w w' ∧ ∃ PV, PvS w' w.heap.size PV zc (S0 a) := by
  go_enter Tryd.func4, Tryd.ntmps4
  go_wp2
  all_goals first | (exfalso; omega) | skip
  refine bodyPost_ret (v := .tuple #[.pointer (some ⟨w.heap.size, 0, none⟩), .nilIface]) (by simp [results, Tryd.results4, go_sem]) rfl ⟨rfl, (Below.refl _ _).alloc (Nat.le_refl _) _, _, ⟨⟨alloc_new w _, rfl, by kernel_rfl, ?_, oxf_zero _ _ _ _ zc_one rfl rfl rfl rfl⟩, SameC.refl _, rfl, rfl, rfl, rfl⟩⟩
  intro j v hv
  have hj : j < 19 := (List.getElem?_eq_some_iff.1 hv).1
  have : ∀ j : Fin 19, (#[Value.int .i64 a, .int .i64 0, .int .i64 1, .bool false, .int .i64 0, .int .u16 0, .string ⟨#[]⟩, .string ⟨#[]⟩, .string ⟨#[]⟩, .slice none 0 0, .bool false, .int .u32 0, .string ⟨#[]⟩, .string ⟨#[]⟩, .bool false, .int .u16 0, .int .u16 0, .slice none 0 0, .slice none 0 0, .int .u8 0, .int .u8 0, .int .u8 0, .slice none 0 0] : Array Value)[4 + j.val]? = (Pd 0 zc).toList[j.val]? := fun j => by
    match j with
    | ⟨0, _⟩ => rfl
    | ⟨1, _⟩ => rfl
    | ⟨2, _⟩ => rfl
    | ⟨3, _⟩ => rfl
    | ⟨4, _⟩ => rfl
    | ⟨5, _⟩ => rfl
    | ⟨6, _⟩ => rfl
    | ⟨7, _⟩ => rfl
    | ⟨8, _⟩ => rfl
    | ⟨9, _⟩ => rfl
    | ⟨10, _⟩ => rfl
    | ⟨11, _⟩ => rfl
    | ⟨12, _⟩ => rfl
    | ⟨13, _⟩ => rfl
    | ⟨14, _⟩ => rfl
    | ⟨15, _⟩ => rfl
    | ⟨16, _⟩ => rfl
    | ⟨17, _⟩ => rfl
    | ⟨18, _⟩ => rfl
    | ⟨k + 19, h⟩ => exact absurd h (by omega)
  exact (this ⟨j, hj⟩).trans hv
theorem field53 (W : World) (s l : Int) (b c : Bool) : (Instr.field 55 (.agg #[.int .i64 s, .bool b, .bool c, .int .i64 l]) 0).run Tryd.prog W = .ok (.int .i64 s) W := by kernel_rfl
theorem pv_of {w : World} {p : Nat} {PV : Array Value} {c0 : Fin 18 → Value} {S : Prov} (h : PvS w p PV c0 S) : Pv w p S.art S.left S.sta S.asked := by
  refine ⟨?_, ?_, ?_, ?_⟩ <;> rw [cell_of_row w _ _ _ _ _ h.x.row]
  · exact h.v0
  · exact h.v1
  · exact h.v2
  · exact h.v3
/-- The provider, by what holds of it. -/
def PvE (w : World) (p : Nat) (S : Prov) : Prop := ∃ PV c0, PvS w p PV c0 S
def DoE (w : World) (p : Nat) (S : Prov) (L : List AcD) (x : Ending) (w' : World) : Prop := ∃ v, x = .returned v ∧ AR w.heap.size w' v L ∧ PvE w' p S ∧ BelBut p w w'
theorem do_e (w : World) (p : Nat) (EV : Array Value) (a : Int) (S : Prov) (d : EvD) (ha : a ≤ 1000) (ha1 : 1 ≤ a) (hI : InvS a S) (hP : PvE w p S) (hE : EvY w EV d) (hT : Tb w) (hN : Nd w) (hp0 : 1 < p) :
    Calls Tryd.prog 8 #[.pointer (some ⟨p, 0, none⟩), .agg EV] w (DoE w p (doS S d).1 (doS S d).2) := by
  obtain ⟨PV, c0, h⟩ := hP
  refine (do_any w p PV EV c0 S d ?_ h hE hT hN hp0).mono ?_
  · by_cases ht : Td S.sta
    · have := hI.on ht; omega
    · rw [hI.off ht]; omega
  · rintro x w' ⟨v, PV', c', rfl, h1, h2, h3⟩
    exact ⟨v, rfl, h1, ⟨PV', c', h2⟩, h3⟩
theorem state_e (w : World) (p : Nat) (S : Prov) (h : PvE w p S) : Calls Tryd.prog 12 #[.pointer (some ⟨p, 0, none⟩)] w fun e w' => e = .returned (.agg #[.int .i64 S.sta, .bool S.asked, .bool (decide (0 < S.left)), .int .i64 S.left]) ∧ Below w.heap.size w w' := by
  obtain ⟨PV, c0, h⟩ := h
  exact state_any w p _ _ _ _ (pv_of h)
theorem PvE.on {w w' : World} {p : Nat} {S : Prov} (h : PvE w p S) (hb : Below w.heap.size w w') : PvE w' p S := by
  obtain ⟨PV, c0, h⟩ := h; exact ⟨PV, c0, h.on hb⟩
theorem PvE.lt {w : World} {p : Nat} {S : Prov} (h : PvE w p S) : p < w.heap.size := by
  obtain ⟨PV, c0, h⟩ := h; exact h.x.lt
theorem lend_y (w : World) (EV : Array Value) (d : EvD) (hE : EvY w EV d) : Calls Tryd.prog 7 #[.agg EV] w fun e w' => ∃ Q d', e = .returned (.agg Q) ∧ EvY w' Q d' ∧ Below w.heap.size w w' := by
  refine (lend_evx w EV _ _ _ _ _ _ _ hE.ev).mono ?_
  rintro x w' ⟨Q, c3, c4, rfl, h1, h2, h3, h4, h5⟩
  exact ⟨Q, ⟨d.kd, ⟨d.p.k, c3, d.p.D, fun _ => True⟩, d.bad, ⟨d.a.k, c4, d.a.D, fun _ => True⟩, d.rs, d.s⟩, rfl, ⟨h1, h2.trans hE.bad, h3.trans hE.rs, ((h4 15 (by decide) (by decide) (by decide) (by decide)).1).trans hE.s, fun _ _ => trivial⟩, h5⟩
/-- Events that can be read, exactly. -/
def EvsY (w : World) (v : Value) (n : Nat) : Prop := ∃ ao cap, v = .slice ao n cap ∧ (0 < n → ∃ b off, ao = some ⟨b, off, none⟩ ∧ ∀ i, i < n → ∃ EV d, w.rangeAt b (off + i * 41) EV.toList ∧ EvY w EV d)
theorem range_onX {w w' : World} {b o : Nat} {cs : List Value} (h : w.rangeAt b o cs) (hb : Below w.heap.size w w') : w'.rangeAt b o cs := fun j v hv => (hb.cell (cell_lt (h j v hv))).trans (h j v hv)

end Go.Proofs.YtiieikdbhpflgabDoor

/-
  DERIVED. Events that came in, read.
-/
namespace Go.Proofs.YtiieikdbhpflgabDoor
open Go Go.Proofs Go.RowKit

section
variable {H : Type} {enc : TypeId × Value → H} {W : World} {base : Nat} {spare : Nat → Bool} {held : Bool}

theorem bulk_pos : ∀ (d : DataW H), 1 ≤ Rows.uptoBulk d
  | .lit l => by cases l <;> simp [Rows.uptoBulk]
  | .nil => by simp [Rows.uptoBulk]
  | .ptr d => by simp [Rows.uptoBulk]
  | .slice a b => by simp [Rows.uptoBulk]
  | .agg a => by simp [Rows.uptoBulk]
  | .iface _ d => by simp [Rows.uptoBulk]
  | .map e => by simp [Rows.uptoBulk]
  | .held _ => by simp [Rows.uptoBulk]
theorem bulk_mem : ∀ {l : List (DataW H)} {i : Nat} {d : DataW H}, l[i]? = some d → Rows.uptoBulk d ≤ Rows.uptoBulkAll l
  | [], _, _, h => by simp at h
  | x :: l, 0, d, h => by simp at h; subst h; simp [Rows.uptoBulkAll]
  | x :: l, i + 1, d, h => by simp at h; have := bulk_mem h; simp only [Rows.uptoBulkAll]; omega
theorem bulk_len : ∀ (l : List (DataW H)), l.length ≤ Rows.uptoBulkAll l
  | [] => by simp [Rows.uptoBulkAll]
  | x :: l => by have := bulk_len l; have := bulk_pos x; simp only [Rows.uptoBulkAll, List.length_cons]; omega
/-- These cells read as something of that type, of bulk at most 1048576. -/
def Rd (enc : TypeId × Value → H) (W : World) (base : Nat) (spare : Nat → Bool) (held : Bool) (t : TypeId) (cs : List Value) : Prop :=
  ∃ fuel d p, DataW.trod enc Tryd.prog W base spare held fuel t cs = some (d, p) ∧ Rows.uptoBulk d ≤ 1048576

theorem Rd.int {t : TypeId} {k : IntKind} {cs : List Value} (h : Rd enc W base spare held t cs) (ht : Tryd.prog.underlying t = some (.int k)) : ∃ z, cs = [.int k z] := by
  obtain ⟨f, d, p, h, _⟩ := h
  obtain ⟨z, hz, _⟩ := DataW.trod_int ht h
  exact ⟨z, hz⟩
theorem Rd.u8 {cs : List Value} (h : Rd enc W base spare held 5 cs) : ∃ z : Nat, z < 256 ∧ cs = [.int .u8 (z : Int)] := by
  obtain ⟨f, d, p, h, _⟩ := h
  obtain ⟨z, hz, _, hwf⟩ := DataW.trod_int Tryd.underlying5 h
  simp only [Lit.wf, Bool.and_eq_true, decide_eq_true_eq, show IntKind.u8.min = 0 from rfl, show IntKind.u8.max = 255 from rfl] at hwf
  exact ⟨z.toNat, by omega, by rw [hz, Int.toNat_of_nonneg (by omega)]⟩
theorem Rd.bool {t : TypeId} {cs : List Value} (h : Rd enc W base spare held t cs) (ht : Tryd.prog.underlying t = some .bool) : ∃ z, cs = [.bool z] := by
  obtain ⟨f, d, p, h, _⟩ := h
  obtain ⟨z, hz, _⟩ := DataW.trod_bool ht h
  exact ⟨z, hz⟩
theorem Rd.str {t : TypeId} {cs : List Value} (h : Rd enc W base spare held t cs) (ht : Tryd.prog.underlying t = some .string) : ∃ z, cs = [.string z] := by
  obtain ⟨f, d, p, h, _⟩ := h
  obtain ⟨z, hz, _⟩ := DataW.trod_string ht h
  exact ⟨z, hz⟩

theorem Rd.field {t : TypeId} {fs : Array Field} {cs : List Value} (h : Rd enc W base spare held t cs) (ht : Tryd.prog.underlying t = some (.struct fs)) (i : Nat) (f : Field) (hf : fs[i]? = some f) : Rd enc W base spare held f.type ((cs.drop f.offset).take (Tryd.prog.cellsOf f.type)) := by
  obtain ⟨fu, d, p, h, hw⟩ := h
  obtain ⟨xs, n, rfl, hx, hl, hxl, hall⟩ := DataW.trod_struct ht h
  have hi : i < fs.size := (Array.getElem?_eq_some_iff.1 hf).1
  obtain ⟨b, hb⟩ : ∃ b, xs[i]? = some b := ⟨xs[i]'(by omega), List.getElem?_eq_getElem (by omega)⟩
  have h1 := hall i f hf
  rw [hb] at h1
  refine ⟨n, b.1, b.2, h1, ?_⟩
  have hd : d = .agg (xs.map (·.1)) := congrArg Prod.fst hx
  subst hd
  simp only [Rows.uptoBulk] at hw
  have := bulk_mem (l := xs.map (·.1)) (i := i) (d := b.1) (by simp [hb])
  omega

theorem Rd.at {t ty : TypeId} {fs : Array Field} {cs : List Value} (h : Rd enc W base spare held t cs) (ht : Tryd.prog.underlying t = some (.struct fs)) (i o n : Nat) (hf : (fs[i]?).map (fun f => (f.type, f.offset)) = some (ty, o)) (hc : Tryd.prog.cellsOf ty = n) : Rd enc W base spare held ty ((cs.drop o).take n) := by
  obtain ⟨f, hf1, hf2⟩ := Option.map_eq_some_iff.1 hf
  simp only [Prod.mk.injEq] at hf2
  have := h.field ht i f hf1
  rw [hf2.1, hf2.2, hc] at this
  exact this
theorem c3 : Tryd.prog.cellsOf 3 = 1 := by kernel_rfl
theorem c4 : Tryd.prog.cellsOf 4 = 1 := by kernel_rfl
theorem c5 : Tryd.prog.cellsOf 5 = 1 := by kernel_rfl
theorem c9 : Tryd.prog.cellsOf 9 = 1 := by kernel_rfl
theorem c29 : Tryd.prog.cellsOf 35 = 1 := by kernel_rfl
theorem c31 : Tryd.prog.cellsOf 37 = 1 := by kernel_rfl
theorem c71 : Tryd.prog.cellsOf 93 = 1 := by kernel_rfl
theorem c102 : Tryd.prog.cellsOf 75 = 1 := by kernel_rfl
theorem c30 : Tryd.prog.cellsOf 36 = 1 := by kernel_rfl
theorem c32 : Tryd.prog.cellsOf 38 = 1 := by kernel_rfl
theorem c33 : Tryd.prog.cellsOf 39 = 1 := by kernel_rfl
theorem c38 : Tryd.prog.cellsOf 44 = 1 := by kernel_rfl
theorem c35 : Tryd.prog.cellsOf 41 = 9 := by kernel_rfl
theorem c37 : Tryd.prog.cellsOf 43 = 14 := by kernel_rfl
theorem c40 : Tryd.prog.cellsOf 46 = 19 := by kernel_rfl
/-- A slice, element by element. -/
theorem Rd.slice {t e : TypeId} {m : Nat} {cs : List Value} (h : Rd enc W base spare held t cs) (ht : Tryd.prog.underlying t = some (.slice e)) (hm : Tryd.prog.cellsOf e = m) (hm0 : 0 < m) :
    ∃ ao n cap, cs = [.slice ao n cap] ∧ n ≤ 1048576 ∧ n ≤ cap ∧ (0 < n → ∃ b off, ao = some ⟨b, off, none⟩ ∧ ∀ i, i < n → ∃ es : List Value, es.length = m ∧ W.rangeAt b (off + i * m) es ∧ Rd enc W base spare held e es) := by
  obtain ⟨fu, d, p, h, hw⟩ := h
  rcases DataW.trod_slice ht h with ⟨rfl, _⟩ | ⟨a, len, cap, elems, rest, n, rfl, rfl, hx, hb, hlc, hcm, hel, hall, _, _⟩
  · exact ⟨none, 0, 0, rfl, by simp, by omega, fun h => by omega⟩
  · have hd : d = .slice (elems.map (·.1)) (rest.map (·.1)) := congrArg Prod.fst hx
    subst hd
    simp only [Rows.uptoBulk] at hw
    have hwl := bulk_len (elems.map (·.1))
    refine ⟨some a, len, cap, rfl, ?_, hlc, fun hn => ?_⟩
    · simp only [List.length_map] at hwl
      omega
    · rw [hm] at hall
      have hone : ∀ i, i < len → ∃ es x, W.cells? base (a.add (i * m)) m = some es ∧ DataW.trod enc Tryd.prog W base spare held n e es = some x ∧ elems[i]? = some x := fun i hi => by
        have h1 := hall i hi
        rw [List.getElem?_eq_getElem (by omega)] at h1
        obtain ⟨es, he, hx⟩ := Option.bind_eq_some_iff.1 h1
        exact ⟨es, _, he, hx, List.getElem?_eq_getElem (by omega)⟩
      obtain ⟨es0, x0, hc0, _, _⟩ := hone 0 hn
      obtain ⟨b, off, sp⟩ := a
      have hs : sp = none := by
        have h3 := World.cells?_some hc0
        have h4 := h3.2.2 0 hm0
        rw [List.getElem?_eq_getElem (by omega)] at h4
        have := World.cell?_spot h4
        simpa [Addr.add] using this
      subst hs
      refine ⟨b, off, rfl, fun i hi => ?_⟩
      obtain ⟨es, x, hc, hx, hei⟩ := hone i hi
      have h3 := World.cells?_some hc
      refine ⟨es, h3.2.1, fun j v hv => ?_, n, x.1, x.2, hx, ?_⟩
      · have hj : j < m := by have := (List.getElem?_eq_some_iff.1 hv).1; omega
        have h4 := h3.2.2 j hj
        rw [Addr.add_mid, Addr.add_mid] at h4
        exact h4.trans hv
      · have := bulk_mem (l := elems.map (·.1)) (i := i) (d := x.1) (by simp [hei])
        omega

/-- Bytes. -/
theorem Rd.bytes {cs : List Value} (h : Rd enc W base spare held 75 cs) : ∃ v bs, cs = [v] ∧ V W v bs ∧ bs.length ≤ 1048576 := by
  obtain ⟨ao, n, cap, rfl, hb, hc, hel⟩ := h.slice Tryd.underlying75 (m := 1) (by kernel_rfl) (by omega)
  by_cases hn : 0 < n
  · obtain ⟨b, off, rfl, he⟩ := hel hn
    have hz : ∀ i, ∃ z : Nat, i < n → z < 256 ∧ W.cell? ⟨b, off + i, none⟩ = some (.int .u8 (z : Int)) := fun i => by
      by_cases hi : i < n
      · obtain ⟨es, _, hr, hd⟩ := he i hi
        obtain ⟨z, h1, rfl⟩ := hd.u8
        exact ⟨z, fun _ => ⟨h1, by have := hr 0 _ rfl; simpa using this⟩⟩
      · exact ⟨0, fun h => absurd h hi⟩
    obtain ⟨f, hf⟩ := Classical.axiomOfChoice hz
    refine ⟨_, (List.range n).map f, rfl, .inr ⟨b, off, cap, by simp, by simpa using hn, by simpa using hc, fun k hk => ?_, fun x hx => ?_⟩, by simpa using hb⟩
    · simp at hk
      rw [(hf k hk).2]
      simp [hk]
    · obtain ⟨i, hi, rfl⟩ := List.mem_map.1 hx
      exact (hf i (by simpa using hi)).1
  · obtain rfl : n = 0 := by omega
    exact ⟨_, [], rfl, .inl ⟨ao, cap, rfl, rfl⟩, by simp⟩

theorem Rd.ctx {cs : List Value} {b o : Nat} (h : Rd enc W base spare held 95 cs) (hl : cs.length = 4) (hr : W.rangeAt b o cs) : ECtx W b o := by
  match cs, hl with
  | [a0, a1, a2, a3], _ =>
    obtain ⟨x, _, h0⟩ := (h.at Tryd.underlying95 0 0 1 rfl c5 : Rd enc W base spare held 5 [a0]).u8
    obtain ⟨y, _, h1⟩ := (h.at Tryd.underlying95 1 1 1 rfl c5 : Rd enc W base spare held 5 [a1]).u8
    obtain ⟨s, h2⟩ := (h.at Tryd.underlying95 2 2 1 rfl c9 : Rd enc W base spare held 9 [a2]).str Tryd.underlying9
    obtain ⟨ao, m, cap, h3, hb, _, hel⟩ := (h.at Tryd.underlying95 3 3 1 rfl c71 : Rd enc W base spare held 93 [a3]).slice Tryd.underlying93 (m := 1) (by kernel_rfl) (by omega)
    simp only [List.drop_succ_cons, List.drop_zero, List.take_succ_cons, List.take_zero, List.cons.injEq, and_true] at h0 h1 h2 h3
    subst h0 h1 h2 h3
    refine ⟨x, y, s, _, m, by simpa using hr 0 _ rfl, hr 1 _ rfl, hr 2 _ rfl, hr 3 _ rfl, ⟨ao, cap, rfl, fun hm => ?_⟩, ?_⟩
    · obtain ⟨b2, off2, rfl, he⟩ := hel hm
      refine ⟨b2, off2, rfl, fun k hk => ?_⟩
      obtain ⟨es, _, hr2, hd⟩ := he k hk
      obtain ⟨z, rfl⟩ := hd.str Tryd.underlying9
      exact ⟨z, by have := hr2 0 _ rfl; simpa using this⟩
    · show m * 16 ≤ 140737488351232
      omega

theorem Rd.role {cs : List Value} {b o : Nat} (h : Rd enc W base spare held 97 cs) (hl : cs.length = 3) (hr : W.rangeAt b o cs) : ERole W b o := by
  match cs, hl with
  | [a0, a1, a2], _ =>
    obtain ⟨s, h0⟩ := (h.at Tryd.underlying97 0 0 1 rfl c9 : Rd enc W base spare held 9 [a0]).str Tryd.underlying9
    obtain ⟨x, _, h1⟩ := (h.at Tryd.underlying97 1 1 1 rfl c5 : Rd enc W base spare held 5 [a1]).u8
    obtain ⟨y, _, h2⟩ := (h.at Tryd.underlying97 2 2 1 rfl c5 : Rd enc W base spare held 5 [a2]).u8
    simp only [List.drop_succ_cons, List.drop_zero, List.take_succ_cons, List.take_zero, List.cons.injEq, and_true] at h0 h1 h2
    subst h0 h1 h2
    exact ⟨s, x, y, by simpa using hr 0 _ rfl, hr 1 _ rfl, hr 2 _ rfl⟩
theorem Rd.oth {cs : List Value} {b o : Nat} (h : Rd enc W base spare held 91 cs) (hl : cs.length = 2) (hr : W.rangeAt b o cs) : EOth W b o := by
  match cs, hl with
  | [a0, a1], _ =>
    obtain ⟨x, _, h0⟩ := (h.at Tryd.underlying91 0 0 1 rfl c5 : Rd enc W base spare held 5 [a0]).u8
    obtain ⟨v, bs, h1, hV, hb⟩ := (h.at Tryd.underlying91 1 1 1 rfl c102 : Rd enc W base spare held 75 [a1]).bytes
    simp only [List.drop_succ_cons, List.drop_zero, List.take_succ_cons, List.take_zero, List.cons.injEq, and_true] at h0 h1
    subst h0 h1
    exact ⟨x, a1, bs, by simpa using hr 0 _ rfl, hr 1 _ rfl, hV, Nat.le_trans hb (by decide)⟩
theorem Rd.pdv {cs : List Value} {b o : Nat} (h : Rd enc W base spare held 78 cs) (hl : cs.length = 4) (hr : W.rangeAt b o cs) : EPdv W b o := by
  match cs, hl with
  | [a0, a1, a2, a3], _ =>
    obtain ⟨x, _, h0⟩ := (h.at Tryd.underlying78 0 0 1 rfl c5 : Rd enc W base spare held 5 [a0]).u8
    obtain ⟨y, h1⟩ := (h.at Tryd.underlying78 1 1 1 rfl c4 : Rd enc W base spare held 4 [a1]).bool Tryd.underlying4
    obtain ⟨z, h2⟩ := (h.at Tryd.underlying78 2 2 1 rfl c4 : Rd enc W base spare held 4 [a2]).bool Tryd.underlying4
    obtain ⟨v, bs, h3, hV, hb⟩ := (h.at Tryd.underlying78 3 3 1 rfl c102 : Rd enc W base spare held 75 [a3]).bytes
    simp only [List.drop_succ_cons, List.drop_zero, List.take_succ_cons, List.take_zero, List.cons.injEq, and_true] at h0 h1 h2 h3
    subst h0 h1 h2 h3
    exact ⟨x, y, z, a3, bs, by simpa using hr 0 _ rfl, hr 1 _ rfl, hr 2 _ rfl, hr 3 _ rfl, hV, Nat.le_trans hb (by decide)⟩

/-- A list of a PDU. -/
theorem Rd.list {t e : TypeId} {st bytes : Nat} {E : World → Nat → Nat → Prop} {a : Value} (h : Rd enc W base spare held t [a]) (ht : Tryd.prog.underlying t = some (.slice e)) (hc : Tryd.prog.cellsOf e = st) (h0 : 0 < st) (hb : bytes ≤ 1048576)
    (hE : ∀ es b o, es.length = st → W.rangeAt b o es → Rd enc W base spare held e es → E W b o) : ∃ n, RdL W a n st E ∧ Fits n bytes := by
  obtain ⟨ao, n, cap, h1, hw, _, hel⟩ := h.slice ht hc h0
  simp only [List.cons.injEq, and_true] at h1
  subst h1
  refine ⟨n, ⟨ao, cap, rfl, fun hn => ?_⟩, Nat.le_trans (Nat.mul_le_mul hw hb) (by decide)⟩
  obtain ⟨b, off, rfl, he⟩ := hel hn
  refine ⟨b, off, rfl, fun k hk => ?_⟩
  obtain ⟨es, h1, h2, h3⟩ := he k hk
  exact hE es b _ h1 h2 h3
theorem one_slice {t e : TypeId} {st : Nat} {a : Value} (h : Rd enc W base spare held t [a]) (ht : Tryd.prog.underlying t = some (.slice e)) (hc : Tryd.prog.cellsOf e = st) (h0 : 0 < st) : a.oneCell' = true := by
  obtain ⟨ao, n, cap, h1, _⟩ := h.slice ht hc h0
  simp only [List.cons.injEq, and_true] at h1
  subst h1; rfl
theorem one_int {t : TypeId} {k : IntKind} {a : Value} (h : Rd enc W base spare held t [a]) (ht : Tryd.prog.underlying t = some (.int k)) : a.oneCell' = true := by
  obtain ⟨z, h1⟩ := h.int ht
  simp only [List.cons.injEq, and_true] at h1
  subst h1; rfl
theorem one_bool {t : TypeId} {a : Value} (h : Rd enc W base spare held t [a]) (ht : Tryd.prog.underlying t = some .bool) : a.oneCell' = true := by
  obtain ⟨z, h1⟩ := h.bool ht
  simp only [List.cons.injEq, and_true] at h1
  subst h1; rfl
theorem one_str {t : TypeId} {a : Value} (h : Rd enc W base spare held t [a]) (ht : Tryd.prog.underlying t = some .string) : a.oneCell' = true := by
  obtain ⟨z, h1⟩ := h.str ht
  simp only [List.cons.injEq, and_true] at h1
  subst h1; rfl
end
end Go.Proofs.YtiieikdbhpflgabDoor
