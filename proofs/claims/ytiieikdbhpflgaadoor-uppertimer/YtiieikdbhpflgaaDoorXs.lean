import Derived.Test.YtiieikdbhpflgaaDoorXr
/-
  DERIVED. The timer runs in two states alone: of the plain machine.
-/
namespace Go.Proofs.YtiieikdbhpflgaaDoor
open Go Go.Proofs Go.RowKit

/-- The timer runs in these. -/
def Td (s : Int) : Prop := s = 2 ∨ s = 13
instance (s : Int) : Decidable (Td s) := by unfold Td; infer_instance
structure InvS (a : Int) (S : Prov) : Prop where
  art : S.art = a
  lo : 1 ≤ S.sta
  hi : S.sta ≤ 13
  on : Td S.sta → 1 ≤ S.left ∧ S.left ≤ a
  off : ¬ Td S.sta → S.left = 0
def tblOk (s e : Nat) (asked bad : Bool) : Bool :=
  tbL.getD (e * 13 + s) 0 == 0 || (decide (1 ≤ thenA (whichA (tbL.getD (e * 13 + s) 0) asked bad)) && decide (thenA (whichA (tbL.getD (e * 13 + s) 0) asked bad) ≤ 13) &&
    (if Td (thenA (whichA (tbL.getD (e * 13 + s) 0) asked bad)) then decide (timerA (whichA (tbL.getD (e * 13 + s) 0) asked bad) = 1 ∨ (timerA (whichA (tbL.getD (e * 13 + s) 0) asked bad) = 0 ∧ Td ((s + 1 : Nat) : Int))) else decide (timerA (whichA (tbL.getD (e * 13 + s) 0) asked bad) = 2 ∨ (timerA (whichA (tbL.getD (e * 13 + s) 0) asked bad) = 0 ∧ ¬ Td ((s + 1 : Nat) : Int)))))
theorem tbl_all : ∀ (s : Fin 13) (e : Fin 19) (x y : Bool), tblOk s.val e.val x y = true := by decide +kernel
theorem tbl_in {s e : Int} {x y : Bool} (h : actP s e ≠ 0) :
    let r := whichA (actP s e).toNat x y
    1 ≤ thenA r ∧ thenA r ≤ 13 ∧ (Td (thenA r) → timerA r = 1 ∨ (timerA r = 0 ∧ Td s)) ∧ (¬ Td (thenA r) → timerA r = 2 ∨ (timerA r = 0 ∧ ¬ Td s)) := by
  obtain ⟨e1, e2, s1, s2⟩ := actP_in h
  have hv : actP s e = ((tbL.getD ((e - 1).toNat * 13 + (s - 1).toNat) 0 : Nat) : Int) := by
    unfold actP; rw [if_neg (by omega)]
  have ht := tbl_all ⟨(s - 1).toNat, by omega⟩ ⟨(e - 1).toNat, by omega⟩ x y
  unfold tblOk at ht
  have hs : (((s - 1).toNat + 1 : Nat) : Int) = s := by omega
  rw [hs] at ht
  rw [hv] at h ⊢
  rw [Int.toNat_natCast]
  generalize tbL.getD ((e - 1).toNat * 13 + (s - 1).toNat) 0 = n at ht h ⊢
  have hn : (n == 0) = false := by simp; omega
  rw [hn, Bool.false_or] at ht
  simp only [Bool.and_eq_true, decide_eq_true_eq] at ht
  obtain ⟨⟨h1, h2⟩, h3⟩ := ht
  refine ⟨h1, h2, fun ht => ?_, fun ht => ?_⟩
  · rw [if_pos ht] at h3; simpa using h3
  · rw [if_neg ht] at h3; simpa using h3
theorem inv_ev {a : Int} {S : Prov} (d : EvD) (ha : 1 ≤ a) (h : InvS a S) : InvS a (evS S d).1 := by
  unfold evS
  by_cases h0 : actP S.sta d.kd = 0
  · rw [if_pos (.inl h0)]; exact h
  · by_cases h1 : complB d.kd d.p.k d.bad d.a.k = false
    · rw [if_pos (.inr h1)]; exact h
    · rw [if_neg (fun h => h.elim h0 h1)]
      obtain ⟨b1, b2, b3, b4⟩ := tbl_in (x := S.asked) (y := d.bad) h0
      show InvS a (stepN _ S d)
      unfold stepN nextS
      generalize whichA (actP S.sta d.kd).toNat S.asked d.bad = r at b1 b2 b3 b4 ⊢
      refine ⟨h.art, b1, b2, fun ht => ?_, fun ht => ?_⟩
      · show 1 ≤ (if timerA r = 1 then S.art else if timerA r = 2 then 0 else S.left) ∧ (if timerA r = 1 then S.art else if timerA r = 2 then 0 else S.left) ≤ a
        rcases b3 ht with h2 | ⟨h2, h3⟩
        · rw [if_pos h2, h.art]; omega
        · rw [if_neg (by omega), if_neg (by omega)]; exact h.on h3
      · show (if timerA r = 1 then S.art else if timerA r = 2 then 0 else S.left) = 0
        rcases b4 ht with h2 | ⟨h2, h3⟩
        · rw [if_neg (by omega), if_pos h2]
        · rw [if_neg (by omega), if_neg (by omega)]; exact h.off h3
theorem compl_no (k : Int) (h : k ≠ 6) (h0 : ndA.getD k.toNat 0 = 0) : complB k 0 false 0 = true := by
  unfold complB
  rw [h0, if_neg (by simp), if_pos h]
/-- The timer has expired. -/
theorem ev_exp {S : Prov} (h : Td S.sta) : (evS S (evD 18)).2 = [shA] ∧ (evS S (evD 18)).1 = ⟨S.art, 0, 1, false, noPdu⟩ := by
  have h22 : actP S.sta 18 = 22 := by rcases h with h | h <;> rw [h] <;> decide +kernel
  unfold evS
  rw [show (evD 18).kd = 18 from rfl, h22, show complB 18 (evD 18).p.k (evD 18).bad (evD 18).a.k = true by kernel_rfl, if_neg (by decide)]
  have hw : whichA ((22 : Int).toNat) S.asked (evD 18).bad = 22 := by cases S.asked <;> rfl
  refine ⟨?_, ?_⟩
  · show actsN (Int.toNat 22) S (evD 18) = _
    unfold actsN
    rw [hw]
    rfl
  · show stepN (Int.toNat 22) S (evD 18) = _
    unfold stepN
    rw [hw]
    rfl
theorem inv_do {a : Int} {S : Prov} (d : EvD) (ha : 1 ≤ a) (h : InvS a S) : InvS a (doS S d).1 := by
  unfold doS
  by_cases hk : d.kd = 20
  · rw [if_pos hk]
    by_cases h0 : S.left ≤ 0
    · rw [if_pos h0]; exact h
    · rw [if_neg h0]
      have ht : Td S.sta := by
        by_cases ht : Td S.sta
        · exact ht
        · have := h.off ht; omega
      by_cases h1 : S.left = 1
      · rw [if_pos h1, (ev_exp (S := { S with left := 0 }) ht).2]
        exact ⟨h.art, by show (1 : Int) ≤ 1; decide, by show (1 : Int) ≤ 13; decide, fun h => absurd (show Td 1 from h) (by decide), fun _ => rfl⟩
      · rw [if_neg h1]
        have := h.on ht
        exact ⟨h.art, h.lo, h.hi, fun _ => ⟨by show 1 ≤ S.left - 1; omega, by show S.left - 1 ≤ a; omega⟩, fun hn => absurd ht hn⟩
  · rw [if_neg hk]; exact inv_ev d ha h
/-- The state behind an event of the table that is complete. -/
theorem sta_ev (S : Prov) (k : Int) (hk : k ≠ 20) (hc : complB k 0 false 0 = true) : (doS S (evD k)).1.sta = if actP S.sta k = 0 then S.sta else thenA (whichA (actP S.sta k).toNat S.asked false) := by
  unfold doS
  rw [if_neg (show ¬ (evD k).kd = 20 from hk)]
  unfold evS
  rw [show complB (evD k).kd (evD k).p.k (evD k).bad (evD k).a.k = true from hc]
  by_cases h0 : actP S.sta k = 0
  · rw [if_pos (.inl h0), if_pos h0]
  · rw [if_neg (fun h => h.elim h0 (fun h => by cases h)), if_neg h0]; rfl
theorem tbl5 : ∀ (s : Fin 13) (x : Bool), (if actP ((s.val + 1 : Nat) : Int) 5 = 0 then ((s.val + 1 : Nat) : Int) else thenA (whichA (actP ((s.val + 1 : Nat) : Int) 5).toNat x false)) = if s.val = 0 then 2 else ((s.val + 1 : Nat) : Int) := by decide +kernel
theorem tbl15 : ∀ (s : Fin 13) (x : Bool), s.val ≠ 0 → (if actP ((s.val + 1 : Nat) : Int) 15 = 0 then ((s.val + 1 : Nat) : Int) else thenA (whichA (actP ((s.val + 1 : Nat) : Int) 15).toNat x false)) = if s.val = 1 then 2 else if s.val = 3 then 1 else 13 := by decide +kernel
/-- A connection comes, then the user aborts: the timer runs, but where a connection was awaited. -/
theorem sta_end {a : Int} {S : Prov} (h : InvS a S) : Td (doS (doS S (evD 5)).1 (evD 15)).1.sta ∨ ((doS (doS S (evD 5)).1 (evD 15)).1.sta = 1 ∧ S.sta = 4) := by
  have e5 := sta_ev S 5 (by decide) (by decide +kernel)
  have e15 := sta_ev (doS S (evD 5)).1 15 (by decide) (by decide +kernel)
  have l := h.lo
  have u := h.hi
  have t5 := tbl5 ⟨(S.sta - 1).toNat, by omega⟩ S.asked
  rw [show (((S.sta - 1).toNat + 1 : Nat) : Int) = S.sta by omega] at t5
  rw [t5] at e5
  generalize (doS S (evD 5)).1 = S1 at e5 e15 ⊢
  have hs1 : 2 ≤ S1.sta ∧ S1.sta ≤ 13 ∧ (S1.sta = 4 → S.sta = 4) := by
    rw [e5]
    simp only
    split <;> omega
  have t15 := tbl15 ⟨(S1.sta - 1).toNat, by omega⟩ S1.asked (by simp only; omega)
  rw [show (((S1.sta - 1).toNat + 1 : Nat) : Int) = S1.sta by omega] at t15
  rw [t15] at e15
  generalize (doS S1 (evD 15)).1 = S2 at e15 ⊢
  rw [e15]
  simp only
  by_cases c1 : (S1.sta - 1).toNat = 1
  · rw [if_pos c1]; exact .inl (.inl rfl)
  · rw [if_neg c1]
    by_cases c3 : (S1.sta - 1).toNat = 3
    · rw [if_pos c3]; exact .inr ⟨rfl, hs1.2.2 (by omega)⟩
    · rw [if_neg c3]; exact .inl (.inr rfl)
end Go.Proofs.YtiieikdbhpflgaaDoor
