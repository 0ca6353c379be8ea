import Derived.Test.YtdggplhkeekdjaaGreatDoorNe
import Derived.Deep.QuietTactic
import Derived.BigQuiet
/-
  DERIVED. The program's areSyntaxes.
-/
namespace Go.Proofs.YtdggplhkeekdjaaGreatDoor.Ck
open Go Go.Proofs Go.RowKit

/-- Numbers lie in a row. -/
def IxAt (X : World) (ao : Option Addr) (l : List Int) : Prop := ∀ i (h : i < l.length), ∃ g, ao = some ⟨g, 0, none⟩ ∧ X.cell? ⟨g, i, none⟩ = some (.int .i64 l[i])
def s12 (x : Int) : Bool := (x == 1) || (x == 2)
def ssB (l : List Int) : Bool := l.all s12 && (decide (l.length = 1) || (decide (l.length = 2) && (l.getD 0 0 != l.getD 1 0)))
theorem drewN_b (w : World) (n : Nat) : Below w.heap.size w (w.drewN n) := ⟨rfl, rfl, rfl, Nat.le_refl _, fun _ _ => rfl⟩
set_option maxRecDepth 100000 in
set_option maxHeartbeats 4000000 in
theorem areSyntaxes_any (w : World) (ao : Option Addr) (cp : Nat) (l : List Int) (n : Nat) (hn : l.length = n) (hm : n ≤ 140737488351232) (hT : IxAt w ao l) : Calls Tryz.prog 36 #[.slice ao n cp] w fun e w' => e = .returned (.bool (ssB l)) ∧ Below w.heap.size w w' := by
  unfold ssB
  obtain ⟨R, hR⟩ : ∃ R, (l.all s12 && (decide (l.length = 1) || (decide (l.length = 2) && (l.getD 0 0 != l.getD 1 0)))) = R := ⟨_, rfl⟩
  have HR : Hid (((l.drop 0).all s12 && (decide (l.length = 1) || (decide (l.length = 2) && (l.getD 0 0 != l.getD 1 0)))) = R) := hR
  rw [hR]
  have HL : Hid (l.length = n) := hn
  have HT : Hid (IxAt w ao l) := hT
  clear hR hn hT
  go_enter Tryz.func36, Tryz.ntmps36
  go_wp2
  go_loopg [7] n (fun k s7 wx => ∃ i : Nat, s7 = .int .i64 (i : Int) ∧ i ≤ n ∧ k + i = n ∧ Hid (((l.drop i).all s12 && (decide (l.length = 1) || (decide (l.length = 2) && (l.getD 0 0 != l.getD 1 0)))) = R) ∧ wx = w)
  case atStart => exact ⟨0, rfl, by omega, by omega, HR, rfl⟩
  case round =>
    clear HR
    obtain ⟨i, rfl, hi, hg, HI, rfl⟩ := hrel
    by_cases hlt : i < n
    · have iI : (i : Int) < (n : Int) := by omega
      have hlx : i < l.length := by have := HL.out; omega
      obtain ⟨x, hx⟩ : ∃ x, l[i] = x := ⟨_, rfl⟩
      obtain ⟨g, hao, cl⟩ := HT.out i hlx
      rw [hx] at cl
      subst hao
      have HI2 : Hid ((s12 x && (l.drop (i + 1)).all s12 && (decide (l.length = 1) || (decide (l.length = 2) && (l.getD 0 0 != l.getD 1 0)))) = R) := by
        have := HI.out
        rw [List.drop_eq_getElem_cons hlx, List.all_cons, hx] at this
        exact this
      clear HI hlx hx
      by_cases h1 : x = 1
      · have e1 : (x != 1) = false := by rw [h1]; rfl
        have HI3 : Hid (((l.drop (i + 1)).all s12 && (decide (l.length = 1) || (decide (l.length = 2) && (l.getD 0 0 != l.getD 1 0)))) = R) := by
          have := HI2.out
          rw [show s12 x = true by rw [h1]; rfl, Bool.true_and] at this
          exact this
        clear HI2 h1
        go_wp2
        go_roundg (n - (i + 1))
        case measure => omega
        case rel => exact ⟨i + 1, by simp, by omega, by omega, HI3, rfl⟩
      · have e1 : (x != 1) = true := by simpa using h1
        by_cases h2 : x = 2
        · have e2 : (x != 2) = false := by rw [h2]; rfl
          have HI3 : Hid (((l.drop (i + 1)).all s12 && (decide (l.length = 1) || (decide (l.length = 2) && (l.getD 0 0 != l.getD 1 0)))) = R) := by
            have := HI2.out
            rw [show s12 x = true by rw [h2]; rfl, Bool.true_and] at this
            exact this
          clear HI2 h2 h1
          go_wp2
          go_roundg (n - (i + 1))
          case measure => omega
          case rel => exact ⟨i + 1, by simp, by omega, by omega, HI3, rfl⟩
        · have e2 : (x != 2) = true := by simpa using h2
          obtain rfl : R = false := by
            have := HI2.out
            rw [show s12 x = false by unfold s12; rw [beq_eq_false_iff_ne.2 h1, beq_eq_false_iff_ne.2 h2]; rfl, Bool.false_and, Bool.false_and] at this
            exact this.symm
          clear HI2 h1 h2
          go_wp2
          go_ret
          exact ⟨rfl, Below.refl _ _⟩
    · have iI : ¬ ((i : Int) < (n : Int)) := by omega
      have HI2 : Hid ((decide (n = 1) || (decide (n = 2) && (l.getD 0 0 != l.getD 1 0))) = R) := by
        have := HI.out
        rw [List.drop_eq_nil_of_le (by have := HL.out; omega), HL.out] at this
        exact this
      clear HI
      by_cases h1 : n = 1
      · have e1 : ((n : Int) == 1) = true := by rw [h1]; rfl
        obtain rfl : R = true := by have := HI2.out; rw [decide_eq_true h1, Bool.true_or] at this; exact this.symm
        clear HI2
        go_wp2
        go_quiet (fail)
        go_wp2
        go_ret
        exact ⟨rfl, drewN_b _ _⟩
      · have e1 : ((n : Int) == 1) = false := beq_eq_false_iff_ne.2 (by omega)
        by_cases h2 : n = 2
        · have e2 : ((n : Int) == 2) = true := by rw [h2]; rfl
          obtain ⟨g, hao, c0⟩ := HT.out 0 (by have := HL.out; omega)
          obtain ⟨g', hao', c1⟩ := HT.out 1 (by have := HL.out; omega)
          rw [hao] at hao'
          obtain rfl : g = g' := by simpa using hao'
          subst hao
          have d0 : l.getD 0 0 = l[0]'(by have := HL.out; omega) := by simp [List.getD_eq_getElem?_getD, List.getElem?_eq_getElem (show 0 < l.length by have := HL.out; omega)]
          have d1 : l.getD 1 0 = l[1]'(by have := HL.out; omega) := by simp [List.getD_eq_getElem?_getD, List.getElem?_eq_getElem (show 1 < l.length by have := HL.out; omega)]
          rw [← d0] at c0
          rw [← d1] at c1
          clear d0 d1 hao'
          generalize l.getD 0 0 = x0 at *
          generalize l.getD 1 0 = x1 at *
          obtain rfl : R = (x0 != x1) := by have := HI2.out; rw [decide_eq_false h1, decide_eq_true h2, Bool.false_or, Bool.true_and] at this; exact this.symm
          subst h2
          clear HI2 h1 iI
          have z0 : (0 : Int) < ((2 : Nat) : Int) := by decide
          have z1 : (1 : Int) < ((2 : Nat) : Int) := by decide
          have hi2 : ¬ ((i : Int) < ((2 : Nat) : Int)) := by omega
          go_wp2
          go_quiet (fail)
          go_wp2
          go_ret
          exact ⟨rfl, drewN_b _ _⟩
        · have e2 : ((n : Int) == 2) = false := beq_eq_false_iff_ne.2 (by omega)
          obtain rfl : R = false := by have := HI2.out; rw [decide_eq_false h1, decide_eq_false h2] at this; exact this.symm
          clear HI2
          go_wp2
          go_quiet (fail)
          go_wp2
          go_ret
          exact ⟨rfl, drewN_b _ _⟩
end Go.Proofs.YtdggplhkeekdjaaGreatDoor.Ck

/-
  DERIVED. The program's upper.New, where the timer may be.
-/
namespace Go.Proofs.YtdggplhkeekdjaaGreatDoor.Ck
open Go Go.Proofs Go.RowKit

/-- A provider that has just been made: its timer, its state. -/
structure UpAt (w : World) (q : Nat) (a : Int) : Prop where
  c0 : w.cell? ⟨q, 0, none⟩ = some (.int .i64 a)
  c1 : w.cell? ⟨q, 1, none⟩ = some (.int .i64 0)
  c2 : w.cell? ⟨q, 2, none⟩ = some (.int .i64 1)
  c3 : w.cell? ⟨q, 3, none⟩ = some (.bool false)
theorem UpAt.on {w w' : World} {q : Nat} {a : Int} (h : UpAt w q a) (hb : Below w.heap.size w w') : UpAt w' q a :=
  ⟨(hb.cell (clt h.c0)).trans h.c0, (hb.cell (clt h.c1)).trans h.c1, (hb.cell (clt h.c2)).trans h.c2, (hb.cell (clt h.c3)).trans h.c3⟩
set_option maxRecDepth 100000 in
theorem upperNew_ok (w : World) (a : Int) (h1 : 1 ≤ a) (h2 : a ≤ 1000) : Calls Tryz.prog 18 #[.int .i64 a] w fun e w' => e = .returned (.tuple #[.pointer (some ⟨w.heap.size, 0, none⟩), .nilIface]) ∧ UpAt w' w.heap.size a ∧ Below w.heap.size w w' := by
  have i1 : ¬ (a < 1) := by omega
  have i2 : ¬ (a > 1000) := by omega
  go_enter Tryz.func18, Tryz.ntmps18
  go_wp2
  exact bodyPost_ret (v := .tuple #[.pointer (some ⟨w.heap.size, 0, none⟩), .nilIface]) (by simp [results, Tryz.results18, go_sem]) rfl ⟨rfl, ⟨by simp, by simp, by simp, by simp⟩, (Below.refl _ _).alloc (Nat.le_refl _) _⟩
end Go.Proofs.YtdggplhkeekdjaaGreatDoor.Ck

/-
  DERIVED. The document's upper.New, where the timer may be.
-/
namespace Go.Proofs.YtdggplhkeekdjaaGreatDoor.Ck
open Go Go.Proofs Go.RowKit

set_option maxRecDepth 100000 in
set_option maxHeartbeats 4000000 in
theorem rupperNew_ok (w : World) (a : Int) (h1 : 1 ≤ a) (h2 : a ≤ 1000) : Calls Tryz.prog 25 #[.int .i64 a] w fun e w' => e = .returned (.tuple #[.pointer (some ⟨w.heap.size + 1, 0, none⟩), .agg #[.slice none 0 0, .int .i64 0]]) ∧ w'.cell? ⟨w.heap.size + 1, 0, none⟩ = some (.int .i64 a) ∧ w'.cell? ⟨w.heap.size + 1, 1, none⟩ = some (.int .i64 1) ∧ Below w.heap.size w w' := by
  have i1 : ¬ (a < 1) := by omega
  have i2 : ¬ (a > 1000) := by omega
  have HR0 : Hid (Rz w.heap.size (w.alloc (.cells #[.slice none 0 0, .int .i64 0] 45))) := Rz.new w
  have HB0 : Hid (Below w.heap.size w (w.alloc (.cells #[.slice none 0 0, .int .i64 0] 45))) := (Below.refl _ _).alloc (Nat.le_refl _) _
  go_enter Tryz.func25, Tryz.ntmps25
  go_wp2_with (go_at_call 27; refine Stop.mk ?_)
  refine Stop.out ((rnone_any _).mono ?_)
  rintro e W1 ⟨rfl, hb1⟩
  have hbA := hb1
  have c0 : W1.cell? ⟨w.heap.size + 1, 0, none⟩ = some (.int .i64 a) := (hb1.cell (by simp)).trans (by simp)
  have c1 : W1.cell? ⟨w.heap.size + 1, 1, none⟩ = some (.int .i64 1) := (hb1.cell (by simp)).trans (by simp)
  obtain ⟨r0, r1, rf⟩ := (HR0.out.on ((Below.refl _ _).alloc (Nat.le_refl _) _)).on hb1
  have HB1 : Hid (Below w.heap.size w W1) := (HB0.out.alloc HB0.out.size _).trans (hb1.mono (by simp; omega))
  clear hb1 hbA
  go_wp2
  refine bodyPost_ret (v := .tuple #[.pointer (some ⟨w.heap.size + 1, 0, none⟩), .agg #[.slice none 0 0, .int .i64 0]]) (by simp [results, Tryz.results25, go_sem, r0, r1]) rfl ⟨rfl, ?_, ?_, below_put HB1.out _ _⟩
  · exact ((Rp.cell_set_off (by omega)).trans (Rp.cell_set_off (by omega))).trans c0
  · exact ((Rp.cell_set_off (by omega)).trans (Rp.cell_set_off (by omega))).trans c1
end Go.Proofs.YtdggplhkeekdjaaGreatDoor.Ck
