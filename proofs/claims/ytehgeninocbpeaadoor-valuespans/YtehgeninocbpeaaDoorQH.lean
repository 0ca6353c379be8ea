import Derived.Test.YtehgeninocbpeaaDoorQG
/-
  DERIVED. So many digits.
-/
namespace Go.Proofs.YtehgeninocbpeaaDoor.Tm
open Go Go.Proofs Go.RowKit

def cnt (s : ByteArray) : Nat → Nat → Nat
  | _, 0 => 0
  | a, m + 1 => if isD s a = true then 1 + cnt s (a + 1) m else 0
theorem cnt_le (s : ByteArray) : ∀ m a, cnt s a m ≤ m
  | 0, _ => by simp [cnt]
  | m + 1, a => by
    rw [cnt]
    split
    · have := cnt_le s m (a + 1); omega
    · omega
theorem cnt_size (s : ByteArray) : ∀ m a, a ≤ s.size → a + cnt s a m ≤ s.size
  | 0, a, h => by simpa [cnt] using h
  | m + 1, a, h => by
    rw [cnt]
    split
    · rename_i hd
      have hl : a < s.size := by unfold isD at hd; simp at hd; exact hd.1
      have := cnt_size s m (a + 1) hl
      omega
    · omega

theorem grown_set {w w0 : World} {q : Nat} (h : w0.grownBy w (some q)) (i : Nat) (v : Value) : w0.grownBy (w.setCell ⟨q, i, none⟩ v) (some q) :=
  ⟨h.os, h.tape, h.output, by rw [World.size_setCell]; exact h.size, fun k hk hne => by
    rw [Below.heap_setCell w ⟨q, i, none⟩ v k (fun e => hne (by rw [e]))]
    exact h.block k hk hne⟩
theorem grown_drewN {w w0 : World} {q : Option Nat} (h : w0.grownBy w q) (n : Nat) : w0.grownBy (w.drewN n) q := ⟨h.os, h.tape, h.output, h.size, h.block⟩
theorem grown_refl (w : World) (q : Option Nat) : w.grownBy w q := ⟨rfl, rfl, rfl, Nat.le_refl _, fun _ _ _ => rfl⟩

def up (f : Nat → Value) (i : Nat) (v : Value) : Nat → Value := fun j => if j = i then v else f j

set_option maxRecDepth 100000 in
set_option maxHeartbeats 1000000 in
theorem digits_any (w : World) (q : Nat) (f : Nat → Value) (s : ByteArray) (a : Nat) (b : Bool) (h : Cur w q f s a b) (ha : a ≤ s.size) (hs : s.size ≤ 140737488351232) (least most : Nat) (hm : most ≤ 100) (hl : least ≤ 100) (c : Nat) (hc : c = if b = true then 0 else cnt s a most) :
    Calls Tryd.prog 64 #[.pointer (some ⟨q, 0, none⟩), .int .i64 (least : Int), .int .i64 (most : Int)] w fun e w' => ∃ f', e = .returned (.string (s.extract a (a + c))) ∧ Cur w' q f' s (a + c) (b || decide (c < least)) ∧ (∀ k, 3 ≤ k → f' k = f k) ∧ w.grownBy w' (some q) := by
  have hcs : a + c ≤ s.size := by
    rw [hc]
    cases b with
    | true => simpa using ha
    | false => exact cnt_size s most a ha
  have hcm : c ≤ most := by
    rw [hc]
    cases b with
    | true => simp
    | false => exact cnt_le s most a
  obtain ⟨q0, q1, q2⟩ := h.cells
  have HC0 : Hid (Cur w q f s a b) := h
  have HE0 : Hid (0 + (if b = true then 0 else cnt s (a + 0) (most - 0)) = c) := by show _ = _; rw [hc, Nat.zero_add]; rfl
  clear h hc
  go_enter Tryd.func64, Tryd.ntmps64
  go_wp2
  clear q0 q1 q2
  go_loopg [] most (fun g wx => ∃ (j p : Nat) (fj : Nat → Value), g + j = most ∧ Hid (a + j = p) ∧ p ≤ s.size ∧ a ≤ p ∧ Hid (Cur wx q fj s p b) ∧ Hid (∀ k, 3 ≤ k → fj k = f k) ∧ Hid (j + (if b = true then 0 else cnt s p (most - j)) = c) ∧ Hid (w.grownBy wx (some q)))
  case atStart => exact ⟨0, a, f, by omega, rfl, by omega, by omega, HC0, fun _ _ => rfl, HE0, grown_refl _ _⟩
  case round =>
    clear HC0 HE0
    obtain ⟨j, p, fj, hg, HP, haj, hap, HC, HF, HE, HG⟩ := hrel
    obtain ⟨q0, q1, q2⟩ := HC.out.cells
    have qf : ∀ i, wr.frozen? ⟨q, i, none⟩ = false := fun i => HC.out.row.frozen i
    have hsub : (p : Int) - (a : Int) = (j : Int) := by have := HP.out; omega
    have c72 := onDigit_any wr q fj s p b HC.out haj
    have hp63 : (p : Int) + 1 < 9223372036854775807 := by omega
    by_cases hj : j < most
    · have hjI : (j : Int) < (most : Int) := by omega
      cases hd : (!b && isD s p) with
      | true =>
        rw [hd] at c72
        have hb : b = false := by cases b with | true => simp at hd | false => rfl
        subst hb
        have hd' : isD s p = true := by simpa using hd
        have hlt : p < s.size := by unfold isD at hd'; simp at hd'; exact hd'.1
        have HE2 : Hid (j + 1 + (if false = true then 0 else cnt s (p + 1) (most - (j + 1))) = c) := by
          have h1 := HE.out
          show _ = _
          rw [if_neg (by decide)] at h1 ⊢
          obtain ⟨r, hr⟩ : ∃ r, most - j = r + 1 := ⟨most - j - 1, by omega⟩
          rw [hr, cnt, if_pos hd'] at h1
          rw [show most - (j + 1) = r by omega]
          omega
        have HC2 : Hid (Cur (wr.setCell ⟨q, 1, none⟩ (.int .i64 ((p : Int) + 1))) q (up fj 1 (.int .i64 ((p : Int) + 1))) s (p + 1) false) := by
          refine ⟨HC.out.row.set 1 _, ?_, rfl, ?_⟩
          · show (if (0 : Nat) = 1 then _ else _) = _; rw [if_neg (by omega)]; exact HC.out.c0
          · show (if (2 : Nat) = 1 then _ else _) = _; rw [if_neg (by omega)]; exact HC.out.c2
        have HF2 : Hid (∀ k, 3 ≤ k → up fj 1 (.int .i64 ((p : Int) + 1)) k = f k) := fun k hk => by
          show (if k = 1 then _ else _) = _
          rw [if_neg (by omega)]
          exact HF.out k hk
        clear hd hd' HE HF
        go_wp2_with (go_at_call 62; refine c72.mono ?_; rintro e w' ⟨rfl, n, rfl⟩)
        go_roundg (most - (j + 1))
        case measure => omega
        case rel => exact ⟨j + 1, p + 1, up fj 1 (.int .i64 ((p : Int) + 1)), by omega, by show _ = _; rw [← HP.out]; omega, by omega, by omega, ⟨HC2.out.row, HC2.out.c0, HC2.out.c1, HC2.out.c2⟩, HF2, HE2, grown_set (grown_drewN HG.out n) 1 _⟩
      | false =>
        rw [hd] at c72
        have hjc : j = c := by
          have h1 := HE.out
          cases b with
          | true => simpa using h1
          | false =>
            rw [if_neg (by decide)] at h1
            obtain ⟨r, hr⟩ : ∃ r, most - j = r + 1 := ⟨most - j - 1, by omega⟩
            have hd' : isD s p = false := by simpa using hd
            rw [hr, cnt, if_neg (by rw [hd']; decide)] at h1
            omega
        subst hjc
        clear hd HE
        by_cases hle : j < least
        · have hleI : (j : Int) < (least : Int) := by omega
          have hpI : (a : Int) ≤ (p : Int) := by omega
          have hpI2 : (p : Int) ≤ (s.size : Int) := by omega
          have HC2 : Hid (Cur (wr.setCell ⟨q, 2, none⟩ (.bool true)) q (up fj 2 (.bool true)) s (a + j) (b || decide (j < least))) := by
            refine ⟨HC.out.row.set 2 _, ?_, ?_, ?_⟩
            · show (if (0 : Nat) = 2 then _ else _) = _; rw [if_neg (by omega)]; exact HC.out.c0
            · show (if (1 : Nat) = 2 then _ else _) = _; rw [if_neg (by omega), HP.out]; exact HC.out.c1
            · show _ = _; rw [decide_eq_true hle, Bool.or_true]; rfl
          have HF2 : Hid (∀ k, 3 ≤ k → up fj 2 (.bool true) k = f k) := fun k hk => by
            show (if k = 2 then _ else _) = _
            rw [if_neg (by omega)]
            exact HF.out k hk
          clear HF
          go_wp2_with (first | (go_at_call 62; refine c72.mono ?_; rintro e w' ⟨rfl, n, rfl⟩) | fail)
          go_quiet (fail)
          go_wp2
          go_ret
          exact ⟨up fj 2 (.bool true), by rw [HP.out]; rfl, ⟨HC2.out.row, HC2.out.c0, HC2.out.c1, HC2.out.c2⟩, HF2.out, grown_drewN (grown_set (grown_drewN HG.out n) 2 _) _⟩
        · have hleI : ¬ ((j : Int) < (least : Int)) := by omega
          have hpI : (a : Int) ≤ (p : Int) := by omega
          have hpI2 : (p : Int) ≤ (s.size : Int) := by omega
          have HC2 : Hid (Cur wr q fj s (a + j) (b || decide (j < least))) := by
            refine ⟨HC.out.row, HC.out.c0, by rw [HP.out]; exact HC.out.c1, ?_⟩
            rw [decide_eq_false hle, Bool.or_false]; exact HC.out.c2
          clear HC
          go_wp2_with (first | (go_at_call 62; refine c72.mono ?_; rintro e w' ⟨rfl, n, rfl⟩) | fail)
          go_quiet (fail)
          go_wp2
          go_ret
          exact ⟨fj, by rw [HP.out]; rfl, ⟨HC2.out.row, HC2.out.c0, HC2.out.c1, HC2.out.c2⟩, HF.out, grown_drewN (grown_drewN HG.out n) _⟩
    · have hjI : ¬ ((j : Int) < (most : Int)) := by omega
      have hjm : j = most := by omega
      have hjc : j = c := by
        have h1 := HE.out
        rw [show most - j = 0 by omega, cnt] at h1
        cases b with
        | true => simpa using h1
        | false => simpa using h1
      subst hjc
      clear HE c72 hjm
      by_cases hle : j < least
      · have hleI : (j : Int) < (least : Int) := by omega
        have hpI : (a : Int) ≤ (p : Int) := by omega
        have hpI2 : (p : Int) ≤ (s.size : Int) := by omega
        have HC2 : Hid (Cur (wr.setCell ⟨q, 2, none⟩ (.bool true)) q (up fj 2 (.bool true)) s (a + j) (b || decide (j < least))) := by
          refine ⟨HC.out.row.set 2 _, ?_, ?_, ?_⟩
          · show (if (0 : Nat) = 2 then _ else _) = _; rw [if_neg (by omega)]; exact HC.out.c0
          · show (if (1 : Nat) = 2 then _ else _) = _; rw [if_neg (by omega), HP.out]; exact HC.out.c1
          · show _ = _; rw [decide_eq_true hle, Bool.or_true]; rfl
        have HF2 : Hid (∀ k, 3 ≤ k → up fj 2 (.bool true) k = f k) := fun k hk => by
          show (if k = 2 then _ else _) = _
          rw [if_neg (by omega)]
          exact HF.out k hk
        clear HF
        go_wp2_with (first | fail | fail)
        go_quiet (fail)
        go_wp2
        go_ret
        exact ⟨up fj 2 (.bool true), by rw [HP.out]; rfl, ⟨HC2.out.row, HC2.out.c0, HC2.out.c1, HC2.out.c2⟩, HF2.out, grown_drewN (grown_set HG.out 2 _) _⟩
      · have hleI : ¬ ((j : Int) < (least : Int)) := by omega
        have hpI : (a : Int) ≤ (p : Int) := by omega
        have hpI2 : (p : Int) ≤ (s.size : Int) := by omega
        have HC2 : Hid (Cur wr q fj s (a + j) (b || decide (j < least))) := by
          refine ⟨HC.out.row, HC.out.c0, by rw [HP.out]; exact HC.out.c1, ?_⟩
          rw [decide_eq_false hle, Bool.or_false]; exact HC.out.c2
        clear HC
        go_wp2_with (first | fail | fail)
        go_quiet (fail)
        go_wp2
        go_ret
        exact ⟨fj, by rw [HP.out]; rfl, ⟨HC2.out.row, HC2.out.c0, HC2.out.c1, HC2.out.c2⟩, HF.out, grown_drewN HG.out _⟩
end Go.Proofs.YtehgeninocbpeaaDoor.Tm
