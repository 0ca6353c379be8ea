import Derived.Test.YtegfgbcimlacbaaGreatDoorRc
import Derived.Lib.DecodeN
import Derived.BigQuiet
import Derived.Deep.QuietTactic
import Derived.Laws.BitsLemmas
/-
  DERIVED. The document's rune that bytes begin with.
-/
namespace Go.Proofs.YtegfgbcimlacbaaGreatDoor
open Go Go.Proofs Go.RowKit

theorem and224 : ∀ b : Fin 256, bits .and .u8 (b.val : Int) 224 = ((b.val / 32 * 32 : Nat) : Int) := by decide +kernel
theorem and240 : ∀ b : Fin 256, bits .and .u8 (b.val : Int) 240 = ((b.val / 16 * 16 : Nat) : Int) := by decide +kernel
theorem and248 : ∀ b : Fin 256, bits .and .u8 (b.val : Int) 248 = ((b.val / 8 * 8 : Nat) : Int) := by decide +kernel
theorem and192 : ∀ b : Fin 256, bits .and .u8 (b.val : Int) 192 = ((b.val / 64 * 64 : Nat) : Int) := by decide +kernel

def accN (h : Nat) (bs : Nat → Nat) : Nat → Nat
  | 0 => h
  | 1 => h
  | i + 2 => accN h bs (i + 1) * 64 + bs (i + 1) % 64
def okN (bs : Nat → Nat) : Nat → Bool
  | 0 => true
  | 1 => true
  | i + 2 => okN bs (i + 1) && (bs (i + 1) / 64 == 2)
def badR (r n : Nat) : Bool := (decide (1114111 < r) || (decide (55296 ≤ r) && decide (r ≤ 57343))) || !((docZ r).length == n)
def r1C (n h : Nat) (bs : Nat → Nat) : Nat × Nat := if okN bs n = true then (if badR (accN h bs n) n = true then (0, 0) else (accN h bs n, n)) else (0, 0)


theorem join64 (a c : Nat) (ha : a < 33554432) (hc : c < 64) : bits .or .i32 ((a : Int) * 64) (c : Int) = ((a * 64 + c : Nat) : Int) := by
  rw [bits_join .i32 31 (by decide) wraps_i32 6 ((a : Int) * 64) (c : Int) (by omega) (by omega) (by omega) (by omega) (by omega) (by omega)]
  omega

theorem accN_lt (h : Nat) (bs : Nat → Nat) (hh : h < 32) : accN h bs 1 < 32 ∧ accN h bs 2 < 2048 ∧ accN h bs 3 < 131072 ∧ (h < 8 → accN h bs 4 < 2097152) := by
  refine ⟨hh, ?_, ?_, ?_⟩
  · simp only [accN]; omega
  · simp only [accN]; omega
  · intro h8; simp only [accN]; omega
theorem docZ_len (r : Int) : (docZ r).length = 1 ∨ (docZ r).length = 2 ∨ (docZ r).length = 3 ∨ (docZ r).length = 4 := by
  unfold docZ; split; · simp
  split; · simp
  split; · simp
  simp
theorem okN_no {bs : Nat → Nat} : ∀ {n k : Nat}, k + 1 < n → ¬ bs (k + 1) / 64 = 2 → okN bs n = false
  | 0, _, h, _ => by omega
  | 1, _, h, _ => by omega
  | n + 2, k, h, hb => by
    rw [okN]
    by_cases hk : k = n
    · subst hk
      have : (bs (k + 1) / 64 == 2) = false := by simpa using hb
      rw [this, Bool.and_false]
    · rw [okN_no (n := n + 1) (k := k) (by omega) hb, Bool.false_and]

set_option maxRecDepth 100000 in
set_option maxHeartbeats 4000000 in
theorem rune1_lead (w : World) (b off m cap n h : Nat) (bs : Nat → Nat) (hbs : ∀ i, bs i < 256) (hm : n ≤ m) (hc : ∀ i, i < m → w.cell? ⟨b, off + i, none⟩ = some (.int .u8 (bs i : Int)))
    (hcls : (n = 2 ∧ h = bs 0 % 32 ∧ bs 0 / 32 = 6) ∨ (n = 3 ∧ h = bs 0 % 16 ∧ bs 0 / 16 = 14) ∨ (n = 4 ∧ h = bs 0 % 8 ∧ bs 0 / 8 = 30)) :
    Calls Tryz.prog 18 #[.slice (some ⟨b, off, none⟩) m cap] w fun e w' => e = .returned (.tuple #[.int .i32 ((r1C n h bs).1 : Nat), .int .i64 ((r1C n h bs).2 : Nat)]) ∧ Below w.heap.size w w' := by
  have c23 := fun W r h0 h1 => rutf8_any W r h0 h1
  have h0 := hc 0 (by omega)
  rw [Nat.add_zero] at h0
  have hm0 : ((m : Int) == 0) = false := by simp; omega
  have hmI : (0 : Int) < (m : Int) := by omega
  have hmn : decide ((m : Int) < n) = false := by simp; omega
  have h256 := hbs 0
  have d1 : decide ((bs 0 : Int) < 128) = false := by simp; omega
  have hh : h < 32 := by omega
  obtain ⟨F, hF⟩ : ∃ F, r1C n h bs = F := ⟨_, rfl⟩
  rw [hF]
  have e224 := and224 ⟨bs 0, h256⟩
  have e240 := and240 ⟨bs 0, h256⟩
  have e248 := and248 ⟨bs 0, h256⟩
  simp only at e224 e240 e248
  have HC : Hid _ := hc
  have HBS : Hid _ := hbs
  have HF : Hid _ := hF
  obtain ⟨b0, hb0e⟩ : ∃ b0, bs 0 = b0 := ⟨_, rfl⟩
  rw [hb0e] at h0 d1 h256 e224 e240 e248 hcls
  clear hc hbs hF
  rcases hcls with ⟨rfl, rfl, hb0⟩ | ⟨rfl, rfl, hb0⟩ | ⟨rfl, rfl, hb0⟩
  · have a1 : (bits BinOp.and IntKind.u8 (b0 : Int) 224 == 192) = true := by rw [e224]; simp; omega
    clear e224 e240 e248
    go_enter Tryz.func18, Tryz.ntmps18
    go_wp2_with (first | (go_at_call 39; fail) | fail)
    go_quiet (fail)
    go_wp2_with (first | (go_at_call 39; fail) | fail)
    have HB0 : Hid (Below w.heap.size w (w.drewN nq)) := below_drewN (Below.refl _ _) nq
    clear a1
    go_loopw [5, 6] (fun s5 s6 wr => ∃ i : Nat, s6 = .int .i64 (i : Int) ∧ 1 ≤ i ∧ i ≤ 2 ∧ s5 = .int .i32 (accN (b0 % 32) bs i : Nat) ∧ okN bs i = true ∧ Hid (Below w.heap.size w wr)) (fun _ s6 _ => 2 - (intOf s6).toNat)
    case atStart => exact ⟨1, rfl, by omega, by omega, by simp [accN], rfl, HB0⟩
    case round =>
      obtain ⟨i, rfl, hi1, hi2, rfl, hok, HBr⟩ := hrel
      have hacc := accN_lt (b0 % 32) bs (by omega)
      by_cases hin : i < 2
      · have hci := (HBr.out.cell (p := ⟨b, off + i, none⟩) (cell_lt (HC.out i (by omega)))).trans (HC.out i (by omega))
        have hbi := HBS.out i
        have hbI : (i : Int) < 2 := by omega
        have hiM : (i : Int) < (m : Int) := by omega
        have hi0 : (0 : Int) ≤ (i : Int) := by omega
        have e192 := and192 ⟨bs i, hbi⟩
        simp only at e192
        obtain ⟨k, rfl⟩ : ∃ k, i = k + 1 := ⟨i - 1, by omega⟩
        have hA : accN (b0 % 32) bs (k + 1) < 131072 := by
          rcases (show k = 0 ∨ k = 1 ∨ k = 2 by omega) with rfl | rfl | rfl
          · exact Nat.lt_of_lt_of_le hacc.1 (by omega)
          · exact Nat.lt_of_lt_of_le hacc.2.1 (by omega)
          · exact Nat.lt_of_lt_of_le hacc.2.2.1 (by omega)
        by_cases hct : bs (k + 1) / 64 = 2
        · have hc2 : (bits BinOp.and IntKind.u8 (bs (k + 1) : Int) 192 != 128) = false := by rw [e192]; simp; omega
          have hj := join64 (accN (b0 % 32) bs (k + 1)) (bs (k + 1) % 64) (by omega) (by omega)
          have hok2 : okN bs (k + 2) = true := by rw [okN, hok, hct]; rfl
          have hac2 : accN (b0 % 32) bs (k + 2) = accN (b0 % 32) bs (k + 1) * 64 + bs (k + 1) % 64 := rfl
          obtain ⟨A, hAe⟩ : ∃ A, accN (b0 % 32) bs (k + 1) = A := ⟨_, rfl⟩
          rw [hAe] at hA hj hac2 ⊢
          have hj2 : bits BinOp.or IntKind.i32 ((A : Int) * 64) ((bs (k + 1) : Int) % 64) = ((A * 64 + bs (k + 1) % 64 : Nat) : Int) := by rw [← hj]; congr 1
          have HA2 : Hid _ := hac2
          clear hj hacc e192 hac2
          go_wp2_with (first | (go_at_call 39; fail) | fail)
          exact ⟨⟨k + 2, by simp; omega, by omega, by omega, by rw [HA2.out]; simp, hok2, HBr⟩, by simp [intOf]; omega⟩
        · have hc2 : (bits BinOp.and IntKind.u8 (bs (k + 1) : Int) 192 != 128) = true := by rw [e192]; simp; omega
          have hFe : F = (0, 0) := by
            rw [← HF.out]
            unfold r1C
            rw [if_neg (by rw [okN_no hin hct]; decide)]
          subst hFe
          clear hacc e192
          go_wp2_with (first | (go_at_call 39; fail) | fail)
          exact bodyPost_ret (v := .tuple #[.int .i32 0, .int .i64 0]) (by simp [results, Tryz.results18, go_sem]) rfl ⟨rfl, HBr.out⟩
      · obtain rfl : i = 2 := by omega
        have hFe : (if badR (accN (b0 % 32) bs 2) 2 = true then (0, 0) else (accN (b0 % 32) bs 2, 2)) = F := by
          rw [← HF.out]
          unfold r1C
          rw [if_pos hok]
        have hA : accN (b0 % 32) bs 2 < 2097152 := by have := hacc.2.1; omega
        obtain ⟨A, hAe⟩ : ∃ A, accN (b0 % 32) bs 2 = A := ⟨_, rfl⟩
        rw [hAe] at hA hFe ⊢
        clear hacc
        by_cases hr1 : 1114111 < A
        · rw [if_pos (by simp [badR, hr1])] at hFe
          subst hFe
          have q1 : decide ((1114111 : Int) < (A : Int)) = true := by simp; omega
          go_wp2_with (first | (go_at_call 39; fail) | fail)
          exact bodyPost_ret (v := .tuple #[.int .i32 0, .int .i64 0]) (by simp [results, Tryz.results18, go_sem]) rfl ⟨rfl, HBr.out⟩
        · have q1 : decide ((1114111 : Int) < (A : Int)) = false := by simp; omega
          by_cases hr2 : 55296 ≤ A ∧ A ≤ 57343
          · rw [if_pos (by simp [badR, hr2.1, hr2.2])] at hFe
            subst hFe
            have q2 : decide ((55296 : Int) ≤ (A : Int)) = true := by simp; omega
            have q3 : decide ((A : Int) ≤ 57343) = true := by simp; omega
            go_wp2_with (first | (go_at_call 39; fail) | fail)
            exact bodyPost_ret (v := .tuple #[.int .i32 0, .int .i64 0]) (by simp [results, Tryz.results18, go_sem]) rfl ⟨rfl, HBr.out⟩
          · have hbad : badR A 2 = !((docZ A).length == 2) := by
              unfold badR
              rw [decide_eq_false hr1, Bool.false_or]
              have : (decide (55296 ≤ A) && decide (A ≤ 57343)) = false := by
                by_cases h1 : 55296 ≤ A
                · rw [decide_eq_false (fun h2 => hr2 ⟨h1, h2⟩), Bool.and_false]
                · rw [decide_eq_false h1, Bool.false_and]
              rw [this, Bool.false_or]
            rw [hbad] at hFe
            have c := c23 wr (A : Int) (by omega) (by omega)
            clear c23 hbad
            generalize docZ (A : Int) = L at *
            have q4 : (55296 : Int) ≤ (A : Int) ∧ ¬ (A : Int) ≤ 57343 ∨ ¬ (55296 : Int) ≤ (A : Int) := by omega
            by_cases hl : L.length = 2
            · rw [if_neg (by simp [hl])] at hFe
              subst hFe
              rw [hl] at c
              rcases q4 with ⟨q2, q3⟩ | q2
              all_goals go_wp2_with (go_at_call 39; refine c.mono ?_; rintro e W1 ⟨rfl, rfl⟩)
              all_goals exact bodyPost_ret (v := .tuple #[.int .i32 (A : Int), .int .i64 2]) (by simp [results, Tryz.results18, go_sem]) rfl ⟨by simp, HBr.out.alloc HBr.out.size _⟩
            · rw [if_pos (by simp [hl])] at hFe
              subst hFe
              have hlI : ((L.length : Int) == 2) = false := by simp; omega
              have hlI2 : ((L.length : Int) != 2) = true := by simp; omega
              rcases q4 with ⟨q2, q3⟩ | q2
              all_goals go_wp2_with (go_at_call 39; refine c.mono ?_; rintro e W1 ⟨rfl, rfl⟩)
              all_goals exact bodyPost_ret (v := .tuple #[.int .i32 0, .int .i64 0]) (by simp [results, Tryz.results18, go_sem]) rfl ⟨rfl, HBr.out.alloc HBr.out.size _⟩
  · have a0 : (bits BinOp.and IntKind.u8 (b0 : Int) 224 == 192) = false := by rw [e224]; simp; omega
    have a1 : (bits BinOp.and IntKind.u8 (b0 : Int) 240 == 224) = true := by rw [e240]; simp; omega
    clear e224 e240 e248
    go_enter Tryz.func18, Tryz.ntmps18
    go_wp2_with (first | (go_at_call 39; fail) | fail)
    go_quiet (fail)
    go_wp2_with (first | (go_at_call 39; fail) | fail)
    have HB0 : Hid (Below w.heap.size w (w.drewN nq)) := below_drewN (Below.refl _ _) nq
    clear a1
    go_loopw [5, 6] (fun s5 s6 wr => ∃ i : Nat, s6 = .int .i64 (i : Int) ∧ 1 ≤ i ∧ i ≤ 3 ∧ s5 = .int .i32 (accN (b0 % 16) bs i : Nat) ∧ okN bs i = true ∧ Hid (Below w.heap.size w wr)) (fun _ s6 _ => 3 - (intOf s6).toNat)
    case atStart => exact ⟨1, rfl, by omega, by omega, by simp [accN], rfl, HB0⟩
    case round =>
      obtain ⟨i, rfl, hi1, hi2, rfl, hok, HBr⟩ := hrel
      have hacc := accN_lt (b0 % 16) bs (by omega)
      by_cases hin : i < 3
      · have hci := (HBr.out.cell (p := ⟨b, off + i, none⟩) (cell_lt (HC.out i (by omega)))).trans (HC.out i (by omega))
        have hbi := HBS.out i
        have hbI : (i : Int) < 3 := by omega
        have hiM : (i : Int) < (m : Int) := by omega
        have hi0 : (0 : Int) ≤ (i : Int) := by omega
        have e192 := and192 ⟨bs i, hbi⟩
        simp only at e192
        obtain ⟨k, rfl⟩ : ∃ k, i = k + 1 := ⟨i - 1, by omega⟩
        have hA : accN (b0 % 16) bs (k + 1) < 131072 := by
          rcases (show k = 0 ∨ k = 1 ∨ k = 2 by omega) with rfl | rfl | rfl
          · exact Nat.lt_of_lt_of_le hacc.1 (by omega)
          · exact Nat.lt_of_lt_of_le hacc.2.1 (by omega)
          · exact Nat.lt_of_lt_of_le hacc.2.2.1 (by omega)
        by_cases hct : bs (k + 1) / 64 = 2
        · have hc2 : (bits BinOp.and IntKind.u8 (bs (k + 1) : Int) 192 != 128) = false := by rw [e192]; simp; omega
          have hj := join64 (accN (b0 % 16) bs (k + 1)) (bs (k + 1) % 64) (by omega) (by omega)
          have hok2 : okN bs (k + 2) = true := by rw [okN, hok, hct]; rfl
          have hac2 : accN (b0 % 16) bs (k + 2) = accN (b0 % 16) bs (k + 1) * 64 + bs (k + 1) % 64 := rfl
          obtain ⟨A, hAe⟩ : ∃ A, accN (b0 % 16) bs (k + 1) = A := ⟨_, rfl⟩
          rw [hAe] at hA hj hac2 ⊢
          have hj2 : bits BinOp.or IntKind.i32 ((A : Int) * 64) ((bs (k + 1) : Int) % 64) = ((A * 64 + bs (k + 1) % 64 : Nat) : Int) := by rw [← hj]; congr 1
          have HA2 : Hid _ := hac2
          clear hj hacc e192 hac2
          go_wp2_with (first | (go_at_call 39; fail) | fail)
          exact ⟨⟨k + 2, by simp; omega, by omega, by omega, by rw [HA2.out]; simp, hok2, HBr⟩, by simp [intOf]; omega⟩
        · have hc2 : (bits BinOp.and IntKind.u8 (bs (k + 1) : Int) 192 != 128) = true := by rw [e192]; simp; omega
          have hFe : F = (0, 0) := by
            rw [← HF.out]
            unfold r1C
            rw [if_neg (by rw [okN_no hin hct]; decide)]
          subst hFe
          clear hacc e192
          go_wp2_with (first | (go_at_call 39; fail) | fail)
          exact bodyPost_ret (v := .tuple #[.int .i32 0, .int .i64 0]) (by simp [results, Tryz.results18, go_sem]) rfl ⟨rfl, HBr.out⟩
      · obtain rfl : i = 3 := by omega
        have hFe : (if badR (accN (b0 % 16) bs 3) 3 = true then (0, 0) else (accN (b0 % 16) bs 3, 3)) = F := by
          rw [← HF.out]
          unfold r1C
          rw [if_pos hok]
        have hA : accN (b0 % 16) bs 3 < 2097152 := by have := hacc.2.2.1; omega
        obtain ⟨A, hAe⟩ : ∃ A, accN (b0 % 16) bs 3 = A := ⟨_, rfl⟩
        rw [hAe] at hA hFe ⊢
        clear hacc
        by_cases hr1 : 1114111 < A
        · rw [if_pos (by simp [badR, hr1])] at hFe
          subst hFe
          have q1 : decide ((1114111 : Int) < (A : Int)) = true := by simp; omega
          go_wp2_with (first | (go_at_call 39; fail) | fail)
          exact bodyPost_ret (v := .tuple #[.int .i32 0, .int .i64 0]) (by simp [results, Tryz.results18, go_sem]) rfl ⟨rfl, HBr.out⟩
        · have q1 : decide ((1114111 : Int) < (A : Int)) = false := by simp; omega
          by_cases hr2 : 55296 ≤ A ∧ A ≤ 57343
          · rw [if_pos (by simp [badR, hr2.1, hr2.2])] at hFe
            subst hFe
            have q2 : decide ((55296 : Int) ≤ (A : Int)) = true := by simp; omega
            have q3 : decide ((A : Int) ≤ 57343) = true := by simp; omega
            go_wp2_with (first | (go_at_call 39; fail) | fail)
            exact bodyPost_ret (v := .tuple #[.int .i32 0, .int .i64 0]) (by simp [results, Tryz.results18, go_sem]) rfl ⟨rfl, HBr.out⟩
          · have hbad : badR A 3 = !((docZ A).length == 3) := by
              unfold badR
              rw [decide_eq_false hr1, Bool.false_or]
              have : (decide (55296 ≤ A) && decide (A ≤ 57343)) = false := by
                by_cases h1 : 55296 ≤ A
                · rw [decide_eq_false (fun h2 => hr2 ⟨h1, h2⟩), Bool.and_false]
                · rw [decide_eq_false h1, Bool.false_and]
              rw [this, Bool.false_or]
            rw [hbad] at hFe
            have c := c23 wr (A : Int) (by omega) (by omega)
            clear c23 hbad
            generalize docZ (A : Int) = L at *
            have q4 : (55296 : Int) ≤ (A : Int) ∧ ¬ (A : Int) ≤ 57343 ∨ ¬ (55296 : Int) ≤ (A : Int) := by omega
            by_cases hl : L.length = 3
            · rw [if_neg (by simp [hl])] at hFe
              subst hFe
              rw [hl] at c
              rcases q4 with ⟨q2, q3⟩ | q2
              all_goals go_wp2_with (go_at_call 39; refine c.mono ?_; rintro e W1 ⟨rfl, rfl⟩)
              all_goals exact bodyPost_ret (v := .tuple #[.int .i32 (A : Int), .int .i64 3]) (by simp [results, Tryz.results18, go_sem]) rfl ⟨by simp, HBr.out.alloc HBr.out.size _⟩
            · rw [if_pos (by simp [hl])] at hFe
              subst hFe
              have hlI : ((L.length : Int) == 3) = false := by simp; omega
              have hlI2 : ((L.length : Int) != 3) = true := by simp; omega
              rcases q4 with ⟨q2, q3⟩ | q2
              all_goals go_wp2_with (go_at_call 39; refine c.mono ?_; rintro e W1 ⟨rfl, rfl⟩)
              all_goals exact bodyPost_ret (v := .tuple #[.int .i32 0, .int .i64 0]) (by simp [results, Tryz.results18, go_sem]) rfl ⟨rfl, HBr.out.alloc HBr.out.size _⟩
  · have a0 : (bits BinOp.and IntKind.u8 (b0 : Int) 224 == 192) = false := by rw [e224]; simp; omega
    have a00 : (bits BinOp.and IntKind.u8 (b0 : Int) 240 == 224) = false := by rw [e240]; simp; omega
    have a1 : (bits BinOp.and IntKind.u8 (b0 : Int) 248 == 240) = true := by rw [e248]; simp; omega
    clear e224 e240 e248
    go_enter Tryz.func18, Tryz.ntmps18
    go_wp2_with (first | (go_at_call 39; fail) | fail)
    go_quiet (fail)
    go_wp2_with (first | (go_at_call 39; fail) | fail)
    have HB0 : Hid (Below w.heap.size w (w.drewN nq)) := below_drewN (Below.refl _ _) nq
    clear a1
    go_loopw [5, 6] (fun s5 s6 wr => ∃ i : Nat, s6 = .int .i64 (i : Int) ∧ 1 ≤ i ∧ i ≤ 4 ∧ s5 = .int .i32 (accN (b0 % 8) bs i : Nat) ∧ okN bs i = true ∧ Hid (Below w.heap.size w wr)) (fun _ s6 _ => 4 - (intOf s6).toNat)
    case atStart => exact ⟨1, rfl, by omega, by omega, by simp [accN], rfl, HB0⟩
    case round =>
      obtain ⟨i, rfl, hi1, hi2, rfl, hok, HBr⟩ := hrel
      have hacc := accN_lt (b0 % 8) bs (by omega)
      by_cases hin : i < 4
      · have hci := (HBr.out.cell (p := ⟨b, off + i, none⟩) (cell_lt (HC.out i (by omega)))).trans (HC.out i (by omega))
        have hbi := HBS.out i
        have hbI : (i : Int) < 4 := by omega
        have hiM : (i : Int) < (m : Int) := by omega
        have hi0 : (0 : Int) ≤ (i : Int) := by omega
        have e192 := and192 ⟨bs i, hbi⟩
        simp only at e192
        obtain ⟨k, rfl⟩ : ∃ k, i = k + 1 := ⟨i - 1, by omega⟩
        have hA : accN (b0 % 8) bs (k + 1) < 131072 := by
          rcases (show k = 0 ∨ k = 1 ∨ k = 2 by omega) with rfl | rfl | rfl
          · exact Nat.lt_of_lt_of_le hacc.1 (by omega)
          · exact Nat.lt_of_lt_of_le hacc.2.1 (by omega)
          · exact Nat.lt_of_lt_of_le hacc.2.2.1 (by omega)
        by_cases hct : bs (k + 1) / 64 = 2
        · have hc2 : (bits BinOp.and IntKind.u8 (bs (k + 1) : Int) 192 != 128) = false := by rw [e192]; simp; omega
          have hj := join64 (accN (b0 % 8) bs (k + 1)) (bs (k + 1) % 64) (by omega) (by omega)
          have hok2 : okN bs (k + 2) = true := by rw [okN, hok, hct]; rfl
          have hac2 : accN (b0 % 8) bs (k + 2) = accN (b0 % 8) bs (k + 1) * 64 + bs (k + 1) % 64 := rfl
          obtain ⟨A, hAe⟩ : ∃ A, accN (b0 % 8) bs (k + 1) = A := ⟨_, rfl⟩
          rw [hAe] at hA hj hac2 ⊢
          have hj2 : bits BinOp.or IntKind.i32 ((A : Int) * 64) ((bs (k + 1) : Int) % 64) = ((A * 64 + bs (k + 1) % 64 : Nat) : Int) := by rw [← hj]; congr 1
          have HA2 : Hid _ := hac2
          clear hj hacc e192 hac2
          go_wp2_with (first | (go_at_call 39; fail) | fail)
          exact ⟨⟨k + 2, by simp; omega, by omega, by omega, by rw [HA2.out]; simp, hok2, HBr⟩, by simp [intOf]; omega⟩
        · have hc2 : (bits BinOp.and IntKind.u8 (bs (k + 1) : Int) 192 != 128) = true := by rw [e192]; simp; omega
          have hFe : F = (0, 0) := by
            rw [← HF.out]
            unfold r1C
            rw [if_neg (by rw [okN_no hin hct]; decide)]
          subst hFe
          clear hacc e192
          go_wp2_with (first | (go_at_call 39; fail) | fail)
          exact bodyPost_ret (v := .tuple #[.int .i32 0, .int .i64 0]) (by simp [results, Tryz.results18, go_sem]) rfl ⟨rfl, HBr.out⟩
      · obtain rfl : i = 4 := by omega
        have hFe : (if badR (accN (b0 % 8) bs 4) 4 = true then (0, 0) else (accN (b0 % 8) bs 4, 4)) = F := by
          rw [← HF.out]
          unfold r1C
          rw [if_pos hok]
        have hA : accN (b0 % 8) bs 4 < 2097152 := by have := hacc.2.2.2 (by omega); omega
        obtain ⟨A, hAe⟩ : ∃ A, accN (b0 % 8) bs 4 = A := ⟨_, rfl⟩
        rw [hAe] at hA hFe ⊢
        clear hacc
        by_cases hr1 : 1114111 < A
        · rw [if_pos (by simp [badR, hr1])] at hFe
          subst hFe
          have q1 : decide ((1114111 : Int) < (A : Int)) = true := by simp; omega
          go_wp2_with (first | (go_at_call 39; fail) | fail)
          exact bodyPost_ret (v := .tuple #[.int .i32 0, .int .i64 0]) (by simp [results, Tryz.results18, go_sem]) rfl ⟨rfl, HBr.out⟩
        · have q1 : decide ((1114111 : Int) < (A : Int)) = false := by simp; omega
          by_cases hr2 : 55296 ≤ A ∧ A ≤ 57343
          · rw [if_pos (by simp [badR, hr2.1, hr2.2])] at hFe
            subst hFe
            have q2 : decide ((55296 : Int) ≤ (A : Int)) = true := by simp; omega
            have q3 : decide ((A : Int) ≤ 57343) = true := by simp; omega
            go_wp2_with (first | (go_at_call 39; fail) | fail)
            exact bodyPost_ret (v := .tuple #[.int .i32 0, .int .i64 0]) (by simp [results, Tryz.results18, go_sem]) rfl ⟨rfl, HBr.out⟩
          · have hbad : badR A 4 = !((docZ A).length == 4) := by
              unfold badR
              rw [decide_eq_false hr1, Bool.false_or]
              have : (decide (55296 ≤ A) && decide (A ≤ 57343)) = false := by
                by_cases h1 : 55296 ≤ A
                · rw [decide_eq_false (fun h2 => hr2 ⟨h1, h2⟩), Bool.and_false]
                · rw [decide_eq_false h1, Bool.false_and]
              rw [this, Bool.false_or]
            rw [hbad] at hFe
            have c := c23 wr (A : Int) (by omega) (by omega)
            clear c23 hbad
            generalize docZ (A : Int) = L at *
            have q4 : (55296 : Int) ≤ (A : Int) ∧ ¬ (A : Int) ≤ 57343 ∨ ¬ (55296 : Int) ≤ (A : Int) := by omega
            by_cases hl : L.length = 4
            · rw [if_neg (by simp [hl])] at hFe
              subst hFe
              rw [hl] at c
              rcases q4 with ⟨q2, q3⟩ | q2
              all_goals go_wp2_with (go_at_call 39; refine c.mono ?_; rintro e W1 ⟨rfl, rfl⟩)
              all_goals exact bodyPost_ret (v := .tuple #[.int .i32 (A : Int), .int .i64 4]) (by simp [results, Tryz.results18, go_sem]) rfl ⟨by simp, HBr.out.alloc HBr.out.size _⟩
            · rw [if_pos (by simp [hl])] at hFe
              subst hFe
              have hlI : ((L.length : Int) == 4) = false := by simp; omega
              have hlI2 : ((L.length : Int) != 4) = true := by simp; omega
              rcases q4 with ⟨q2, q3⟩ | q2
              all_goals go_wp2_with (go_at_call 39; refine c.mono ?_; rintro e W1 ⟨rfl, rfl⟩)
              all_goals exact bodyPost_ret (v := .tuple #[.int .i32 0, .int .i64 0]) (by simp [results, Tryz.results18, go_sem]) rfl ⟨rfl, HBr.out.alloc HBr.out.size _⟩

def lenZ (r : Nat) : Nat := if r < 128 then 1 else if r < 2048 then 2 else if r < 65536 then 3 else 4
theorem docZ_length (r : Nat) : (docZ (r : Int)).length = lenZ r := by
  unfold docZ lenZ
  by_cases h1 : r < 128
  · rw [if_pos (by omega), if_pos h1]; rfl
  · rw [if_neg (by omega), if_neg h1]
    by_cases h2 : r < 2048
    · rw [if_pos (by omega), if_pos h2]; rfl
    · rw [if_neg (by omega), if_neg h2]
      by_cases h3 : r < 65536
      · rw [if_pos (by omega), if_pos h3]; rfl
      · rw [if_neg (by omega), if_neg h3]; rfl
theorem badR_iff (r n : Nat) : (badR r n = true) = (1114111 < r ∨ (55296 ≤ r ∧ r ≤ 57343) ∨ ¬ lenZ r = n) := by
  unfold badR
  rw [docZ_length]
  simp [or_assoc]

/-- The rune and how many bytes it has; none. -/
def r1N (n b0 b1 b2 b3 : Nat) : Nat × Nat := if b0 < 128 then (b0, 1) else if (Lib.decodeN n b0 b1 b2 b3).2 < 2 then (0, 0) else Lib.decodeN n b0 b1 b2 b3

theorem badR_no {r n : Nat} (h1 : r ≤ 1114111) (h2 : r < 55296 ∨ 57343 < r) (h3 : lenZ r = n) : badR r n = false := by
  rw [Bool.eq_false_iff, ne_eq, badR_iff]
  omega
theorem badR_yes {r n : Nat} (h : 1114111 < r ∨ (55296 ≤ r ∧ r ≤ 57343) ∨ ¬ lenZ r = n) : badR r n = true := by
  rw [badR_iff]; exact h
theorem lenZ_two {r : Nat} (h1 : 128 ≤ r) (h2 : r < 2048) : lenZ r = 2 := by unfold lenZ; rw [if_neg (by omega), if_pos h2]
theorem lenZ_three {r : Nat} (h1 : 2048 ≤ r) (h2 : r < 65536) : lenZ r = 3 := by unfold lenZ; rw [if_neg (by omega), if_neg (by omega), if_pos h2]
theorem lenZ_four {r : Nat} (h1 : 65536 ≤ r) : lenZ r = 4 := by unfold lenZ; rw [if_neg (by omega), if_neg (by omega), if_neg (by omega)]
theorem lenZ_lt2 {r : Nat} (h : r < 128) : ¬ lenZ r = 2 := by unfold lenZ; rw [if_pos h]; decide
theorem lenZ_lt3 {r : Nat} (h : r < 2048) : ¬ lenZ r = 3 := by unfold lenZ; (repeat' split) <;> omega
theorem lenZ_lt4 {r : Nat} (h : r < 65536) : ¬ lenZ r = 4 := by unfold lenZ; (repeat' split) <;> omega

theorem r1N_of {n b0 b1 b2 b3 : Nat} {P : Nat × Nat} (h0 : ¬ b0 < 128) (h : Lib.decodeN n b0 b1 b2 b3 = P) : r1N n b0 b1 b2 b3 = if P.2 < 2 then (0, 0) else P := by
  unfold r1N
  rw [if_neg h0, h]
theorem r1C_bad {n h : Nat} {bs : Nat → Nat} (ho : okN bs n = false) : r1C n h bs = (0, 0) := by unfold r1C; rw [if_neg (by rw [ho]; decide)]
theorem r1C_ok {n h c : Nat} {bs : Nat → Nat} (ho : okN bs n = true) (hc : accN h bs n = c) : r1C n h bs = if badR c n = true then (0, 0) else (c, n) := by unfold r1C; rw [if_pos ho, hc]

theorem r1_two (m : Nat) (bs : Nat → Nat) (hm : 2 ≤ m) (h : bs 0 / 32 = 6) : r1C 2 (bs 0 % 32) bs = r1N m (bs 0) (bs 1) (bs 2) (bs 3) := by
  have hk : okN bs 2 = (bs 1 / 64 == 2) := by simp only [okN, Bool.true_and]
  have ha : accN (bs 0 % 32) bs 2 = bs 0 % 32 * 64 + bs 1 % 64 := rfl
  by_cases h1 : bs 1 / 64 = 2
  · rw [r1C_ok (by rw [hk]; simpa using h1) ha]
    have hlt : bs 0 % 32 * 64 + bs 1 % 64 < 2048 := by omega
    by_cases h2 : bs 0 % 32 * 64 + bs 1 % 64 ≥ 128
    · rw [r1N_of (P := (bs 0 % 32 * 64 + bs 1 % 64, 2)) (by omega) (by unfold Lib.decodeN; rw [if_neg (show ¬ bs 0 < 128 by omega), if_pos ⟨h, by omega, h1⟩, if_pos h2])]
      rw [badR_no (by omega) (by omega) (lenZ_two h2 hlt)]
      rfl
    · rw [r1N_of (P := (65533, 1)) (by omega) (by unfold Lib.decodeN; rw [if_neg (show ¬ bs 0 < 128 by omega), if_pos ⟨h, by omega, h1⟩, if_neg h2])]
      rw [badR_yes (.inr (.inr (lenZ_lt2 (by omega))))]
      rfl
  · rw [r1C_bad (by rw [hk]; simpa using h1)]
    rw [r1N_of (P := (65533, 1)) (by omega) (by unfold Lib.decodeN; rw [if_neg (show ¬ bs 0 < 128 by omega), if_neg (fun q => h1 q.2.2), if_neg (fun q => h1 q.2.1.2), if_neg (fun q => h1 q.2.1.2)])]
    rfl

theorem r1_three (m : Nat) (bs : Nat → Nat) (hm : 3 ≤ m) (h : bs 0 / 16 = 14) : r1C 3 (bs 0 % 16) bs = r1N m (bs 0) (bs 1) (bs 2) (bs 3) := by
  have hk : okN bs 3 = ((bs 1 / 64 == 2) && (bs 2 / 64 == 2)) := by simp only [okN, Bool.true_and]
  have ha : accN (bs 0 % 16) bs 3 = bs 0 % 16 * 4096 + bs 1 % 64 * 64 + bs 2 % 64 := by
    show (bs 0 % 16 * 64 + bs 1 % 64) * 64 + bs 2 % 64 = _
    omega
  have h6 : ¬ bs 0 / 32 = 6 := by omega
  by_cases h1 : bs 1 / 64 = 2 ∧ bs 2 / 64 = 2
  · rw [r1C_ok (by rw [hk]; simpa using h1) ha]
    have hlt : bs 0 % 16 * 4096 + bs 1 % 64 * 64 + bs 2 % 64 < 65536 := by omega
    have hD : Lib.decodeN m (bs 0) (bs 1) (bs 2) (bs 3) = (if bs 0 % 16 * 4096 + bs 1 % 64 * 64 + bs 2 % 64 ≥ 2048 ∧ (bs 0 % 16 * 4096 + bs 1 % 64 * 64 + bs 2 % 64 < 55296 ∨ (57344 ≤ bs 0 % 16 * 4096 + bs 1 % 64 * 64 + bs 2 % 64 ∧ bs 0 % 16 * 4096 + bs 1 % 64 * 64 + bs 2 % 64 ≤ 1114111)) then (bs 0 % 16 * 4096 + bs 1 % 64 * 64 + bs 2 % 64, 3) else (65533, 1)) := by
      unfold Lib.decodeN; rw [if_neg (show ¬ bs 0 < 128 by omega), if_neg (fun q => h6 q.1), if_pos ⟨h, ⟨by omega, h1.1⟩, by omega, h1.2⟩]
    generalize bs 0 % 16 * 4096 + bs 1 % 64 * 64 + bs 2 % 64 = c at *
    by_cases h2 : c ≥ 2048 ∧ (c < 55296 ∨ (57344 ≤ c ∧ c ≤ 1114111))
    · rw [if_pos h2] at hD
      rw [r1N_of (by omega) hD, badR_no (by omega) (by omega) (lenZ_three h2.1 hlt)]
      rfl
    · rw [if_neg h2] at hD
      rw [r1N_of (by omega) hD, badR_yes]
      · rfl
      · by_cases h4 : c < 2048
        · exact .inr (.inr (lenZ_lt3 h4))
        · exact .inr (.inl (by omega))
  · rw [r1C_bad (by rw [hk]; simpa using h1)]
    rw [r1N_of (P := (65533, 1)) (by omega) (by unfold Lib.decodeN; rw [if_neg (show ¬ bs 0 < 128 by omega), if_neg (fun q => h6 q.1), if_neg (fun q => h1 ⟨q.2.1.2, q.2.2.2⟩), if_neg (fun q => h1 ⟨q.2.1.2, q.2.2.1.2⟩)])]
    rfl

theorem r1_four (m : Nat) (bs : Nat → Nat) (hm : 4 ≤ m) (h : bs 0 / 8 = 30) : r1C 4 (bs 0 % 8) bs = r1N m (bs 0) (bs 1) (bs 2) (bs 3) := by
  have hk : okN bs 4 = (((bs 1 / 64 == 2) && (bs 2 / 64 == 2)) && (bs 3 / 64 == 2)) := by simp only [okN, Bool.true_and]
  have ha : accN (bs 0 % 8) bs 4 = bs 0 % 8 * 262144 + bs 1 % 64 * 4096 + bs 2 % 64 * 64 + bs 3 % 64 := by
    show ((bs 0 % 8 * 64 + bs 1 % 64) * 64 + bs 2 % 64) * 64 + bs 3 % 64 = _
    omega
  have h6 : ¬ bs 0 / 32 = 6 := by omega
  have h14 : ¬ bs 0 / 16 = 14 := by omega
  by_cases h1 : (bs 1 / 64 = 2 ∧ bs 2 / 64 = 2) ∧ bs 3 / 64 = 2
  · rw [r1C_ok (by rw [hk]; simpa using h1) ha]
    have hD : Lib.decodeN m (bs 0) (bs 1) (bs 2) (bs 3) = (if bs 0 % 8 * 262144 + bs 1 % 64 * 4096 + bs 2 % 64 * 64 + bs 3 % 64 ≥ 65536 ∧ (bs 0 % 8 * 262144 + bs 1 % 64 * 4096 + bs 2 % 64 * 64 + bs 3 % 64 < 55296 ∨ (57344 ≤ bs 0 % 8 * 262144 + bs 1 % 64 * 4096 + bs 2 % 64 * 64 + bs 3 % 64 ∧ bs 0 % 8 * 262144 + bs 1 % 64 * 4096 + bs 2 % 64 * 64 + bs 3 % 64 ≤ 1114111)) then (bs 0 % 8 * 262144 + bs 1 % 64 * 4096 + bs 2 % 64 * 64 + bs 3 % 64, 4) else (65533, 1)) := by
      unfold Lib.decodeN; rw [if_neg (show ¬ bs 0 < 128 by omega), if_neg (fun q => h6 q.1), if_neg (fun q => h14 q.1), if_pos ⟨h, ⟨by omega, h1.1.1⟩, ⟨by omega, h1.1.2⟩, by omega, h1.2⟩]
    generalize bs 0 % 8 * 262144 + bs 1 % 64 * 4096 + bs 2 % 64 * 64 + bs 3 % 64 = c at *
    by_cases h2 : c ≥ 65536 ∧ (c < 55296 ∨ (57344 ≤ c ∧ c ≤ 1114111))
    · rw [if_pos h2] at hD
      rw [r1N_of (by omega) hD, badR_no (by omega) (by omega) (lenZ_four h2.1)]
      rfl
    · rw [if_neg h2] at hD
      rw [r1N_of (by omega) hD, badR_yes]
      · rfl
      · by_cases h4 : c < 65536
        · exact .inr (.inr (lenZ_lt4 h4))
        · exact .inl (by omega)
  · rw [r1C_bad (by rw [hk]; simpa using h1)]
    rw [r1N_of (P := (65533, 1)) (by omega) (by unfold Lib.decodeN; rw [if_neg (show ¬ bs 0 < 128 by omega), if_neg (fun q => h6 q.1), if_neg (fun q => h14 q.1), if_neg (fun q => h1 ⟨⟨q.2.1.2, q.2.2.1.2⟩, q.2.2.2.2⟩)])]
    rfl

theorem r1_none {m b0 b1 b2 b3 : Nat} (h0 : ¬ b0 < 128) (h : Lib.decodeN m b0 b1 b2 b3 = (65533, 1)) : r1N m b0 b1 b2 b3 = (0, 0) := by
  rw [r1N_of h0 h]; rfl

set_option maxRecDepth 100000 in
set_option maxHeartbeats 4000000 in
theorem rune1_any (w : World) (b off m cap : Nat) (bs : Nat → Nat) (hbs : ∀ i, bs i < 256) (hm : 0 < m) (hc : ∀ i, i < m → w.cell? ⟨b, off + i, none⟩ = some (.int .u8 (bs i : Int))) :
    Calls Tryz.prog 18 #[.slice (some ⟨b, off, none⟩) m cap] w fun e w' => e = .returned (.tuple #[.int .i32 ((r1N m (bs 0) (bs 1) (bs 2) (bs 3)).1 : Nat), .int .i64 ((r1N m (bs 0) (bs 1) (bs 2) (bs 3)).2 : Nat)]) ∧ Below w.heap.size w w' := by
  have h256 := hbs 0
  have h0 := hc 0 (by omega)
  rw [Nat.add_zero] at h0
  have hm0 : ((m : Int) == 0) = false := by simp; omega
  have hmI : (0 : Int) < (m : Int) := by omega
  by_cases c0 : bs 0 < 128
  · have e : r1N m (bs 0) (bs 1) (bs 2) (bs 3) = (bs 0, 1) := by unfold r1N; rw [if_pos c0]
    rw [e]
    have d1 : decide ((bs 0 : Int) < 128) = true := by simp; omega
    generalize bs 0 = b0 at *
    clear e hc hbs
    go_enter Tryz.func18, Tryz.ntmps18
    go_wp2_with (first | (go_at_call 39; fail) | fail)
    exact bodyPost_ret (v := .tuple #[.int .i32 (b0 : Int), .int .i64 1]) (by simp [results, Tryz.results18, go_sem]) rfl ⟨rfl, Below.refl _ _⟩
  · have d1 : decide ((bs 0 : Int) < 128) = false := by simp; omega
    have e224 := and224 ⟨bs 0, h256⟩
    have e240 := and240 ⟨bs 0, h256⟩
    have e248 := and248 ⟨bs 0, h256⟩
    simp only at e224 e240 e248
    by_cases c2 : bs 0 / 32 = 6
    · by_cases h2 : 2 ≤ m
      · rw [← r1_two m bs h2 c2]
        exact rune1_lead w b off m cap 2 _ bs hbs h2 hc (.inl ⟨rfl, rfl, c2⟩)
      · have e : r1N m (bs 0) (bs 1) (bs 2) (bs 3) = (0, 0) := by
          refine r1_none c0 ?_
          unfold Lib.decodeN
          rw [if_neg c0, if_neg (fun q => by omega), if_neg (fun q => by omega), if_neg (fun q => by omega)]
        rw [e]
        have hmn : decide ((m : Int) < 2) = true := by simp; omega
        have a1 : (bits BinOp.and IntKind.u8 (bs 0 : Int) 224 == 192) = true := by rw [e224]; simp; omega
        generalize bs 0 = b0 at *
        clear e hc hbs e224 e240 e248
        go_enter Tryz.func18, Tryz.ntmps18
        go_wp2_with (first | (go_at_call 39; fail) | fail)
        go_quiet (fail)
        go_wp2_with (first | (go_at_call 39; fail) | fail)
        exact bodyPost_ret (v := .tuple #[.int .i32 0, .int .i64 0]) (by simp [results, Tryz.results18, go_sem]) rfl ⟨rfl, below_drewN (Below.refl _ _) _⟩
    · have a1 : (bits BinOp.and IntKind.u8 (bs 0 : Int) 224 == 192) = false := by rw [e224]; simp; omega
      by_cases c3 : bs 0 / 16 = 14
      · by_cases h2 : 3 ≤ m
        · rw [← r1_three m bs h2 c3]
          exact rune1_lead w b off m cap 3 _ bs hbs h2 hc (.inr (.inl ⟨rfl, rfl, c3⟩))
        · have e : r1N m (bs 0) (bs 1) (bs 2) (bs 3) = (0, 0) := by
            refine r1_none c0 ?_
            unfold Lib.decodeN
            rw [if_neg c0, if_neg (fun q => by omega), if_neg (fun q => by omega), if_neg (fun q => by omega)]
          rw [e]
          have hmn : decide ((m : Int) < 3) = true := by simp; omega
          have a2 : (bits BinOp.and IntKind.u8 (bs 0 : Int) 240 == 224) = true := by rw [e240]; simp; omega
          generalize bs 0 = b0 at *
          clear e hc hbs e224 e240 e248
          go_enter Tryz.func18, Tryz.ntmps18
          go_wp2_with (first | (go_at_call 39; fail) | fail)
          go_quiet (fail)
          go_wp2_with (first | (go_at_call 39; fail) | fail)
          exact bodyPost_ret (v := .tuple #[.int .i32 0, .int .i64 0]) (by simp [results, Tryz.results18, go_sem]) rfl ⟨rfl, below_drewN (Below.refl _ _) _⟩
      · have a2 : (bits BinOp.and IntKind.u8 (bs 0 : Int) 240 == 224) = false := by rw [e240]; simp; omega
        by_cases c4 : bs 0 / 8 = 30
        · by_cases h2 : 4 ≤ m
          · rw [← r1_four m bs h2 c4]
            exact rune1_lead w b off m cap 4 _ bs hbs h2 hc (.inr (.inr ⟨rfl, rfl, c4⟩))
          · have e : r1N m (bs 0) (bs 1) (bs 2) (bs 3) = (0, 0) := by
              refine r1_none c0 ?_
              unfold Lib.decodeN
              rw [if_neg c0, if_neg (fun q => by omega), if_neg (fun q => by omega), if_neg (fun q => by omega)]
            rw [e]
            have hmn : decide ((m : Int) < 4) = true := by simp; omega
            have a3 : (bits BinOp.and IntKind.u8 (bs 0 : Int) 248 == 240) = true := by rw [e248]; simp; omega
            generalize bs 0 = b0 at *
            clear e hc hbs e224 e240 e248
            go_enter Tryz.func18, Tryz.ntmps18
            go_wp2_with (first | (go_at_call 39; fail) | fail)
            go_quiet (fail)
            go_wp2_with (first | (go_at_call 39; fail) | fail)
            exact bodyPost_ret (v := .tuple #[.int .i32 0, .int .i64 0]) (by simp [results, Tryz.results18, go_sem]) rfl ⟨rfl, below_drewN (Below.refl _ _) _⟩
        · have e : r1N m (bs 0) (bs 1) (bs 2) (bs 3) = (0, 0) := by
            refine r1_none c0 ?_
            unfold Lib.decodeN
            rw [if_neg c0, if_neg (fun q => by omega), if_neg (fun q => by omega), if_neg (fun q => by omega)]
          rw [e]
          have a3 : (bits BinOp.and IntKind.u8 (bs 0 : Int) 248 == 240) = false := by rw [e248]; simp; omega
          generalize bs 0 = b0 at *
          clear e hc hbs e224 e240 e248
          go_enter Tryz.func18, Tryz.ntmps18
          go_wp2_with (first | (go_at_call 39; fail) | fail)
          exact bodyPost_ret (v := .tuple #[.int .i32 0, .int .i64 0]) (by simp [results, Tryz.results18, go_sem]) rfl ⟨rfl, Below.refl _ _⟩
end Go.Proofs.YtegfgbcimlacbaaGreatDoor
