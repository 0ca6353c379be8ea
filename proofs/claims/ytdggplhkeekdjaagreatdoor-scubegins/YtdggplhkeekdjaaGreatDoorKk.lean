import Derived.Test.YtdggplhkeekdjaaGreatDoorKi
/-
  DERIVED. The document's look for what may not stand there; how long a text is.
-/
namespace Go.Proofs.YtdggplhkeekdjaaGreatDoor.Ck
open Go Go.Proofs Go.RowKit

/-- The first byte that may not be there. -/
def bcB (P : Nat → Bool) (s : ByteArray) : Nat → Nat → Int
  | 0, _ => -1
  | f + 1, i => if i < s.size then (if P (s.get! i).toNat = true then bcB P s f (i + 1) else (i : Int)) else -1
/-- The first character that may not be there. -/
def bcC (Q : Int → Bool) (s : ByteArray) : Nat → Nat → Int
  | 0, _ => -1
  | f + 1, i => if i < s.size then (if Q (rn s i).1 = true then bcC Q s f (i + (rn s i).2) else (i : Int)) else -1
theorem rnL_le (s : ByteArray) (i n least c : Nat) (h : i < s.size) : 1 ≤ (rnL s i n least c).2 ∧ i + (rnL s i n least c).2 ≤ s.size := by
  unfold rnL
  split
  · exact ⟨Nat.le_refl _, by show i + 1 ≤ _; omega⟩
  · split
    · exact ⟨Nat.le_refl _, by show i + 1 ≤ _; omega⟩
    · split
      · exact ⟨Nat.le_refl _, by show i + 1 ≤ _; omega⟩
      · exact ⟨by show 1 ≤ n + 1; omega, by show i + (n + 1) ≤ _; omega⟩
theorem rn_le (s : ByteArray) (i : Nat) (h : i < s.size) : 1 ≤ (rn s i).2 ∧ i + (rn s i).2 ≤ s.size := by
  unfold rn
  split
  · exact ⟨Nat.le_refl _, by show i + 1 ≤ _; omega⟩
  · split
    · exact rnL_le _ _ _ _ _ h
    · split
      · exact rnL_le _ _ _ _ _ h
      · split
        · exact rnL_le _ _ _ _ _ h
        · exact ⟨Nat.le_refl _, by show i + 1 ≤ _; omega⟩

def inf (nm : ByteArray) (pd un mo : Int) (tx ch mu lo : Bool) : Value := .agg #[.string nm, .int .u8 pd, .int .i64 un, .int .i64 mo, .bool tx, .bool ch, .bool mu, .bool lo]
def infC (nm : ByteArray) (pd un mo : Int) (tx ch mu lo : Bool) : Array Value := #[.string nm, .int .u8 pd, .int .i64 un, .int .i64 mo, .bool tx, .bool ch, .bool mu, .bool lo]

set_option maxRecDepth 100000 in
set_option maxHeartbeats 2000000 in
theorem bad_none (w : World) (v : Int) (nm : ByteArray) (pd un mo : Int) (ch mu lo : Bool) (s : ByteArray) : Calls Tryz.prog 41 #[.int .i64 v, inf nm pd un mo false ch mu lo, .string s] w fun e w' => e = .returned (.int .i64 (-1)) ∧ Below w.heap.size w w' := by
  unfold inf
  obtain ⟨W0, hW0⟩ : ∃ W0, w.alloc (.cells (infC nm pd un mo false ch mu lo) 125) = W0 := ⟨_, rfl⟩
  have hb0 : Below w.heap.size w W0 := hW0 ▸ (Below.refl _ _).alloc (Nat.le_refl _) _
  have c4 : W0.cell? ⟨w.heap.size, 4, none⟩ = some (.bool false) := by rw [← hW0]; simp [infC]
  unfold infC at hW0
  have HB : Hid (Below w.heap.size w W0) := hb0
  clear hb0
  go_enter Tryz.func41, Tryz.ntmps41
  go_wp2
  go_loopg [7] 0 (fun g s7 wx => s7 = .int .i64 0 ∧ wx = W0)
  case atStart => exact ⟨rfl, rfl⟩
  case round =>
    obtain ⟨rfl, hw⟩ := hrel
    subst hw
    go_wp2
    go_ret
    exact ⟨rfl, HB.out⟩

set_option maxRecDepth 100000 in
set_option maxHeartbeats 2000000 in
theorem bad_bytes (w : World) (v : Int) (nm : ByteArray) (pd un mo : Int) (mu lo : Bool) (s : ByteArray) (hs : s.size ≤ 140737488351232) (P : Nat → Bool)
    (cP : ∀ W b, Calls Tryz.prog 56 #[.int .i64 v, .int .u8 ((b : Nat) : Int)] W fun e w' => e = .returned (.bool (P b)) ∧ W = w') : Calls Tryz.prog 41 #[.int .i64 v, inf nm pd un mo true false mu lo, .string s] w fun e w' => e = .returned (.int .i64 (bcB P s s.size 0)) ∧ Below w.heap.size w w' := by
  unfold inf
  obtain ⟨W0, hW0⟩ : ∃ W0, w.alloc (.cells (infC nm pd un mo true false mu lo) 125) = W0 := ⟨_, rfl⟩
  have hb0 : Below w.heap.size w W0 := hW0 ▸ (Below.refl _ _).alloc (Nat.le_refl _) _
  have c4 : W0.cell? ⟨w.heap.size, 4, none⟩ = some (.bool true) := by rw [← hW0]; simp [infC]
  have c5 : W0.cell? ⟨w.heap.size, 5, none⟩ = some (.bool false) := by rw [← hW0]; simp [infC]
  unfold infC at hW0
  have HB : Hid (Below w.heap.size w W0) := hb0
  obtain ⟨R, hR⟩ : ∃ R, bcB P s s.size 0 = R := ⟨_, rfl⟩
  have HR : Hid (bcB P s (s.size - 0) 0 = R) := hR
  rw [hR]
  have HP : Hid _ := cP
  clear hb0 hR cP
  go_enter Tryz.func41, Tryz.ntmps41
  go_wp2
  go_loopg [7] s.size (fun g s7 wx => ∃ i : Nat, s7 = .int .i64 (i : Int) ∧ i ≤ s.size ∧ g + i = s.size ∧ Hid (bcB P s (s.size - i) i = R) ∧ wx = W0)
  case atStart => exact ⟨0, rfl, by omega, by omega, HR, rfl⟩
  case round =>
    clear HR
    obtain ⟨i, rfl, hi, hg, HI, hw⟩ := hrel
    subst hw
    by_cases hlt : i < s.size
    · have iI : (i : Int) < (s.size : Int) := by omega
      obtain ⟨b, hb⟩ : ∃ b, s[i].toNat = b := ⟨_, rfl⟩
      have hgb : (s.get! i).toNat = b := by rw [← get_get! s i hlt, hb]
      have HI2 : Hid ((if P b = true then bcB P s (s.size - (i + 1)) (i + 1) else (i : Int)) = R) := by
        have h := HI.out
        rw [show s.size - i = (s.size - (i + 1)) + 1 by omega, bcB, if_pos hlt, hgb] at h
        exact h
      have c := HP.out wr b
      clear HI hgb
      cases hp : P b with
      | true =>
        rw [hp] at c
        have HI3 : Hid (bcB P s (s.size - (i + 1)) (i + 1) = R) := by have := HI2.out; rw [if_pos hp] at this; exact this
        clear HI2 hp
        go_wp2_with (go_at_call 56; refine Stop.mk ?_)
        refine Stop.out (c.mono ?_)
        rintro e W1 ⟨rfl, rfl⟩
        clear c
        go_wp2
        go_roundg (s.size - (i + 1))
        case measure => omega
        case rel => exact ⟨i + 1, by simp, by omega, by omega, HI3, rfl⟩
      | false =>
        rw [hp] at c
        obtain rfl : (i : Int) = R := by have := HI2.out; rw [if_neg (by rw [hp]; simp)] at this; exact this
        clear HI2 hp
        go_wp2_with (go_at_call 56; refine Stop.mk ?_)
        refine Stop.out (c.mono ?_)
        rintro e W1 ⟨rfl, rfl⟩
        clear c
        go_wp2
        go_ret
        exact ⟨rfl, HB.out⟩
    · have iI : ¬ ((i : Int) < (s.size : Int)) := by omega
      obtain rfl : (-1 : Int) = R := by
        have h := HI.out
        rw [show s.size - i = 0 by omega, bcB] at h
        exact h
      clear HI
      go_wp2
      go_ret
      exact ⟨rfl, HB.out⟩

set_option maxRecDepth 100000 in
set_option maxHeartbeats 2000000 in
theorem bad_chars (w : World) (v : Int) (nm : ByteArray) (pd un mo : Int) (mu lo : Bool) (s : ByteArray) (hs : s.size ≤ 140737488351232) (Q : Int → Bool)
    (cQ : ∀ W c, Calls Tryz.prog 55 #[.int .i64 v, .int .i64 c] W fun e w' => e = .returned (.bool (Q c)) ∧ W = w') : Calls Tryz.prog 41 #[.int .i64 v, inf nm pd un mo true true mu lo, .string s] w fun e w' => e = .returned (.int .i64 (bcC Q s s.size 0)) ∧ Below w.heap.size w w' := by
  unfold inf
  obtain ⟨W0, hW0⟩ : ∃ W0, w.alloc (.cells (infC nm pd un mo true true mu lo) 125) = W0 := ⟨_, rfl⟩
  have hb0 : Below w.heap.size w W0 := hW0 ▸ (Below.refl _ _).alloc (Nat.le_refl _) _
  have c4 : W0.cell? ⟨w.heap.size, 4, none⟩ = some (.bool true) := by rw [← hW0]; simp [infC]
  have c5 : W0.cell? ⟨w.heap.size, 5, none⟩ = some (.bool true) := by rw [← hW0]; simp [infC]
  unfold infC at hW0
  have HB : Hid (Below w.heap.size w W0) := hb0
  obtain ⟨R, hR⟩ : ∃ R, bcC Q s s.size 0 = R := ⟨_, rfl⟩
  have HR : Hid (bcC Q s s.size 0 = R) := hR
  rw [hR]
  have HQ : Hid _ := cQ
  have HU : Hid (∀ i, i < s.size → Calls Tryz.prog 54 #[.string s, .int .i64 (i : Int)] W0 fun e w' => e = .returned (.tuple #[.int .i64 (rn s i).1, .int .i64 ((rn s i).2 : Nat)]) ∧ W0 = w') := fun i h => rune_any W0 s i hs h
  clear hb0 hR cQ
  go_enter Tryz.func41, Tryz.ntmps41
  go_wp2
  go_loopg [7] s.size (fun g s7 wx => ∃ i q : Nat, s7 = .int .i64 (i : Int) ∧ i ≤ s.size ∧ q = g ∧ s.size ≤ q + i ∧ Hid (bcC Q s q i = R) ∧ wx = W0)
  case atStart => exact ⟨0, s.size, rfl, by omega, rfl, by omega, HR, rfl⟩
  case round =>
    clear HR
    obtain ⟨i, q, rfl, hi, hq, hg, HI, hw⟩ := hrel
    subst hw
    by_cases hlt : i < s.size
    · have iI : (i : Int) < (s.size : Int) := by omega
      obtain ⟨q', hq'⟩ : ∃ q', q = q' + 1 := ⟨q - 1, by omega⟩
      have cu := HU.out i hlt
      have hrn := rn_le s i hlt
      have HI2 : Hid ((if Q (rn s i).1 = true then bcC Q s q' (i + (rn s i).2) else (i : Int)) = R) := by
        have h := HI.out
        rw [hq', bcC, if_pos hlt] at h
        exact h
      clear HI
      generalize (rn s i).1 = c at *
      generalize (rn s i).2 = n at *
      have cc := HQ.out wr c
      cases hp : Q c with
      | true =>
        rw [hp] at cc
        have HI3 : Hid (bcC Q s q' (i + n) = R) := by have := HI2.out; rw [if_pos hp] at this; exact this
        clear HI2 hp
        go_wp2_with (go_at_call 54; refine Stop.mk ?_)
        refine Stop.out (cu.mono ?_)
        rintro e W1 ⟨rfl, rfl⟩
        clear cu
        go_wp2_with (go_at_call 55; refine Stop.mk ?_)
        refine Stop.out (cc.mono ?_)
        rintro e W1 ⟨rfl, rfl⟩
        clear cc
        go_wp2
        go_roundg q'
        case measure => omega
        case rel => exact ⟨i + n, q', by simp, by omega, rfl, by omega, HI3, rfl⟩
      | false =>
        rw [hp] at cc
        obtain rfl : (i : Int) = R := by have := HI2.out; rw [if_neg (by rw [hp]; simp)] at this; exact this
        clear HI2 hp
        go_wp2_with (go_at_call 54; refine Stop.mk ?_)
        refine Stop.out (cu.mono ?_)
        rintro e W1 ⟨rfl, rfl⟩
        clear cu
        go_wp2_with (go_at_call 55; refine Stop.mk ?_)
        refine Stop.out (cc.mono ?_)
        rintro e W1 ⟨rfl, rfl⟩
        clear cc
        go_wp2
        go_ret
        exact ⟨rfl, HB.out⟩
    · have iI : ¬ ((i : Int) < (s.size : Int)) := by omega
      obtain rfl : (-1 : Int) = R := by
        have h := HI.out
        cases q with
        | zero => exact h
        | succ q => rw [bcC, if_neg hlt] at h; exact h
      clear HI
      go_wp2
      go_ret
      exact ⟨rfl, HB.out⟩
end Go.Proofs.YtdggplhkeekdjaaGreatDoor.Ck

/-
  DERIVED. How long a text is: the document's look.
-/
namespace Go.Proofs.YtdggplhkeekdjaaGreatDoor.Ck
open Go Go.Proofs Go.RowKit

/-- How many bytes one step goes on. -/
def wd (ch : Bool) (s : ByteArray) (i : Nat) : Nat := if ch = true then (rn s i).2 else 1
/-- Is it longer than so much? -/
def lgG (pn ch : Bool) (mo : Nat) (s : ByteArray) : Nat → Nat → Nat → Bool
  | 0, _, n => decide (mo < n)
  | f + 1, i, n => if i < s.size then (if mo + 1 ≤ n then true else lgG pn ch mo s f (i + wd ch s i) (if pn = true ∧ (s.get! i).toNat = 61 then 0 else n + 1)) else decide (mo < n)

set_option maxRecDepth 100000 in
set_option maxHeartbeats 4000000 in
theorem long_any (w : World) (v : Int) (nm : ByteArray) (pd un : Int) (mo : Nat) (tx ch mu lo : Bool) (s : ByteArray) (hs : s.size ≤ 140737488351232) (hmo : mo ≤ 1000000) (pn : Bool) (hpn : (v == 15) = pn) :
    Calls Tryz.prog 40 #[.int .i64 v, inf nm pd un mo tx ch mu lo, .string s] w fun e w' => e = .returned (.bool (lgG pn ch mo s s.size 0 0)) ∧ Below w.heap.size w w' := by
  unfold inf
  obtain ⟨W0, hW0⟩ : ∃ W0, w.alloc (.cells (infC nm pd un mo tx ch mu lo) 125) = W0 := ⟨_, rfl⟩
  have hb0 : Below w.heap.size w W0 := hW0 ▸ (Below.refl _ _).alloc (Nat.le_refl _) _
  have c3 : W0.cell? ⟨w.heap.size, 3, none⟩ = some (.int .i64 (mo : Int)) := by rw [← hW0]; simp [infC]
  have c5 : W0.cell? ⟨w.heap.size, 5, none⟩ = some (.bool ch) := by rw [← hW0]; simp [infC]
  unfold infC at hW0
  have HB : Hid (Below w.heap.size w W0) := hb0
  obtain ⟨R, hR⟩ : ∃ R, lgG pn ch mo s s.size 0 0 = R := ⟨_, rfl⟩
  have HR : Hid (lgG pn ch mo s s.size 0 0 = R) := hR
  rw [hR]
  have HU : Hid (∀ i, i < s.size → Calls Tryz.prog 54 #[.string s, .int .i64 (i : Int)] W0 fun e w' => e = .returned (.tuple #[.int .i64 (rn s i).1, .int .i64 ((rn s i).2 : Nat)]) ∧ W0 = w') := fun i h => rune_any W0 s i hs h
  clear hb0 hR
  go_enter Tryz.func40, Tryz.ntmps40
  go_wp2
  go_loopg [7, 8] s.size (fun g s7 s8 wx => ∃ i q n : Nat, s7 = .int .i64 (n : Int) ∧ s8 = .int .i64 (i : Int) ∧ i ≤ s.size ∧ n ≤ mo + 1 ∧ q = g ∧ s.size ≤ q + i ∧ Hid (lgG pn ch mo s q i n = R) ∧ wx = W0)
  case atStart => exact ⟨0, s.size, 0, rfl, rfl, by omega, by omega, rfl, by omega, HR, rfl⟩
  case round =>
    clear HR
    obtain ⟨i, q, n, rfl, rfl, hi, hn, hq, hg, HI, hw⟩ := hrel
    subst hw
    by_cases hlt : i < s.size
    · have iI : (i : Int) < (s.size : Int) := by omega
      obtain ⟨q', hq'⟩ : ∃ q', q = q' + 1 := ⟨q - 1, by omega⟩
      have HI2 : Hid ((if mo + 1 ≤ n then true else lgG pn ch mo s q' (i + wd ch s i) (if pn = true ∧ (s.get! i).toNat = 61 then 0 else n + 1)) = R) := by
        have h := HI.out
        rw [hq', lgG, if_pos hlt] at h
        exact h
      clear HI
      by_cases hnm : mo + 1 ≤ n
      · have nI : (n : Int) ≥ (mo : Int) + 1 := by omega
        obtain rfl : R = true := by have := HI2.out; rw [if_pos hnm] at this; exact this.symm
        clear HI2
        go_wp2
        go_ret
        exact ⟨rfl, HB.out⟩
      · have nI : ¬ ((n : Int) ≥ (mo : Int) + 1) := by omega
        rw [if_neg hnm] at HI2
        obtain ⟨b, hb⟩ : ∃ b, s[i].toNat = b := ⟨_, rfl⟩
        have hgb : (s.get! i).toNat = b := by rw [← get_get! s i hlt, hb]
        rw [hgb] at HI2
        clear hgb
        have hw1 : 1 ≤ wd ch s i ∧ i + wd ch s i ≤ s.size := by
          unfold wd
          split
          · exact rn_le s i hlt
          · omega
        have cu := HU.out i hlt
        cases ch with
        | true =>
          have ew : wd true s i = (rn s i).2 := by unfold wd; rw [if_pos rfl]
          rw [ew] at HI2 hw1
          clear ew
          generalize (rn s i).1 = c at *
          generalize (rn s i).2 = k at *
          cases pn with
          | true =>
            by_cases h61 : b = 61
            · have HI3 : Hid (lgG true true mo s q' (i + k) 0 = R) := by have := HI2.out; rw [if_pos ⟨rfl, h61⟩] at this; exact this
              subst h61
              clear HI2
              go_wp2_with (go_at_call 54; refine Stop.mk ?_)
              refine Stop.out (cu.mono ?_)
              rintro e W1 ⟨rfl, rfl⟩
              clear cu
              go_wp2
              go_roundg q'
              case measure => omega
              case rel => exact ⟨i + k, q', 0, rfl, by simp, by omega, by omega, rfl, by omega, HI3, rfl⟩
            · have e61 : ((b : Int) == 61) = false := by simp; omega
              have HI3 : Hid (lgG true true mo s q' (i + k) (n + 1) = R) := by have := HI2.out; rw [if_neg (fun h => h61 h.2)] at this; exact this
              clear HI2
              go_wp2_with (go_at_call 54; refine Stop.mk ?_)
              refine Stop.out (cu.mono ?_)
              rintro e W1 ⟨rfl, rfl⟩
              clear cu
              go_wp2
              go_roundg q'
              case measure => omega
              case rel => exact ⟨i + k, q', n + 1, by simp, by simp, by omega, by omega, rfl, by omega, HI3, rfl⟩
          | false =>
            have HI3 : Hid (lgG false true mo s q' (i + k) (n + 1) = R) := by have := HI2.out; rw [if_neg (fun h => by cases h.1)] at this; exact this
            clear HI2
            go_wp2_with (go_at_call 54; refine Stop.mk ?_)
            refine Stop.out (cu.mono ?_)
            rintro e W1 ⟨rfl, rfl⟩
            clear cu
            go_wp2
            go_roundg q'
            case measure => omega
            case rel => exact ⟨i + k, q', n + 1, by simp, by simp, by omega, by omega, rfl, by omega, HI3, rfl⟩
        | false =>
          have ew : wd false s i = 1 := rfl
          rw [ew] at HI2 hw1
          clear ew cu
          cases pn with
          | true =>
            by_cases h61 : b = 61
            · have HI3 : Hid (lgG true false mo s q' (i + 1) 0 = R) := by have := HI2.out; rw [if_pos ⟨rfl, h61⟩] at this; exact this
              subst h61
              clear HI2
              go_wp2
              go_roundg q'
              case measure => omega
              case rel => exact ⟨i + 1, q', 0, rfl, by simp, by omega, by omega, rfl, by omega, HI3, rfl⟩
            · have e61 : ((b : Int) == 61) = false := by simp; omega
              have HI3 : Hid (lgG true false mo s q' (i + 1) (n + 1) = R) := by have := HI2.out; rw [if_neg (fun h => h61 h.2)] at this; exact this
              clear HI2
              go_wp2
              go_roundg q'
              case measure => omega
              case rel => exact ⟨i + 1, q', n + 1, by simp, by simp, by omega, by omega, rfl, by omega, HI3, rfl⟩
          | false =>
            have HI3 : Hid (lgG false false mo s q' (i + 1) (n + 1) = R) := by have := HI2.out; rw [if_neg (fun h => by cases h.1)] at this; exact this
            clear HI2
            go_wp2
            go_roundg q'
            case measure => omega
            case rel => exact ⟨i + 1, q', n + 1, by simp, by simp, by omega, by omega, rfl, by omega, HI3, rfl⟩
    · have iI : ¬ ((i : Int) < (s.size : Int)) := by omega
      have hR : decide (mo < n) = R := by
        have h := HI.out
        cases q with
        | zero => exact h
        | succ q => rw [lgG, if_neg hlt] at h; exact h
      have e : decide (mo < n) = decide ((n : Int) > (mo : Int)) := by rw [Bool.eq_iff_iff, decide_eq_true_eq, decide_eq_true_eq]; omega
      rw [e] at hR
      subst hR
      clear HI e
      go_wp2
      go_ret
      exact ⟨rfl, HB.out⟩
end Go.Proofs.YtdggplhkeekdjaaGreatDoor.Ck
