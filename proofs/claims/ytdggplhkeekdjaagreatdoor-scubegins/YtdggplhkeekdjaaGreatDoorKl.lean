import Derived.Test.YtdggplhkeekdjaaGreatDoorKk
/-
  DERIVED. The program's questions of characters and digits.
-/
namespace Go.Proofs.YtdggplhkeekdjaaGreatDoor.Ck
open Go Go.Proofs Go.RowKit

def dgI (c : Int) : Bool := decide (48 ≤ c) && decide (c ≤ 57)
theorem isDigit74_any (w : World) (c : Int) : Calls Tryz.prog 120 #[.int .i32 c] w fun e w' => e = .returned (.bool (dgI c)) ∧ w = w' := by
  unfold dgI
  by_cases h1 : 48 ≤ c
  · have i1 : c ≥ 48 := h1
    rw [decide_eq_true h1, Bool.true_and]
    by_cases h2 : c ≤ 57
    · rw [decide_eq_true h2]
      go_enter Tryz.func120, Tryz.ntmps120
      go_wp2
      go_ret
      exact ⟨rfl, rfl⟩
    · rw [decide_eq_false h2]
      go_enter Tryz.func120, Tryz.ntmps120
      go_wp2
      go_ret
      exact ⟨rfl, rfl⟩
  · have i1 : ¬ (c ≥ 48) := h1
    rw [decide_eq_false h1, Bool.false_and]
    go_enter Tryz.func120, Tryz.ntmps120
    go_wp2
    go_ret
    exact ⟨rfl, rfl⟩
def cpI (c : Int) : Bool := decide (65 ≤ c) && decide (c ≤ 90)
theorem isCapital_any (w : World) (c : Int) : Calls Tryz.prog 139 #[.int .i32 c] w fun e w' => e = .returned (.bool (cpI c)) ∧ w = w' := by
  unfold cpI
  by_cases h1 : 65 ≤ c
  · have i1 : c ≥ 65 := h1
    rw [decide_eq_true h1, Bool.true_and]
    by_cases h2 : c ≤ 90
    · rw [decide_eq_true h2]
      go_enter Tryz.func139, Tryz.ntmps139
      go_wp2
      go_ret
      exact ⟨rfl, rfl⟩
    · rw [decide_eq_false h2]
      go_enter Tryz.func139, Tryz.ntmps139
      go_wp2
      go_ret
      exact ⟨rfl, rfl⟩
  · have i1 : ¬ (c ≥ 65) := h1
    rw [decide_eq_false h1, Bool.false_and]
    go_enter Tryz.func139, Tryz.ntmps139
    go_wp2
    go_ret
    exact ⟨rfl, rfl⟩
theorem isControl_any (w : World) (c : Int) : Calls Tryz.prog 148 #[.int .i32 c] w fun e w' => e = .returned (.bool (ctl c)) ∧ w = w' := by
  unfold ctl
  by_cases h1 : c < 32
  · rw [decide_eq_true h1, Bool.true_or]
    go_enter Tryz.func148, Tryz.ntmps148
    go_wp2
    go_ret
    exact ⟨rfl, rfl⟩
  · rw [decide_eq_false h1, Bool.false_or]
    by_cases h2 : 127 ≤ c
    · have i2 : c ≥ 127 := h2
      rw [decide_eq_true h2, Bool.true_and]
      by_cases h3 : c ≤ 159
      · rw [decide_eq_true h3]
        go_enter Tryz.func148, Tryz.ntmps148
        go_wp2
        go_ret
        exact ⟨rfl, rfl⟩
      · rw [decide_eq_false h3]
        go_enter Tryz.func148, Tryz.ntmps148
        go_wp2
        go_ret
        exact ⟨rfl, rfl⟩
    · have i2 : ¬ (c ≥ 127) := h2
      rw [decide_eq_false h2, Bool.false_and]
      go_enter Tryz.func148, Tryz.ntmps148
      go_wp2
      go_ret
      exact ⟨rfl, rfl⟩
/-- A character of a link. -/
def lkI (c : Int) : Bool := decide (32 < c) && (decide (c < 127) && (c != 92))
theorem isLink_any (w : World) (c : Int) : Calls Tryz.prog 134 #[.int .i32 c] w fun e w' => e = .returned (.bool (lkI c)) ∧ w = w' := by
  unfold lkI
  by_cases h1 : 32 < c
  · have i1 : c > 32 := h1
    rw [decide_eq_true h1, Bool.true_and]
    by_cases h2 : c < 127
    · rw [decide_eq_true h2, Bool.true_and]
      by_cases h3 : c = 92
      · subst h3
        go_enter Tryz.func134, Tryz.ntmps134
        go_wp2
        go_ret
        exact ⟨rfl, rfl⟩
      · have e3 : (c != 92) = true := by simp; omega
        rw [e3]
        go_enter Tryz.func134, Tryz.ntmps134
        go_wp2
        go_ret
        exact ⟨rfl, rfl⟩
    · rw [decide_eq_false h2, Bool.false_and]
      go_enter Tryz.func134, Tryz.ntmps134
      go_wp2
      go_ret
      exact ⟨rfl, rfl⟩
  · have i1 : ¬ (c > 32) := h1
    rw [decide_eq_false h1, Bool.false_and]
    go_enter Tryz.func134, Tryz.ntmps134
    go_wp2
    go_ret
    exact ⟨rfl, rfl⟩
def tiI (c : Int) : Bool := (c == 32) || lkI c
theorem isTitle_any (w : World) (c : Int) : Calls Tryz.prog 116 #[.int .i32 c] w fun e w' => e = .returned (.bool (tiI c)) ∧ w = w' := by
  have cl := isLink_any w c
  unfold tiI
  by_cases h : c = 32
  · subst h
    clear cl
    go_enter Tryz.func116, Tryz.ntmps116
    go_wp2
    go_ret
    exact ⟨rfl, rfl⟩
  · have e : (c == 32) = false := beq_eq_false_iff_ne.2 h
    rw [e, Bool.false_or]
    generalize lkI c = Z at *
    go_enter Tryz.func116, Tryz.ntmps116
    go_wp2_with (go_at_call 134; refine Stop.mk ?_)
    refine Stop.out (cl.mono ?_)
    rintro e W1 ⟨rfl, rfl⟩
    go_wp2
    go_ret
    exact ⟨rfl, rfl⟩
/-- A character of a text of one line. -/
def lnI (c : Int) : Bool := !ctl c && (c != 92)
theorem isLine_any (w : World) (c : Int) : Calls Tryz.prog 128 #[.int .i32 c] w fun e w' => e = .returned (.bool (lnI c)) ∧ w = w' := by
  have cl := isControl_any w c
  unfold lnI
  cases hz : ctl c with
  | true =>
    rw [hz] at cl
    show Calls Tryz.prog 128 #[.int .i32 c] w fun e w' => e = .returned (.bool false) ∧ w = w'
    go_enter Tryz.func128, Tryz.ntmps128
    go_wp2_with (go_at_call 148; refine Stop.mk ?_)
    refine Stop.out (cl.mono ?_)
    rintro e W1 ⟨rfl, rfl⟩
    go_wp2
    go_ret
    exact ⟨rfl, rfl⟩
  | false =>
    rw [hz] at cl
    show Calls Tryz.prog 128 #[.int .i32 c] w fun e w' => e = .returned (.bool (c != 92)) ∧ w = w'
    clear hz
    by_cases h : c = 92
    · subst h
      go_enter Tryz.func128, Tryz.ntmps128
      go_wp2_with (go_at_call 148; refine Stop.mk ?_)
      refine Stop.out (cl.mono ?_)
      rintro e W1 ⟨rfl, rfl⟩
      go_wp2
      go_ret
      exact ⟨rfl, rfl⟩
    · have e : (c != 92) = true := by simp; omega
      rw [e]
      go_enter Tryz.func128, Tryz.ntmps128
      go_wp2_with (go_at_call 148; refine Stop.mk ?_)
      refine Stop.out (cl.mono ?_)
      rintro e W1 ⟨rfl, rfl⟩
      go_wp2
      go_ret
      exact ⟨rfl, rfl⟩

theorem dgI_dg (b : Nat) : dgI (b : Int) = dg b := by
  unfold dgI dg
  congr 1
  · rw [Bool.eq_iff_iff, decide_eq_true_eq, decide_eq_true_eq]; omega
  · rw [Bool.eq_iff_iff, decide_eq_true_eq, decide_eq_true_eq]; omega
set_option maxRecDepth 100000 in
theorem digits_any (w : World) (s : ByteArray) (hs : s.size ≤ 140737488351232) : Calls Tryz.prog 138 #[.string s] w fun e w' => e = .returned (.int .i64 ((cnt s s.size 0 : Nat) : Int)) ∧ w = w' := by
  obtain ⟨R, hR⟩ : ∃ R, cnt s s.size 0 = R := ⟨_, rfl⟩
  have HR : Hid (0 + cnt s (s.size - 0) 0 = R) := by show _ = _; rw [Nat.zero_add]; exact hR
  rw [hR]
  clear hR
  go_enter Tryz.func138, Tryz.ntmps138
  go_wp2
  go_loopg [3] s.size (fun g s3 wx => ∃ i : Nat, s3 = .int .i64 (i : Int) ∧ i ≤ s.size ∧ g + i = s.size ∧ Hid (i + cnt s (s.size - i) i = R) ∧ w = wx)
  case atStart => exact ⟨0, rfl, by omega, by omega, HR, rfl⟩
  case round =>
    clear HR
    obtain ⟨i, rfl, hi, hg, HI, hw⟩ := hrel
    subst hw
    by_cases hlt : i < s.size
    · have iI : (i : Int) < (s.size : Int) := by omega
      obtain ⟨b, hb⟩ : ∃ b, s[i].toNat = b := ⟨_, rfl⟩
      have hgb : (s.get! i).toNat = b := by rw [← get_get! s i hlt, hb]
      have hb256 : b < 256 := by rw [← hgb]; exact UInt8.toNat_lt _
      have cD := isDigit74_any w (b : Int)
      rw [dgI_dg] at cD
      have h := HI.out
      rw [show s.size - i = (s.size - (i + 1)) + 1 by omega, cnt] at h
      unfold isD at h
      rw [decide_eq_true hlt, hgb, Bool.true_and] at h
      clear HI hgb
      cases hd : dg b with
      | true =>
        rw [hd] at cD
        rw [if_pos hd] at h
        have HI3 : Hid (i + 1 + cnt s (s.size - (i + 1)) (i + 1) = R) := by show _ = _; omega
        clear h hd
        go_wp2_with (go_at_call 120; refine Stop.mk ?_)
        refine Stop.out (cD.mono ?_)
        rintro e W1 ⟨rfl, rfl⟩
        clear cD
        go_wp2
        go_roundg (s.size - (i + 1))
        case measure => omega
        case rel => exact ⟨i + 1, by simp, by omega, by omega, HI3, rfl⟩
      | false =>
        rw [hd] at cD
        rw [if_neg (by rw [hd]; simp)] at h
        obtain rfl : i = R := by omega
        clear h hd
        go_wp2_with (go_at_call 120; refine Stop.mk ?_)
        refine Stop.out (cD.mono ?_)
        rintro e W1 ⟨rfl, rfl⟩
        clear cD
        go_wp2
        go_ret
        exact ⟨rfl, rfl⟩
    · have iI : ¬ ((i : Int) < (s.size : Int)) := by omega
      obtain rfl : i = R := by
        have h := HI.out
        rw [show s.size - i = 0 by omega, cnt] at h
        omega
      clear HI
      go_wp2
      go_ret
      exact ⟨rfl, rfl⟩
theorem isDate_any (w : World) (s : ByteArray) (hs : s.size ≤ 140737488351232) : Calls Tryz.prog 121 #[.string s] w fun e w' => e = .returned (.bool (((cnt s s.size 0 : Nat) : Int) == 8)) ∧ w = w' := by
  have c := digits_any w s hs
  generalize cnt s s.size 0 = k at *
  go_enter Tryz.func121, Tryz.ntmps121
  go_wp2_with (go_at_call 138; refine Stop.mk ?_)
  refine Stop.out (c.mono ?_)
  rintro e W1 ⟨rfl, rfl⟩
  go_wp2
  go_ret
  exact ⟨rfl, rfl⟩
theorem isAge_any (w : World) (s : ByteArray) (hs : s.size ≤ 140737488351232) : Calls Tryz.prog 118 #[.string s] w fun e w' => e = .returned (.bool (decide (s.size = 4) && decide (cnt s s.size 0 = 3))) ∧ w = w' := by
  have c := digits_any w s hs
  generalize cnt s s.size 0 = k at *
  by_cases h4 : s.size = 4
  · have e4 : ((s.size : Int) == 4) = true := by rw [h4]; rfl
    rw [decide_eq_true h4, Bool.true_and]
    by_cases hk : k = 3
    · subst hk
      go_enter Tryz.func118, Tryz.ntmps118
      go_wp2_with (go_at_call 138; refine Stop.mk ?_)
      refine Stop.out (c.mono ?_)
      rintro e W1 ⟨rfl, rfl⟩
      go_wp2
      go_ret
      exact ⟨rfl, rfl⟩
    · have ek : ((k : Int) == 3) = false := beq_eq_false_iff_ne.2 (by omega)
      rw [decide_eq_false hk]
      go_enter Tryz.func118, Tryz.ntmps118
      go_wp2_with (go_at_call 138; refine Stop.mk ?_)
      refine Stop.out (c.mono ?_)
      rintro e W1 ⟨rfl, rfl⟩
      go_wp2
      go_ret
      exact ⟨rfl, rfl⟩
  · have e4 : ((s.size : Int) == 4) = false := beq_eq_false_iff_ne.2 (by omega)
    rw [decide_eq_false h4, Bool.false_and]
    clear c
    go_enter Tryz.func118, Tryz.ntmps118
    go_wp2
    go_ret
    exact ⟨rfl, rfl⟩
/-- Digits, one at least. -/
def alD (s : ByteArray) : Bool := decide (s.size ≠ 0) && decide (cnt s s.size 0 = s.size)
theorem text_some {k : ByteArray} (h : k.size ≠ 0) : k.toList.isEmpty = false := by
  rw [ByteArray.toList_eq]
  cases hl : k.data.toList with
  | nil =>
    have : k.data.toList.length = 0 := by rw [hl]; rfl
    rw [Array.length_toList] at this
    exact absurd this h
  | cons a l => rfl
theorem allDigits_any (w : World) (s : ByteArray) (hs : s.size ≤ 140737488351232) : Calls Tryz.prog 152 #[.string s] w fun e w' => e = .returned (.bool (alD s)) ∧ w = w' := by
  have c := digits_any w s hs
  unfold alD
  by_cases h0 : s.size = 0
  · obtain rfl : s = ⟨#[]⟩ := ByteArray.ext (Array.eq_empty_of_size_eq_zero h0)
    clear c
    show Calls Tryz.prog 152 #[.string ⟨#[]⟩] w fun e w' => e = .returned (.bool false) ∧ w = w'
    go_enter Tryz.func152, Tryz.ntmps152
    go_wp2
    go_ret
    exact ⟨rfl, rfl⟩
  · have hke := text_some h0
    rw [decide_eq_true h0, Bool.true_and]
    generalize cnt s s.size 0 = k at *
    by_cases hk : k = s.size
    · have ek : ((k : Int) == (s.size : Int)) = true := by simp; omega
      rw [decide_eq_true hk]
      go_enter Tryz.func152, Tryz.ntmps152
      go_wp2_with (go_at_call 138; refine Stop.mk ?_)
      refine Stop.out (c.mono ?_)
      rintro e W1 ⟨rfl, rfl⟩
      go_wp2
      go_ret
      exact ⟨rfl, rfl⟩
    · have ek : ((k : Int) == (s.size : Int)) = false := by simp; omega
      rw [decide_eq_false hk]
      go_enter Tryz.func152, Tryz.ntmps152
      go_wp2_with (go_at_call 138; refine Stop.mk ?_)
      refine Stop.out (c.mono ?_)
      rintro e W1 ⟨rfl, rfl⟩
      go_wp2
      go_ret
      exact ⟨rfl, rfl⟩
end Go.Proofs.YtdggplhkeekdjaaGreatDoor.Ck
