import Derived.Test.YtdggplhkeekdjaaGreatDoorKl
/-
  DERIVED. The program's clocks, zones, signs.
-/
namespace Go.Proofs.YtdggplhkeekdjaaGreatDoor.Ck
open Go Go.Proofs Go.RowKit

/-- Does the text begin with this byte? -/
def hp1 (s : ByteArray) (c : UInt8) : Bool := decide (0 < s.size) && decide (s.get! 0 = c)
theorem ext1 (s : ByteArray) (h : 0 < s.size) : (s.extract 0 1).data.toList = [s.get! 0] := by
  rw [ByteArray.data_extract, Array.toList_extract]
  show (s.data.toList.drop 0).take (1 - 0) = _
  rw [drop_at s 0 h]
  rfl
theorem ext1_eq (s : ByteArray) (h : 0 < s.size) (c : UInt8) : ((s.extract 0 1).toList == (⟨#[c]⟩ : ByteArray).toList) = decide (s.get! 0 = c) := by
  rw [ByteArray.toList_eq, ByteArray.toList_eq, ext1 s h]
  show ([s.get! 0] == [c]) = _
  rw [Bool.eq_iff_iff, beq_iff_eq, decide_eq_true_eq]
  simp
set_option maxRecDepth 100000 in
theorem hp124_any (w : World) (s : ByteArray) (hs : s.size ≤ 140737488351232) (c : UInt8) : Calls Tryz.prog 156 #[.string s, .string ⟨#[c]⟩] w fun e w' => e = .returned (.bool (hp1 s c)) ∧ w = w' := by
  unfold hp1
  by_cases h : 0 < s.size
  · have i1 : (s.size : Int) ≥ 1 := by omega
    have i2 : (1 : Int) ≤ (s.size : Int) := by omega
    have e1 := ext1_eq s h c
    rw [decide_eq_true h, Bool.true_and, ← e1]
    clear e1
    have hsz : (⟨#[c]⟩ : ByteArray).size = 1 := rfl
    generalize (⟨#[c]⟩ : ByteArray) = T at *
    have j1 : (s.size : Int) ≥ (T.size : Int) := by rw [hsz]; exact i1
    have j2 : (T.size : Int) ≤ (s.size : Int) := by rw [hsz]; exact i2
    go_enter Tryz.func156, Tryz.ntmps156
    go_wp2
    go_ret
    exact ⟨by simp, rfl⟩
  · have i1 : ¬ ((s.size : Int) ≥ 1) := by omega
    rw [decide_eq_false h, Bool.false_and]
    go_enter Tryz.func156, Tryz.ntmps156
    go_wp2
    go_ret
    exact ⟨rfl, rfl⟩
theorem hp109_any (w : World) (s : ByteArray) (hs : s.size ≤ 140737488351232) (c : UInt8) : Calls Tryz.prog 142 #[.string s, .string ⟨#[c]⟩] w fun e w' => e = .returned (.bool (hp1 s c)) ∧ w = w' := by
  have cc := hp124_any w s hs c
  generalize hp1 s c = Z at *
  go_enter Tryz.func142, Tryz.ntmps142
  go_wp2_with (go_at_call 156; refine Stop.mk ?_)
  refine Stop.out (cc.mono ?_)
  rintro e W1 ⟨rfl, rfl⟩
  go_wp2
  go_ret
  exact ⟨rfl, rfl⟩
/-- Behind this byte, if the text begins with it. -/
def cp1 (s : ByteArray) (c : UInt8) : ByteArray := if hp1 s c = true then s.extract 1 s.size else s
theorem cut150_any (w : World) (s : ByteArray) (hs : s.size ≤ 140737488351232) (c : UInt8) : Calls Tryz.prog 172 #[.string s, .string ⟨#[c]⟩] w fun e w' => e = .returned (.tuple #[.string (cp1 s c), .bool (hp1 s c)]) ∧ w = w' := by
  have cc := hp124_any w s hs c
  unfold cp1
  cases hz : hp1 s c with
  | true =>
    rw [hz] at cc
    have i1 : (1 : Int) ≤ (s.size : Int) := by unfold hp1 at hz; simp at hz; omega
    rw [if_pos rfl]
    clear hz
    go_enter Tryz.func172, Tryz.ntmps172
    go_wp2_with (go_at_call 156; refine Stop.mk ?_)
    refine Stop.out (cc.mono ?_)
    rintro e W1 ⟨rfl, rfl⟩
    go_wp2
    refine bodyPost_ret (v := .tuple #[.string (s.extract 1 s.size), .bool true]) (by simp [results, Tryz.results172, go_sem]) rfl ⟨rfl, rfl⟩
  | false =>
    rw [hz] at cc
    rw [if_neg (by decide)]
    clear hz
    go_enter Tryz.func172, Tryz.ntmps172
    go_wp2_with (go_at_call 156; refine Stop.mk ?_)
    refine Stop.out (cc.mono ?_)
    rintro e W1 ⟨rfl, rfl⟩
    go_wp2
    refine bodyPost_ret (v := .tuple #[.string s, .bool false]) (by simp [results, Tryz.results172, go_sem]) rfl ⟨rfl, rfl⟩
theorem cut142_any (w : World) (s : ByteArray) (hs : s.size ≤ 140737488351232) (c : UInt8) : Calls Tryz.prog 165 #[.string s, .string ⟨#[c]⟩] w fun e w' => e = .returned (.tuple #[.string (cp1 s c), .bool (hp1 s c)]) ∧ w = w' := by
  have cc := cut150_any w s hs c
  generalize hp1 s c = Z at *
  generalize cp1 s c = T at *
  go_enter Tryz.func165, Tryz.ntmps165
  go_wp2_with (go_at_call 172; refine Stop.mk ?_)
  refine Stop.out (cc.mono ?_)
  rintro e W1 ⟨rfl, rfl⟩
  go_wp2
  refine bodyPost_ret (v := .tuple #[.string T, .bool Z]) (by simp [results, Tryz.results165, go_sem]) rfl ⟨rfl, rfl⟩
theorem cp1_size (s : ByteArray) (c : UInt8) : (cp1 s c).size ≤ s.size := by
  unfold cp1
  split
  · rw [ByteArray.size_extract]; omega
  · exact Nat.le_refl _
/-- A point, then one to six digits. -/
def frB (s : ByteArray) : Bool := hp1 s 46 && (decide ((cp1 s 46).size ≤ 6) && alD (cp1 s 46))
set_option maxRecDepth 100000 in
theorem isFraction_any (w : World) (s : ByteArray) (hs : s.size ≤ 140737488351232) : Calls Tryz.prog 158 #[.string s] w fun e w' => e = .returned (.bool (frB s)) ∧ w = w' := by
  have cc := cut142_any w s hs 46
  have hc := cp1_size s 46
  have ca := allDigits_any w (cp1 s 46) (by omega)
  unfold frB
  generalize cp1 s 46 = T at *
  cases hz : hp1 s 46 with
  | true =>
    rw [hz] at cc
    rw [Bool.true_and]
    by_cases h6 : T.size ≤ 6
    · have i6 : (T.size : Int) ≤ 6 := by omega
      rw [decide_eq_true h6, Bool.true_and]
      generalize alD T = Z at *
      go_enter Tryz.func158, Tryz.ntmps158
      go_wp2_with (go_at_call 165; refine Stop.mk ?_)
      refine Stop.out (cc.mono ?_)
      rintro e W1 ⟨rfl, rfl⟩
      go_wp2_with (go_at_call 152; refine Stop.mk ?_)
      refine Stop.out (ca.mono ?_)
      rintro e W1 ⟨rfl, rfl⟩
      go_wp2
      go_ret
      exact ⟨rfl, rfl⟩
    · have i6 : ¬ ((T.size : Int) ≤ 6) := by omega
      rw [decide_eq_false h6, Bool.false_and]
      clear ca
      go_enter Tryz.func158, Tryz.ntmps158
      go_wp2_with (go_at_call 165; refine Stop.mk ?_)
      refine Stop.out (cc.mono ?_)
      rintro e W1 ⟨rfl, rfl⟩
      go_wp2
      go_ret
      exact ⟨rfl, rfl⟩
  | false =>
    rw [hz] at cc
    rw [Bool.false_and]
    clear ca
    go_enter Tryz.func158, Tryz.ntmps158
    go_wp2_with (go_at_call 165; refine Stop.mk ?_)
    refine Stop.out (cc.mono ?_)
    rintro e W1 ⟨rfl, rfl⟩
    go_wp2
    go_ret
    exact ⟨rfl, rfl⟩
/-- So many digits, two by two; behind the most perhaps a fraction. -/
def pcB (s : ByteArray) (least most : Nat) : Bool :=
  if cnt s s.size 0 < least ∨ most < cnt s s.size 0 ∨ cnt s s.size 0 % 2 ≠ 0 then false else decide (cnt s s.size 0 = s.size) || (decide (cnt s s.size 0 = most) && frB (s.extract (cnt s s.size 0) s.size))
set_option maxRecDepth 100000 in
set_option maxHeartbeats 2000000 in
theorem isClock_any (w : World) (s : ByteArray) (hs : s.size ≤ 140737488351232) (least most : Nat) : Calls Tryz.prog 145 #[.string s, .int .i64 (least : Int), .int .i64 (most : Int)] w fun e w' => e = .returned (.bool (pcB s least most)) ∧ w = w' := by
  have c := digits_any w s hs
  have hk := cnt_size s s.size 0 (Nat.zero_le _)
  rw [Nat.zero_add] at hk
  unfold pcB
  generalize cnt s s.size 0 = k at *
  have cf := isFraction_any w (s.extract k s.size) (by rw [ByteArray.size_extract]; omega)
  generalize frB (s.extract k s.size) = Z at *
  by_cases h1 : k < least
  · have i1 : (k : Int) < (least : Int) := by omega
    rw [if_pos (.inl h1)]
    clear cf
    go_enter Tryz.func145, Tryz.ntmps145
    go_wp2_with (go_at_call 138; refine Stop.mk ?_)
    refine Stop.out (c.mono ?_)
    rintro e W1 ⟨rfl, rfl⟩
    go_wp2
    go_ret
    exact ⟨rfl, rfl⟩
  have i1 : ¬ ((k : Int) < (least : Int)) := by omega
  by_cases h2 : most < k
  · have i2 : (k : Int) > (most : Int) := by omega
    rw [if_pos (.inr (.inl h2))]
    clear cf
    go_enter Tryz.func145, Tryz.ntmps145
    go_wp2_with (go_at_call 138; refine Stop.mk ?_)
    refine Stop.out (c.mono ?_)
    rintro e W1 ⟨rfl, rfl⟩
    go_wp2
    go_ret
    exact ⟨rfl, rfl⟩
  have i2 : ¬ ((k : Int) > (most : Int)) := by omega
  by_cases h3 : k % 2 ≠ 0
  · have i3 : ((k : Int) % 2 != 0) = true := by simp; omega
    have i4 : ((k : Int).tmod 2 != 0) = true := by rw [Int.tmod_eq_emod_of_nonneg (by omega)]; exact i3
    rw [if_pos (.inr (.inr h3))]
    clear cf
    go_enter Tryz.func145, Tryz.ntmps145
    go_wp2_with (go_at_call 138; refine Stop.mk ?_)
    refine Stop.out (c.mono ?_)
    rintro e W1 ⟨rfl, rfl⟩
    go_wp2
    go_ret
    exact ⟨rfl, rfl⟩
  have i3 : ((k : Int) % 2 != 0) = false := by simp; omega
  have i4 : ((k : Int).tmod 2 != 0) = false := by rw [Int.tmod_eq_emod_of_nonneg (by omega)]; exact i3
  rw [if_neg (by omega)]
  by_cases h4 : k = s.size
  · have i5 : ((k : Int) == (s.size : Int)) = true := by simp; omega
    rw [decide_eq_true h4, Bool.true_or]
    clear cf h4
    go_enter Tryz.func145, Tryz.ntmps145
    go_wp2_with (go_at_call 138; refine Stop.mk ?_)
    refine Stop.out (c.mono ?_)
    rintro e W1 ⟨rfl, rfl⟩
    go_wp2
    go_ret
    exact ⟨rfl, rfl⟩
  · have i5 : ((k : Int) == (s.size : Int)) = false := by simp; omega
    rw [decide_eq_false h4, Bool.false_or]
    by_cases h5 : k = most
    · have i6 : ((k : Int) == (most : Int)) = true := by simp; omega
      have i7 : (k : Int) ≤ (s.size : Int) := by omega
      rw [decide_eq_true h5, Bool.true_and]
      clear h5
      go_enter Tryz.func145, Tryz.ntmps145
      go_wp2_with (go_at_call 138; refine Stop.mk ?_)
      refine Stop.out (c.mono ?_)
      rintro e W1 ⟨rfl, rfl⟩
      go_wp2_with (go_at_call 158; refine Stop.mk ?_)
      refine Stop.out (cf.mono ?_)
      rintro e W1 ⟨rfl, rfl⟩
      go_wp2
      go_ret
      exact ⟨rfl, rfl⟩
    · have i6 : ((k : Int) == (most : Int)) = false := by simp; omega
      rw [decide_eq_false h5, Bool.false_and]
      clear cf
      go_enter Tryz.func145, Tryz.ntmps145
      go_wp2_with (go_at_call 138; refine Stop.mk ?_)
      refine Stop.out (c.mono ?_)
      rintro e W1 ⟨rfl, rfl⟩
      go_wp2
      go_ret
      exact ⟨rfl, rfl⟩
theorem isTime_any (w : World) (s : ByteArray) (hs : s.size ≤ 140737488351232) : Calls Tryz.prog 132 #[.string s] w fun e w' => e = .returned (.bool (pcB s 2 6)) ∧ w = w' := by
  have c := isClock_any w s hs 2 6
  generalize pcB s 2 6 = Z at *
  go_enter Tryz.func132, Tryz.ntmps132
  go_wp2_with (go_at_call 145; refine Stop.mk ?_)
  refine Stop.out (c.mono ?_)
  rintro e W1 ⟨rfl, rfl⟩
  go_wp2
  go_ret
  exact ⟨rfl, rfl⟩
def znB (s : ByteArray) : Bool := decide (s.size = 4) && alD s
theorem isZone_any (w : World) (s : ByteArray) (hs : s.size ≤ 140737488351232) : Calls Tryz.prog 146 #[.string s] w fun e w' => e = .returned (.bool (znB s)) ∧ w = w' := by
  have c := allDigits_any w s hs
  unfold znB
  generalize alD s = Z at *
  by_cases h4 : s.size = 4
  · have e4 : ((s.size : Int) == 4) = true := by rw [h4]; rfl
    rw [decide_eq_true h4, Bool.true_and]
    go_enter Tryz.func146, Tryz.ntmps146
    go_wp2_with (go_at_call 152; refine Stop.mk ?_)
    refine Stop.out (c.mono ?_)
    rintro e W1 ⟨rfl, rfl⟩
    go_wp2
    go_ret
    exact ⟨rfl, rfl⟩
  · have e4 : ((s.size : Int) == 4) = false := beq_eq_false_iff_ne.2 (by omega)
    rw [decide_eq_false h4, Bool.false_and]
    clear c
    go_enter Tryz.func146, Tryz.ntmps146
    go_wp2
    go_ret
    exact ⟨rfl, rfl⟩
end Go.Proofs.YtdggplhkeekdjaaGreatDoor.Ck

/-
  DERIVED. The program's signs and exponents.
-/
namespace Go.Proofs.YtdggplhkeekdjaaGreatDoor.Ck
open Go Go.Proofs Go.RowKit

/-- Behind one sign, if there is one. -/
def psS (s : ByteArray) : ByteArray := if (hp1 s 43 || hp1 s 45) = true then s.extract 1 s.size else s
theorem psS_size (s : ByteArray) : (psS s).size ≤ s.size := by
  unfold psS
  split
  · rw [ByteArray.size_extract]; omega
  · exact Nat.le_refl _
theorem hp1_some {s : ByteArray} {c : UInt8} (h : hp1 s c = true) : 0 < s.size := by
  unfold hp1 at h
  simp at h
  exact h.1
set_option maxRecDepth 100000 in
theorem pastSign_any (w : World) (s : ByteArray) (hs : s.size ≤ 140737488351232) : Calls Tryz.prog 140 #[.string s] w fun e w' => e = .returned (.string (psS s)) ∧ w = w' := by
  have c1 := hp109_any w s hs 43
  have c2 := hp109_any w s hs 45
  unfold psS
  cases h1 : hp1 s 43 with
  | true =>
    rw [h1] at c1
    have i1 : (1 : Int) ≤ (s.size : Int) := by have := hp1_some h1; omega
    rw [if_pos (by rw [Bool.true_or])]
    clear c2 h1
    go_enter Tryz.func140, Tryz.ntmps140
    go_wp2_with (go_at_call 142; refine Stop.mk ?_)
    refine Stop.out (c1.mono ?_)
    rintro e W1 ⟨rfl, rfl⟩
    go_wp2
    go_ret
    exact ⟨by simp, rfl⟩
  | false =>
    rw [h1] at c1
    cases h2 : hp1 s 45 with
    | true =>
      rw [h2] at c2
      have i1 : (1 : Int) ≤ (s.size : Int) := by have := hp1_some h2; omega
      rw [if_pos (by rw [Bool.or_true])]
      clear h1 h2
      go_enter Tryz.func140, Tryz.ntmps140
      go_wp2_with (go_at_call 142; refine Stop.mk ?_)
      refine Stop.out (c1.mono ?_)
      rintro e W1 ⟨rfl, rfl⟩
      go_wp2_with (go_at_call 142; refine Stop.mk ?_)
      refine Stop.out (c2.mono ?_)
      rintro e W1 ⟨rfl, rfl⟩
      go_wp2
      go_ret
      exact ⟨by simp, rfl⟩
    | false =>
      rw [h2] at c2
      rw [if_neg (by decide)]
      clear h1 h2
      go_enter Tryz.func140, Tryz.ntmps140
      go_wp2_with (go_at_call 142; refine Stop.mk ?_)
      refine Stop.out (c1.mono ?_)
      rintro e W1 ⟨rfl, rfl⟩
      go_wp2_with (go_at_call 142; refine Stop.mk ?_)
      refine Stop.out (c2.mono ?_)
      rintro e W1 ⟨rfl, rfl⟩
      go_wp2
      go_ret
      exact ⟨rfl, rfl⟩
/-- An exponent's form: a text that is there. -/
def exB (s : ByteArray) : Bool := (decide ((s.get! 0).toNat = 69) || decide ((s.get! 0).toNat = 101)) && alD (psS (s.extract 1 s.size))
set_option maxRecDepth 100000 in
theorem isExponent_any (w : World) (s : ByteArray) (hs : s.size ≤ 140737488351232) (h0 : 0 < s.size) : Calls Tryz.prog 143 #[.string s] w fun e w' => e = .returned (.bool (exB s)) ∧ w = w' := by
  have hx : (s.extract 1 s.size).size ≤ s.size := by rw [ByteArray.size_extract]; omega
  have c1 := pastSign_any w (s.extract 1 s.size) (by omega)
  have hp := psS_size (s.extract 1 s.size)
  have c2 := allDigits_any w (psS (s.extract 1 s.size)) (by omega)
  unfold exB
  obtain ⟨b, hb⟩ : ∃ b, s[0].toNat = b := ⟨_, rfl⟩
  have hgb : (s.get! 0).toNat = b := by rw [← get_get! s 0 h0, hb]
  rw [hgb]
  have i0 : (0 : Int) < (s.size : Int) := by omega
  have i1 : (1 : Int) ≤ (s.size : Int) := by omega
  generalize psS (s.extract 1 s.size) = T at *
  generalize alD T = Z at *
  clear hgb hp hx
  by_cases h69 : b = 69
  · subst h69
    rw [decide_eq_true rfl, Bool.true_or, Bool.true_and]
    go_enter Tryz.func143, Tryz.ntmps143
    go_wp2_with (go_at_call 140; refine Stop.mk ?_)
    refine Stop.out (c1.mono ?_)
    rintro e W1 ⟨rfl, rfl⟩
    go_wp2_with (go_at_call 152; refine Stop.mk ?_)
    refine Stop.out (c2.mono ?_)
    rintro e W1 ⟨rfl, rfl⟩
    go_wp2
    go_ret
    exact ⟨rfl, rfl⟩
  · have e69 : ((b : Int) == 69) = false := beq_eq_false_iff_ne.2 (by omega)
    rw [decide_eq_false h69, Bool.false_or]
    by_cases h101 : b = 101
    · subst h101
      rw [decide_eq_true rfl, Bool.true_and]
      go_enter Tryz.func143, Tryz.ntmps143
      go_wp2_with (go_at_call 140; refine Stop.mk ?_)
      refine Stop.out (c1.mono ?_)
      rintro e W1 ⟨rfl, rfl⟩
      go_wp2_with (go_at_call 152; refine Stop.mk ?_)
      refine Stop.out (c2.mono ?_)
      rintro e W1 ⟨rfl, rfl⟩
      go_wp2
      go_ret
      exact ⟨rfl, rfl⟩
    · have e101 : ((b : Int) == 101) = false := beq_eq_false_iff_ne.2 (by omega)
      rw [decide_eq_false h101, Bool.false_and]
      clear c1 c2
      go_enter Tryz.func143, Tryz.ntmps143
      go_wp2
      go_ret
      exact ⟨rfl, rfl⟩
end Go.Proofs.YtdggplhkeekdjaaGreatDoor.Ck
