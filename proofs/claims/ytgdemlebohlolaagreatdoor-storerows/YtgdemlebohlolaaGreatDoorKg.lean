import Derived.Test.YtgdemlebohlolaaGreatDoorKe
/-
  DERIVED. The document's forms: UIDs, names.
-/
namespace Go.Proofs.YtgdemlebohlolaaGreatDoor.Ck
open Go Go.Proofs Go.RowKit

/-- A UID's form, from here on, in the part that began there. -/
def uidG (s : ByteArray) : Nat → Nat → Nat → Bool
  | 0, _, _ => true
  | f + 1, i, fr => if i = s.size ∨ (s.get! i).toNat = 46 then (if i = fr ∨ ((s.get! fr).toNat = 48 ∧ 1 < i - fr) then false else uidG s f (i + 1) (i + 1)) else uidG s f (i + 1) fr
def uidF (s : ByteArray) : Bool := uidG s (s.size + 1) 0 0

set_option maxRecDepth 100000 in
set_option maxHeartbeats 4000000 in
theorem ruid_any (w : World) (s : ByteArray) (hs : s.size ≤ 140737488351232) : Calls Tryz.prog 67 #[.string s] w fun e w' => e = .returned (.bool (uidF s)) ∧ w = w' := by
  obtain ⟨R, hR⟩ : ∃ R, uidF s = R := ⟨_, rfl⟩
  have HR : Hid (uidG s (s.size + 1 - 0) 0 0 = R) := hR
  rw [hR]
  clear hR
  go_enter Tryz.func67, Tryz.ntmps67
  go_wp2
  go_loopg [3, 4] (s.size + 1) (fun g s3 s4 wx => ∃ i fr : Nat, s3 = .int .i64 (fr : Int) ∧ s4 = .int .i64 (i : Int) ∧ i ≤ s.size + 1 ∧ fr ≤ i ∧ g + i = s.size + 1 ∧ Hid (uidG s (s.size + 1 - i) i fr = R) ∧ w = wx)
  case atStart => exact ⟨0, 0, rfl, rfl, by omega, by omega, by omega, HR, rfl⟩
  case round =>
    clear HR
    obtain ⟨i, fr, rfl, rfl, hi, hfr, hg, HI, hw⟩ := hrel
    subst hw
    by_cases hlt : i ≤ s.size
    · have iI : (i : Int) ≤ (s.size : Int) := by omega
      have HI2 : Hid ((if i = s.size ∨ (s.get! i).toNat = 46 then (if i = fr ∨ ((s.get! fr).toNat = 48 ∧ 1 < i - fr) then false else uidG s (s.size + 1 - (i + 1)) (i + 1) (i + 1)) else uidG s (s.size + 1 - (i + 1)) (i + 1) fr) = R) := by
        have h := HI.out
        rw [show s.size + 1 - i = (s.size + 1 - (i + 1)) + 1 by omega, uidG] at h
        exact h
      clear HI
      by_cases hend : i = s.size ∨ (s.get! i).toNat = 46
      · rw [if_pos hend] at HI2
        have hc : ((i : Int) == (s.size : Int)) = true ∨ (((i : Int) == (s.size : Int)) = false ∧ ∃ h : i < s.size, s[i].toNat = 46) := by
          by_cases he : i = s.size
          · exact .inl (by simp; omega)
          · refine .inr ⟨by simp; omega, by omega, ?_⟩
            rw [get_get! s i (by omega)]
            exact hend.resolve_left he
        by_cases hbad : i = fr
        · obtain rfl : R = false := by rw [← HI2.out, if_pos (.inl hbad)]
          subst hbad
          have e2 : ((i : Int) == (i : Int)) = true := by simp
          clear HI2 hend
          rcases hc with hc | ⟨hc, hl, hb⟩
          · go_wp2
            go_ret
            exact ⟨rfl, rfl⟩
          · go_wp2
            go_ret
            exact ⟨rfl, rfl⟩
        · have e2 : ((i : Int) == (fr : Int)) = false := by simp; omega
          have hfl : fr < s.size := by omega
          obtain ⟨b, hb0⟩ : ∃ b, s[fr].toNat = b := ⟨_, rfl⟩
          have hgb : (s.get! fr).toNat = b := by rw [← get_get! s fr hfl, hb0]
          rw [hgb] at HI2
          clear hend hgb
          by_cases h48 : b = 48
          · have e48 : ((b : Int) == 48) = true := by simp; omega
            by_cases hlong : 1 < i - fr
            · obtain rfl : R = false := by rw [← HI2.out, if_pos (.inr ⟨h48, hlong⟩)]
              have eg : (i : Int) - (fr : Int) > 1 := by omega
              clear HI2
              rcases hc with hc | ⟨hc, hl, hb⟩
              · go_wp2
                go_ret
                exact ⟨rfl, rfl⟩
              · go_wp2
                go_ret
                exact ⟨rfl, rfl⟩
            · have HI3 : Hid (uidG s (s.size + 1 - (i + 1)) (i + 1) (i + 1) = R) := by have := HI2.out; rw [if_neg (fun h => h.elim hbad (fun h => hlong h.2))] at this; exact this
              have eg : ¬ ((i : Int) - (fr : Int) > 1) := by omega
              clear HI2
              rcases hc with hc | ⟨hc, hl, hb⟩
              · go_wp2
                go_roundg (s.size + 1 - (i + 1))
                case measure => omega
                case rel => exact ⟨i + 1, i + 1, by simp, by simp, by omega, by omega, by omega, HI3, rfl⟩
              · go_wp2
                go_roundg (s.size + 1 - (i + 1))
                case measure => omega
                case rel => exact ⟨i + 1, i + 1, by simp, by simp, by omega, by omega, by omega, HI3, rfl⟩
          · have e48 : ((b : Int) == 48) = false := by simp; omega
            have HI3 : Hid (uidG s (s.size + 1 - (i + 1)) (i + 1) (i + 1) = R) := by have := HI2.out; rw [if_neg (fun h => h.elim hbad (fun h => h48 h.1))] at this; exact this
            clear HI2
            rcases hc with hc | ⟨hc, hl, hb⟩
            · go_wp2
              go_roundg (s.size + 1 - (i + 1))
              case measure => omega
              case rel => exact ⟨i + 1, i + 1, by simp, by simp, by omega, by omega, by omega, HI3, rfl⟩
            · go_wp2
              go_roundg (s.size + 1 - (i + 1))
              case measure => omega
              case rel => exact ⟨i + 1, i + 1, by simp, by simp, by omega, by omega, by omega, HI3, rfl⟩
      · have hne : i ≠ s.size := fun h => hend (.inl h)
        have hl : i < s.size := by omega
        have e1 : ((i : Int) == (s.size : Int)) = false := by simp; omega
        obtain ⟨b, hb⟩ : ∃ b, s[i].toNat = b := ⟨_, rfl⟩
        have hgb : (s.get! i).toNat = b := by rw [← get_get! s i hl, hb]
        have e46 : ((b : Int) == 46) = false := by
          have : b ≠ 46 := fun h => hend (.inr (hgb.trans h))
          simp; omega
        have HI3 : Hid (uidG s (s.size + 1 - (i + 1)) (i + 1) fr = R) := by have := HI2.out; rw [if_neg hend] at this; exact this
        clear HI2 hend hgb
        go_wp2
        go_roundg (s.size + 1 - (i + 1))
        case measure => omega
        case rel => exact ⟨i + 1, fr, by simp, by simp, by omega, by omega, by omega, HI3, rfl⟩
    · have iI : ¬ ((i : Int) ≤ (s.size : Int)) := by omega
      obtain rfl : R = true := by
        have h := HI.out
        rw [show s.size + 1 - i = 0 by omega, uidG] at h
        exact h.symm
      clear HI
      go_wp2
      go_ret
      exact ⟨rfl, rfl⟩

/-- A name's form, from here on, with so many groups and components. -/
def nmG (s : ByteArray) : Nat → Nat → Nat → Nat → Bool
  | 0, _, _, _ => true
  | f + 1, i, g, c =>
    if 3 < (if (s.get! i).toNat = 61 then g + 1 else g) ∨ 5 < (if (s.get! i).toNat = 61 then 1 else if (s.get! i).toNat = 94 then c + 1 else c) then false
    else nmG s f (i + 1) (if (s.get! i).toNat = 61 then g + 1 else g) (if (s.get! i).toNat = 61 then 1 else if (s.get! i).toNat = 94 then c + 1 else c)
def nmF (s : ByteArray) : Bool := nmG s s.size 0 1 1

set_option maxRecDepth 100000 in
set_option maxHeartbeats 4000000 in
theorem rname_any (w : World) (s : ByteArray) (hs : s.size ≤ 140737488351232) : Calls Tryz.prog 68 #[.string s] w fun e w' => e = .returned (.bool (nmF s)) ∧ w = w' := by
  obtain ⟨R, hR⟩ : ∃ R, nmF s = R := ⟨_, rfl⟩
  have HR : Hid (nmG s (s.size - 0) 0 1 1 = R) := hR
  rw [hR]
  clear hR
  go_enter Tryz.func68, Tryz.ntmps68
  go_wp2
  go_loopg [3, 4, 5] s.size (fun g s3 s4 s5 wx => ∃ i gr c : Nat, s3 = .int .i64 (gr : Int) ∧ s4 = .int .i64 (c : Int) ∧ s5 = .int .i64 (i : Int) ∧ i ≤ s.size ∧ gr ≤ 3 ∧ c ≤ 5 ∧ g + i = s.size ∧ Hid (nmG s (s.size - i) i gr c = R) ∧ w = wx)
  case atStart => exact ⟨0, 1, 1, rfl, rfl, rfl, by omega, by omega, by omega, by omega, HR, rfl⟩
  case round =>
    clear HR
    obtain ⟨i, gr, c, rfl, rfl, rfl, hi, hgr, hc, hg, HI, hw⟩ := hrel
    subst hw
    by_cases hlt : i < s.size
    · have iI : (i : Int) < (s.size : Int) := by omega
      obtain ⟨b, hb⟩ : ∃ b, s[i].toNat = b := ⟨_, rfl⟩
      have hgb : (s.get! i).toNat = b := by rw [← get_get! s i hlt, hb]
      have HI2 := HI.out
      rw [show s.size - i = (s.size - (i + 1)) + 1 by omega, nmG, hgb] at HI2
      clear HI hgb
      by_cases h61 : b = 61
      · subst h61
        simp only [if_true] at HI2
        by_cases h3 : 3 < gr + 1
        · obtain rfl : R = false := by rw [← HI2, if_pos (.inl h3)]
          have e3 : (gr : Int) + 1 > 3 := by omega
          clear HI2
          go_wp2
          go_ret
          exact ⟨rfl, rfl⟩
        · have e3 : ¬ ((gr : Int) + 1 > 3) := by omega
          have HI3 : Hid (nmG s (s.size - (i + 1)) (i + 1) (gr + 1) 1 = R) := by rw [if_neg (by omega)] at HI2; exact HI2
          clear HI2
          go_wp2
          go_roundg (s.size - (i + 1))
          case measure => omega
          case rel => exact ⟨i + 1, gr + 1, 1, by simp, rfl, by simp, by omega, by omega, by omega, by omega, HI3, rfl⟩
      · have e61 : ((b : Int) == 61) = false := by simp; omega
        have e3 : ¬ ((gr : Int) > 3) := by omega
        simp only [if_neg h61] at HI2
        by_cases h94 : b = 94
        · subst h94
          simp only [if_true] at HI2
          by_cases h5 : 5 < c + 1
          · obtain rfl : R = false := by rw [← HI2, if_pos (.inr h5)]
            have e5 : (c : Int) + 1 > 5 := by omega
            clear HI2
            go_wp2
            go_ret
            exact ⟨rfl, rfl⟩
          · have e5 : ¬ ((c : Int) + 1 > 5) := by omega
            have HI3 : Hid (nmG s (s.size - (i + 1)) (i + 1) gr (c + 1) = R) := by rw [if_neg (by omega)] at HI2; exact HI2
            clear HI2
            go_wp2
            go_roundg (s.size - (i + 1))
            case measure => omega
            case rel => exact ⟨i + 1, gr, c + 1, rfl, by simp, by simp, by omega, by omega, by omega, by omega, HI3, rfl⟩
        · have e94 : ((b : Int) == 94) = false := by simp; omega
          have e5 : ¬ ((c : Int) > 5) := by omega
          simp only [if_neg h94] at HI2
          have HI3 : Hid (nmG s (s.size - (i + 1)) (i + 1) gr c = R) := by rw [if_neg (by omega)] at HI2; exact HI2
          clear HI2
          go_wp2
          go_roundg (s.size - (i + 1))
          case measure => omega
          case rel => exact ⟨i + 1, gr, c, rfl, rfl, by simp, by omega, by omega, by omega, by omega, HI3, rfl⟩
    · have iI : ¬ ((i : Int) < (s.size : Int)) := by omega
      obtain rfl : R = true := by
        have h := HI.out
        rw [show s.size - i = 0 by omega, nmG] at h
        exact h.symm
      clear HI
      go_wp2
      go_ret
      exact ⟨rfl, rfl⟩
end Go.Proofs.YtgdemlebohlolaaGreatDoor.Ck

/-
  DERIVED. The document's forms, by kinds.
-/
namespace Go.Proofs.YtgdemlebohlolaaGreatDoor.Ck
open Go Go.Proofs Go.RowKit

theorem formed_6 (w : World) (s : ByteArray) (hs : s.size ≤ 140737488351232) : Calls Tryz.prog 43 #[.int .i64 6, .string s] w fun e w' => e = .returned (.bool (dcF s)) ∧ w = w' := by
  have c := decimalForm_any w s hs
  generalize dcF s = Z at *
  go_enter Tryz.func43, Tryz.ntmps43
  go_wp2_with (go_at_call 63; refine Stop.mk ?_)
  refine Stop.out (c.mono ?_)
  rintro e W1 ⟨rfl, rfl⟩
  go_wp2
  go_ret
  exact ⟨rfl, rfl⟩
theorem formed_7 (w : World) (s : ByteArray) (hs : s.size ≤ 140737488351232) : Calls Tryz.prog 43 #[.int .i64 7, .string s] w fun e w' => e = .returned (.bool (momF s)) ∧ w = w' := by
  have c := moment_any w s hs
  generalize momF s = Z at *
  go_enter Tryz.func43, Tryz.ntmps43
  go_wp2_with (go_at_call 65; refine Stop.mk ?_)
  refine Stop.out (c.mono ?_)
  rintro e W1 ⟨rfl, rfl⟩
  go_wp2
  go_ret
  exact ⟨rfl, rfl⟩
theorem formed_23 (w : World) (s : ByteArray) (hs : s.size ≤ 140737488351232) : Calls Tryz.prog 43 #[.int .i64 23, .string s] w fun e w' => e = .returned (.bool (uidF s)) ∧ w = w' := by
  have c := ruid_any w s hs
  generalize uidF s = Z at *
  go_enter Tryz.func43, Tryz.ntmps43
  go_wp2_with (go_at_call 67; refine Stop.mk ?_)
  refine Stop.out (c.mono ?_)
  rintro e W1 ⟨rfl, rfl⟩
  go_wp2
  go_ret
  exact ⟨rfl, rfl⟩
theorem formed_15 (w : World) (s : ByteArray) (hs : s.size ≤ 140737488351232) : Calls Tryz.prog 43 #[.int .i64 15, .string s] w fun e w' => e = .returned (.bool (nmF s)) ∧ w = w' := by
  have c := rname_any w s hs
  generalize nmF s = Z at *
  go_enter Tryz.func43, Tryz.ntmps43
  go_wp2_with (go_at_call 68; refine Stop.mk ?_)
  refine Stop.out (c.mono ?_)
  rintro e W1 ⟨rfl, rfl⟩
  go_wp2
  go_ret
  exact ⟨rfl, rfl⟩
theorem formed_10 (w : World) (s : ByteArray) (hs : s.size ≤ 17) : Calls Tryz.prog 43 #[.int .i64 10, .string s] w fun e w' => e = .returned (.bool (whF s)) ∧ w = w' := by
  have c := wholeForm_any w s hs
  generalize whF s = Z at *
  go_enter Tryz.func43, Tryz.ntmps43
  go_wp2_with (go_at_call 64; refine Stop.mk ?_)
  refine Stop.out (c.mono ?_)
  rintro e W1 ⟨rfl, rfl⟩
  go_wp2
  go_ret
  exact ⟨rfl, rfl⟩
theorem formed_21 (w : World) (s : ByteArray) (hs : s.size ≤ 140737488351232) : Calls Tryz.prog 43 #[.int .i64 21, .string s] w fun e w' => e = .returned (.bool (clk s 0 == (s.size : Int))) ∧ w = w' := by
  have c := clock_any w s 0 hs (Nat.zero_le _)
  generalize clk s 0 = Z at *
  go_enter Tryz.func43, Tryz.ntmps43
  go_wp2_with (go_at_call 66; refine Stop.mk ?_)
  refine Stop.out (c.mono ?_)
  rintro e W1 ⟨rfl, rfl⟩
  go_wp2
  go_ret
  exact ⟨rfl, rfl⟩
theorem formed_5 (w : World) (s : ByteArray) : Calls Tryz.prog 43 #[.int .i64 5, .string s] w fun e w' => e = .returned (.bool ((s.size : Int) == 8)) ∧ w = w' := by
  go_enter Tryz.func43, Tryz.ntmps43
  go_wp2
  go_ret
  exact ⟨rfl, rfl⟩
theorem formed_2 (w : World) (s : ByteArray) (hs : s.size ≤ 140737488351232) : Calls Tryz.prog 43 #[.int .i64 2, .string s] w fun e w' => e = .returned (.bool (decide (s.size = 4) && decide (cnt s 4 0 = 3))) ∧ w = w' := by
  have c := upTo_any w s 0 4 hs (Nat.zero_le _) (by omega)
  simp only [Nat.zero_add] at c
  generalize cnt s 4 0 = k at *
  by_cases h4 : s.size = 4
  · have e4 : ((s.size : Int) == 4) = true := by rw [h4]; rfl
    rw [decide_eq_true h4, Bool.true_and]
    by_cases hk : k = 3
    · subst hk
      go_enter Tryz.func43, Tryz.ntmps43
      go_wp2_with (go_at_call 62; refine Stop.mk ?_)
      refine Stop.out (c.mono ?_)
      rintro e W1 ⟨rfl, rfl⟩
      go_wp2
      go_ret
      exact ⟨rfl, rfl⟩
    · have ek : ((k : Int) == 3) = false := beq_eq_false_iff_ne.2 (by omega)
      rw [decide_eq_false hk]
      go_enter Tryz.func43, Tryz.ntmps43
      go_wp2_with (go_at_call 62; refine Stop.mk ?_)
      refine Stop.out (c.mono ?_)
      rintro e W1 ⟨rfl, rfl⟩
      go_wp2
      go_ret
      exact ⟨rfl, rfl⟩
  · have e4 : ((s.size : Int) == 4) = false := beq_eq_false_iff_ne.2 (by omega)
    rw [decide_eq_false h4, Bool.false_and]
    clear c
    go_enter Tryz.func43, Tryz.ntmps43
    go_wp2
    go_ret
    exact ⟨rfl, rfl⟩
theorem formed_else (w : World) (v : Int) (h : v ≠ 2 ∧ v ≠ 5 ∧ v ≠ 6 ∧ v ≠ 10 ∧ v ≠ 7 ∧ v ≠ 21 ∧ v ≠ 23 ∧ v ≠ 15) (s : ByteArray) : Calls Tryz.prog 43 #[.int .i64 v, .string s] w fun e w' => e = .returned (.bool true) ∧ w = w' := by
  have e2 : (v == 2) = false := beq_eq_false_iff_ne.2 (by omega)
  have e5 : (v == 5) = false := beq_eq_false_iff_ne.2 (by omega)
  have e6 : (v == 6) = false := beq_eq_false_iff_ne.2 (by omega)
  have e10 : (v == 10) = false := beq_eq_false_iff_ne.2 (by omega)
  have e7 : (v == 7) = false := beq_eq_false_iff_ne.2 (by omega)
  have e21 : (v == 21) = false := beq_eq_false_iff_ne.2 (by omega)
  have e23 : (v == 23) = false := beq_eq_false_iff_ne.2 (by omega)
  have e15 : (v == 15) = false := beq_eq_false_iff_ne.2 (by omega)
  clear h
  go_enter Tryz.func43, Tryz.ntmps43
  go_wp2
  go_ret
  exact ⟨rfl, rfl⟩

/-- What bytes may stand in a value of that kind. -/
def plB (v : Int) (c : Nat) : Bool :=
  if v = 1 then decide (32 ≤ c) && (decide (c ≤ 126) && decide (c ≠ 92))
  else if v = 2 then dg c || amB c [68, 87, 77, 89]
  else if v = 4 then dg c || ((decide (65 ≤ c) && decide (c ≤ 90)) || amB c [32, 95])
  else if v = 5 then dg c
  else if v = 6 then dg c || amB c [43, 45, 46, 69, 101, 32]
  else if v = 7 then dg c || amB c [43, 45, 46]
  else if v = 21 ∨ v = 23 then dg c || decide (c = 46)
  else if v = 10 then dg c || amB c [43, 45, 32]
  else if v = 26 then decide (33 ≤ c) && (decide (c ≤ 126) && decide (c ≠ 92))
  else true
set_option maxRecDepth 100000 in
theorem plain_1 (w : World) (c : Nat) : Calls Tryz.prog 61 #[.int .i64 1, .int .u8 (c : Int)] w fun e w' => e = .returned (.bool (plB 1 c)) ∧ w = w' := by
  show Calls Tryz.prog 61 #[.int .i64 1, .int .u8 (c : Int)] w fun e w' => e = .returned (.bool (decide (32 ≤ c) && (decide (c ≤ 126) && decide (c ≠ 92)))) ∧ w = w'
  by_cases h1 : 32 ≤ c
  · have i1 : (c : Int) ≥ 32 := by omega
    rw [decide_eq_true h1, Bool.true_and]
    by_cases h2 : c ≤ 126
    · have i2 : (c : Int) ≤ 126 := by omega
      rw [decide_eq_true h2, Bool.true_and]
      by_cases h3 : c = 92
      · subst h3
        go_enter Tryz.func61, Tryz.ntmps61
        go_wp2
        go_ret
        exact ⟨rfl, rfl⟩
      · have i3 : ((c : Int) != 92) = true := by simp; omega
        rw [decide_eq_true h3]
        go_enter Tryz.func61, Tryz.ntmps61
        go_wp2
        go_ret
        exact ⟨rfl, rfl⟩
    · have i2 : ¬ ((c : Int) ≤ 126) := by omega
      rw [decide_eq_false h2, Bool.false_and]
      go_enter Tryz.func61, Tryz.ntmps61
      go_wp2
      go_ret
      exact ⟨rfl, rfl⟩
  · have i1 : ¬ ((c : Int) ≥ 32) := by omega
    rw [decide_eq_false h1, Bool.false_and]
    go_enter Tryz.func61, Tryz.ntmps61
    go_wp2
    go_ret
    exact ⟨rfl, rfl⟩
set_option maxRecDepth 100000 in
theorem plain_26 (w : World) (c : Nat) : Calls Tryz.prog 61 #[.int .i64 26, .int .u8 (c : Int)] w fun e w' => e = .returned (.bool (plB 26 c)) ∧ w = w' := by
  show Calls Tryz.prog 61 #[.int .i64 26, .int .u8 (c : Int)] w fun e w' => e = .returned (.bool (decide (33 ≤ c) && (decide (c ≤ 126) && decide (c ≠ 92)))) ∧ w = w'
  by_cases h1 : 33 ≤ c
  · have i1 : (c : Int) ≥ 33 := by omega
    rw [decide_eq_true h1, Bool.true_and]
    by_cases h2 : c ≤ 126
    · have i2 : (c : Int) ≤ 126 := by omega
      rw [decide_eq_true h2, Bool.true_and]
      by_cases h3 : c = 92
      · subst h3
        go_enter Tryz.func61, Tryz.ntmps61
        go_wp2
        go_ret
        exact ⟨rfl, rfl⟩
      · have i3 : ((c : Int) != 92) = true := by simp; omega
        rw [decide_eq_true h3]
        go_enter Tryz.func61, Tryz.ntmps61
        go_wp2
        go_ret
        exact ⟨rfl, rfl⟩
    · have i2 : ¬ ((c : Int) ≤ 126) := by omega
      rw [decide_eq_false h2, Bool.false_and]
      go_enter Tryz.func61, Tryz.ntmps61
      go_wp2
      go_ret
      exact ⟨rfl, rfl⟩
  · have i1 : ¬ ((c : Int) ≥ 33) := by omega
    rw [decide_eq_false h1, Bool.false_and]
    go_enter Tryz.func61, Tryz.ntmps61
    go_wp2
    go_ret
    exact ⟨rfl, rfl⟩
set_option maxRecDepth 100000 in
theorem plain_2 (w : World) (c : Nat) : Calls Tryz.prog 61 #[.int .i64 2, .int .u8 (c : Int)] w fun e w' => e = .returned (.bool (plB 2 c)) ∧ w = w' := by
  show Calls Tryz.prog 61 #[.int .i64 2, .int .u8 (c : Int)] w fun e w' => e = .returned (.bool (dg c || amB c [68, 87, 77, 89])) ∧ w = w'
  have c1 := rdigit_any w c
  have c2 : Calls Tryz.prog 87 #[.int .u8 (c : Int), .string ⟨#[68, 87, 77, 89]⟩] w fun e w' => e = .returned (.bool (amB c [68, 87, 77, 89])) ∧ w = w' := among_any w c ⟨#[68, 87, 77, 89]⟩ (by decide)
  generalize amB c [68, 87, 77, 89] = Z at *
  cases hd : dg c with
  | true =>
    rw [hd] at c1
    rw [Bool.true_or]
    clear c2
    go_enter Tryz.func61, Tryz.ntmps61
    go_wp2_with (go_at_call 86; refine Stop.mk ?_)
    refine Stop.out (c1.mono ?_)
    rintro e W1 ⟨rfl, rfl⟩
    go_wp2
    go_ret
    exact ⟨rfl, rfl⟩
  | false =>
    rw [hd] at c1
    rw [Bool.false_or]
    go_enter Tryz.func61, Tryz.ntmps61
    go_wp2_with (go_at_call 86; refine Stop.mk ?_)
    refine Stop.out (c1.mono ?_)
    rintro e W1 ⟨rfl, rfl⟩
    go_wp2_with (go_at_call 87; refine Stop.mk ?_)
    refine Stop.out (c2.mono ?_)
    rintro e W1 ⟨rfl, rfl⟩
    go_wp2
    go_ret
    exact ⟨rfl, rfl⟩
set_option maxRecDepth 100000 in
theorem plain_6 (w : World) (c : Nat) : Calls Tryz.prog 61 #[.int .i64 6, .int .u8 (c : Int)] w fun e w' => e = .returned (.bool (plB 6 c)) ∧ w = w' := by
  show Calls Tryz.prog 61 #[.int .i64 6, .int .u8 (c : Int)] w fun e w' => e = .returned (.bool (dg c || amB c [43, 45, 46, 69, 101, 32])) ∧ w = w'
  have c1 := rdigit_any w c
  have c2 : Calls Tryz.prog 87 #[.int .u8 (c : Int), .string ⟨#[43, 45, 46, 69, 101, 32]⟩] w fun e w' => e = .returned (.bool (amB c [43, 45, 46, 69, 101, 32])) ∧ w = w' := among_any w c ⟨#[43, 45, 46, 69, 101, 32]⟩ (by decide)
  generalize amB c [43, 45, 46, 69, 101, 32] = Z at *
  cases hd : dg c with
  | true =>
    rw [hd] at c1
    rw [Bool.true_or]
    clear c2
    go_enter Tryz.func61, Tryz.ntmps61
    go_wp2_with (go_at_call 86; refine Stop.mk ?_)
    refine Stop.out (c1.mono ?_)
    rintro e W1 ⟨rfl, rfl⟩
    go_wp2
    go_ret
    exact ⟨rfl, rfl⟩
  | false =>
    rw [hd] at c1
    rw [Bool.false_or]
    go_enter Tryz.func61, Tryz.ntmps61
    go_wp2_with (go_at_call 86; refine Stop.mk ?_)
    refine Stop.out (c1.mono ?_)
    rintro e W1 ⟨rfl, rfl⟩
    go_wp2_with (go_at_call 87; refine Stop.mk ?_)
    refine Stop.out (c2.mono ?_)
    rintro e W1 ⟨rfl, rfl⟩
    go_wp2
    go_ret
    exact ⟨rfl, rfl⟩
set_option maxRecDepth 100000 in
theorem plain_7 (w : World) (c : Nat) : Calls Tryz.prog 61 #[.int .i64 7, .int .u8 (c : Int)] w fun e w' => e = .returned (.bool (plB 7 c)) ∧ w = w' := by
  show Calls Tryz.prog 61 #[.int .i64 7, .int .u8 (c : Int)] w fun e w' => e = .returned (.bool (dg c || amB c [43, 45, 46])) ∧ w = w'
  have c1 := rdigit_any w c
  have c2 : Calls Tryz.prog 87 #[.int .u8 (c : Int), .string ⟨#[43, 45, 46]⟩] w fun e w' => e = .returned (.bool (amB c [43, 45, 46])) ∧ w = w' := among_any w c ⟨#[43, 45, 46]⟩ (by decide)
  generalize amB c [43, 45, 46] = Z at *
  cases hd : dg c with
  | true =>
    rw [hd] at c1
    rw [Bool.true_or]
    clear c2
    go_enter Tryz.func61, Tryz.ntmps61
    go_wp2_with (go_at_call 86; refine Stop.mk ?_)
    refine Stop.out (c1.mono ?_)
    rintro e W1 ⟨rfl, rfl⟩
    go_wp2
    go_ret
    exact ⟨rfl, rfl⟩
  | false =>
    rw [hd] at c1
    rw [Bool.false_or]
    go_enter Tryz.func61, Tryz.ntmps61
    go_wp2_with (go_at_call 86; refine Stop.mk ?_)
    refine Stop.out (c1.mono ?_)
    rintro e W1 ⟨rfl, rfl⟩
    go_wp2_with (go_at_call 87; refine Stop.mk ?_)
    refine Stop.out (c2.mono ?_)
    rintro e W1 ⟨rfl, rfl⟩
    go_wp2
    go_ret
    exact ⟨rfl, rfl⟩
set_option maxRecDepth 100000 in
theorem plain_10 (w : World) (c : Nat) : Calls Tryz.prog 61 #[.int .i64 10, .int .u8 (c : Int)] w fun e w' => e = .returned (.bool (plB 10 c)) ∧ w = w' := by
  show Calls Tryz.prog 61 #[.int .i64 10, .int .u8 (c : Int)] w fun e w' => e = .returned (.bool (dg c || amB c [43, 45, 32])) ∧ w = w'
  have c1 := rdigit_any w c
  have c2 : Calls Tryz.prog 87 #[.int .u8 (c : Int), .string ⟨#[43, 45, 32]⟩] w fun e w' => e = .returned (.bool (amB c [43, 45, 32])) ∧ w = w' := among_any w c ⟨#[43, 45, 32]⟩ (by decide)
  generalize amB c [43, 45, 32] = Z at *
  cases hd : dg c with
  | true =>
    rw [hd] at c1
    rw [Bool.true_or]
    clear c2
    go_enter Tryz.func61, Tryz.ntmps61
    go_wp2_with (go_at_call 86; refine Stop.mk ?_)
    refine Stop.out (c1.mono ?_)
    rintro e W1 ⟨rfl, rfl⟩
    go_wp2
    go_ret
    exact ⟨rfl, rfl⟩
  | false =>
    rw [hd] at c1
    rw [Bool.false_or]
    go_enter Tryz.func61, Tryz.ntmps61
    go_wp2_with (go_at_call 86; refine Stop.mk ?_)
    refine Stop.out (c1.mono ?_)
    rintro e W1 ⟨rfl, rfl⟩
    go_wp2_with (go_at_call 87; refine Stop.mk ?_)
    refine Stop.out (c2.mono ?_)
    rintro e W1 ⟨rfl, rfl⟩
    go_wp2
    go_ret
    exact ⟨rfl, rfl⟩
theorem plain_5 (w : World) (c : Nat) : Calls Tryz.prog 61 #[.int .i64 5, .int .u8 (c : Int)] w fun e w' => e = .returned (.bool (plB 5 c)) ∧ w = w' := by
  show Calls Tryz.prog 61 #[.int .i64 5, .int .u8 (c : Int)] w fun e w' => e = .returned (.bool (dg c)) ∧ w = w'
  have c1 := rdigit_any w c
  generalize dg c = Z at *
  go_enter Tryz.func61, Tryz.ntmps61
  go_wp2_with (go_at_call 86; refine Stop.mk ?_)
  refine Stop.out (c1.mono ?_)
  rintro e W1 ⟨rfl, rfl⟩
  go_wp2
  go_ret
  exact ⟨rfl, rfl⟩
theorem plain_21 (w : World) (c : Nat) : Calls Tryz.prog 61 #[.int .i64 21, .int .u8 (c : Int)] w fun e w' => e = .returned (.bool (plB 21 c)) ∧ w = w' := by
  show Calls Tryz.prog 61 #[.int .i64 21, .int .u8 (c : Int)] w fun e w' => e = .returned (.bool (dg c || decide (c = 46))) ∧ w = w'
  have c1 := rdigit_any w c
  cases hd : dg c with
  | true =>
    rw [hd] at c1
    rw [Bool.true_or]
    go_enter Tryz.func61, Tryz.ntmps61
    go_wp2_with (go_at_call 86; refine Stop.mk ?_)
    refine Stop.out (c1.mono ?_)
    rintro e W1 ⟨rfl, rfl⟩
    go_wp2
    go_ret
    exact ⟨rfl, rfl⟩
  | false =>
    rw [hd] at c1
    rw [Bool.false_or]
    have e46 : decide (c = 46) = ((c : Int) == 46) := by rw [Bool.eq_iff_iff, decide_eq_true_eq, beq_iff_eq]; omega
    rw [e46]
    clear e46
    go_enter Tryz.func61, Tryz.ntmps61
    go_wp2_with (go_at_call 86; refine Stop.mk ?_)
    refine Stop.out (c1.mono ?_)
    rintro e W1 ⟨rfl, rfl⟩
    go_wp2
    go_ret
    exact ⟨rfl, rfl⟩
theorem plain_23 (w : World) (c : Nat) : Calls Tryz.prog 61 #[.int .i64 23, .int .u8 (c : Int)] w fun e w' => e = .returned (.bool (plB 23 c)) ∧ w = w' := by
  show Calls Tryz.prog 61 #[.int .i64 23, .int .u8 (c : Int)] w fun e w' => e = .returned (.bool (dg c || decide (c = 46))) ∧ w = w'
  have c1 := rdigit_any w c
  cases hd : dg c with
  | true =>
    rw [hd] at c1
    rw [Bool.true_or]
    go_enter Tryz.func61, Tryz.ntmps61
    go_wp2_with (go_at_call 86; refine Stop.mk ?_)
    refine Stop.out (c1.mono ?_)
    rintro e W1 ⟨rfl, rfl⟩
    go_wp2
    go_ret
    exact ⟨rfl, rfl⟩
  | false =>
    rw [hd] at c1
    rw [Bool.false_or]
    have e46 : decide (c = 46) = ((c : Int) == 46) := by rw [Bool.eq_iff_iff, decide_eq_true_eq, beq_iff_eq]; omega
    rw [e46]
    clear e46
    go_enter Tryz.func61, Tryz.ntmps61
    go_wp2_with (go_at_call 86; refine Stop.mk ?_)
    refine Stop.out (c1.mono ?_)
    rintro e W1 ⟨rfl, rfl⟩
    go_wp2
    go_ret
    exact ⟨rfl, rfl⟩
end Go.Proofs.YtgdemlebohlolaaGreatDoor.Ck
