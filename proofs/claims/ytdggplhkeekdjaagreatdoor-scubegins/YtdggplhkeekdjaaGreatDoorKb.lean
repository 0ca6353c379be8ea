import Derived.Test.YtdggplhkeekdjaaGreatDoorProg
import Derived.WalkKit
import Derived.WalkSpells
import Derived.WalkLawsBesides
import Derived.Deep.QuietTactic
import Derived.BigQuiet
import Derived.BigRegion
import Derived.KernelRfl
import Derived.Deep.RegionWith
import Derived.Deep.LoopGhost
import Derived.WalkMore
/-
  DERIVED. The document's small questions of bytes.
-/
namespace Go.Proofs.YtdggplhkeekdjaaGreatDoor.Ck
open Go Go.Proofs Go.RowKit

def Stop (p : Prop) : Prop := p
theorem Stop.mk {p : Prop} (h : Stop p) : p := h
theorem Stop.out {p : Prop} (h : p) : Stop p := h
theorem get_get! (s : ByteArray) (pos : Nat) (h : pos < s.size) : s[pos] = s.get! pos := by
  show s.data[pos] = s.data[pos]!
  rw [getElem!_pos]
/-- Is it a digit? -/
def dg (b : Nat) : Bool := decide (48 ≤ b) && decide (b ≤ 57)
/-- Does a digit stand here? -/
def isD (s : ByteArray) (i : Nat) : Bool := decide (i < s.size) && dg (s.get! i).toNat
/-- So many digits, at most, from here on. -/
def cnt (s : ByteArray) : Nat → Nat → Nat
  | 0, _ => 0
  | m + 1, i => if isD s i = true then 1 + cnt s m (i + 1) else 0
theorem cnt_le (s : ByteArray) : ∀ m i, cnt s m i ≤ m
  | 0, _ => Nat.le_refl _
  | m + 1, i => by
    rw [cnt]
    split
    · have := cnt_le s m (i + 1); omega
    · omega
theorem cnt_size (s : ByteArray) : ∀ m i, i ≤ s.size → i + cnt s m i ≤ s.size
  | 0, i, h => h
  | m + 1, i, h => by
    rw [cnt]
    split
    · rename_i hd
      have : i < s.size := by unfold isD at hd; simp at hd; exact hd.1
      have := cnt_size s m (i + 1) (by omega)
      omega
    · omega

set_option maxRecDepth 100000 in
theorem rdigit_any (w : World) (b : Nat) : Calls Tryz.prog 87 #[.int .u8 (b : Int)] w fun e w' => e = .returned (.bool (dg b)) ∧ w = w' := by
  unfold dg
  by_cases h1 : 48 ≤ b
  · have i1 : ((b : Int) ≥ 48) := by omega
    rw [decide_eq_true h1, Bool.true_and]
    by_cases h2 : b ≤ 57
    · have i2 : ((b : Int) ≤ 57) := by omega
      rw [decide_eq_true h2]
      go_enter Tryz.func87, Tryz.ntmps87
      go_wp2
      go_ret
      exact ⟨rfl, rfl⟩
    · have i2 : ¬ ((b : Int) ≤ 57) := by omega
      rw [decide_eq_false h2]
      go_enter Tryz.func87, Tryz.ntmps87
      go_wp2
      go_ret
      exact ⟨rfl, rfl⟩
  · have i1 : ¬ ((b : Int) ≥ 48) := by omega
    rw [decide_eq_false h1, Bool.false_and]
    go_enter Tryz.func87, Tryz.ntmps87
    go_wp2
    go_ret
    exact ⟨rfl, rfl⟩

/-- Is it one of these? -/
def amB (c : Nat) : List UInt8 → Bool
  | [] => false
  | b :: l => decide (b.toNat = c) || amB c l
theorem drop_at (s : ByteArray) (i : Nat) (h : i < s.size) : s.data.toList.drop i = s.get! i :: s.data.toList.drop (i + 1) := by
  have hl : i < s.data.toList.length := by rw [Array.length_toList]; exact h
  rw [List.drop_eq_getElem_cons hl]
  congr 1
  rw [← get_get! s i h]
  show s.data.toList[i] = s.data[i]
  rw [Array.getElem_toList]

set_option maxRecDepth 100000 in
theorem among_any (w : World) (c : Nat) (s : ByteArray) (hs : s.size ≤ 1000) : Calls Tryz.prog 88 #[.int .u8 (c : Int), .string s] w fun e w' => e = .returned (.bool (amB c s.data.toList)) ∧ w = w' := by
  obtain ⟨R, hR⟩ : ∃ R, amB c s.data.toList = R := ⟨_, rfl⟩
  have HR : Hid (amB c (s.data.toList.drop 0) = R) := hR
  rw [hR]
  clear hR
  go_enter Tryz.func88, Tryz.ntmps88
  go_wp2
  go_loopg [5] s.size (fun k s5 wx => ∃ i : Nat, s5 = .int .i64 (i : Int) ∧ i ≤ s.size ∧ k + i = s.size ∧ Hid (amB c (s.data.toList.drop i) = R) ∧ w = wx)
  case atStart => exact ⟨0, rfl, by omega, by omega, HR, rfl⟩
  case round =>
    obtain ⟨i, rfl, hi, hg, HI, hw⟩ := hrel
    subst hw
    by_cases hlt : i < s.size
    · obtain ⟨b, hb⟩ : ∃ b, s[i].toNat = b := ⟨_, rfl⟩
      have hgb : (s.get! i).toNat = b := by rw [← get_get! s i hlt, hb]
      have HI2 : Hid ((decide (b = c) || amB c (s.data.toList.drop (i + 1))) = R) := by
        have := HI.out
        rw [drop_at s i hlt, amB, hgb] at this
        exact this
      clear HI hgb
      by_cases hbc : b = c
      · have e1 : ((b : Int) == (c : Int)) = true := by simp; omega
        obtain rfl : R = true := by have := HI2.out; rw [decide_eq_true hbc, Bool.true_or] at this; exact this.symm
        clear HI2
        go_wp2
        go_ret
        exact ⟨rfl, rfl⟩
      · have e1 : ((b : Int) == (c : Int)) = false := by simp; omega
        have HI3 : Hid (amB c (s.data.toList.drop (i + 1)) = R) := by have := HI2.out; rw [decide_eq_false hbc, Bool.false_or] at this; exact this
        clear HI2
        go_wp2
        go_roundg (s.size - (i + 1))
        case measure => omega
        case rel => exact ⟨i + 1, by simp, by omega, by omega, HI3, rfl⟩
    · obtain rfl : R = false := by
        have := HI.out
        rw [List.drop_eq_nil_of_le (by rw [Array.length_toList]; show s.size ≤ i; omega)] at this
        exact this.symm
      clear HI
      go_wp2
      go_ret
      exact ⟨rfl, rfl⟩

set_option maxRecDepth 100000 in
set_option maxHeartbeats 1000000 in
theorem upTo_any (w : World) (s : ByteArray) (i most : Nat) (hs : s.size ≤ 140737488351232) (hi : i ≤ s.size) (hm : most ≤ 140737488351232) : Calls Tryz.prog 57 #[.string s, .int .i64 (i : Int), .int .i64 (most : Int)] w fun e w' => e = .returned (.int .i64 ((i + cnt s most i : Nat) : Int)) ∧ w = w' := by
  obtain ⟨R, hR⟩ : ∃ R, i + cnt s most i = R := ⟨_, rfl⟩
  have HR : Hid (i + cnt s (most - 0) i = R) := hR
  rw [hR]
  clear hR
  go_enter Tryz.func57, Tryz.ntmps57
  go_wp2
  go_loopg [1, 7] most (fun g s1 s7 wx => ∃ a k : Nat, s1 = .int .i64 (a : Int) ∧ s7 = .int .i64 (k : Int) ∧ a ≤ s.size ∧ k ≤ most ∧ g + k = most ∧ Hid (a + cnt s (most - k) a = R) ∧ w = wx)
  case atStart => exact ⟨i, 0, rfl, rfl, hi, by omega, by omega, HR, rfl⟩
  case round =>
    obtain ⟨a, k, rfl, rfl, ha, hk, hg, HI, hw⟩ := hrel
    subst hw
    by_cases hkm : k < most
    · have hkI : (k : Int) < (most : Int) := by omega
      have hek : most - k = (most - (k + 1)) + 1 := by omega
      by_cases hlt : a < s.size
      · have haI : (a : Int) < (s.size : Int) := by omega
        obtain ⟨b, hb⟩ : ∃ b, s[a].toNat = b := ⟨_, rfl⟩
        have hgb : (s.get! a).toNat = b := by rw [← get_get! s a hlt, hb]
        have cD := rdigit_any w b
        cases hd : dg b with
        | true =>
          rw [hd] at cD
          have HI2 : Hid (a + 1 + cnt s (most - (k + 1)) (a + 1) = R) := by
            have h := HI.out
            have hD : isD s a = true := by unfold isD; rw [decide_eq_true hlt, hgb, hd]; rfl
            rw [hek, cnt, if_pos hD] at h
            show _ = _
            omega
          clear HI hd hgb hek
          go_wp2_with (go_at_call 87; refine Stop.mk ?_)
          refine Stop.out (cD.mono ?_)
          rintro e W1 ⟨rfl, rfl⟩
          clear cD
          go_wp2
          go_roundg (most - (k + 1))
          case measure => omega
          case rel => exact ⟨a + 1, k + 1, by simp, by simp, by omega, by omega, by omega, HI2, rfl⟩
        | false =>
          rw [hd] at cD
          obtain rfl : a = R := by
            have h := HI.out
            have hD : ¬ isD s a = true := by unfold isD; rw [hgb, hd]; simp
            rw [hek, cnt, if_neg hD] at h
            omega
          clear HI hd hgb hek
          go_wp2_with (go_at_call 87; refine Stop.mk ?_)
          refine Stop.out (cD.mono ?_)
          rintro e W1 ⟨rfl, rfl⟩
          clear cD
          go_wp2
          go_ret
          exact ⟨rfl, rfl⟩
      · have haI : ¬ ((a : Int) < (s.size : Int)) := by omega
        obtain rfl : a = R := by
          have h := HI.out
          have hD : ¬ isD s a = true := by unfold isD; rw [decide_eq_false hlt]; simp
          rw [hek, cnt, if_neg hD] at h
          omega
        clear HI hek
        go_wp2
        go_ret
        exact ⟨rfl, rfl⟩
    · have hkI : ¬ ((k : Int) < (most : Int)) := by omega
      obtain rfl : a = R := by
        have h := HI.out
        rw [show most - k = 0 by omega, cnt] at h
        omega
      clear HI
      go_wp2
      go_ret
      exact ⟨rfl, rfl⟩

/-- Does a sign stand here? -/
def isS (s : ByteArray) (i : Nat) : Bool := decide (i < s.size) && (decide ((s.get! i).toNat = 43) || decide ((s.get! i).toNat = 45))
def sgP (s : ByteArray) (i : Nat) : Nat := if isS s i = true then i + 1 else i
set_option maxRecDepth 100000 in
theorem sign_any (w : World) (s : ByteArray) (i : Nat) (hs : s.size ≤ 140737488351232) (hi : i ≤ s.size) : Calls Tryz.prog 89 #[.string s, .int .i64 (i : Int)] w fun e w' => e = .returned (.int .i64 ((sgP s i : Nat) : Int)) ∧ w = w' := by
  unfold sgP isS
  by_cases hlt : i < s.size
  · have hiI : (i : Int) < (s.size : Int) := by omega
    obtain ⟨b, hb⟩ : ∃ b, s[i].toNat = b := ⟨_, rfl⟩
    have hgb : (s.get! i).toNat = b := by rw [← get_get! s i hlt, hb]
    rw [decide_eq_true hlt, hgb, Bool.true_and]
    clear hgb
    by_cases h1 : b = 43
    · subst h1
      rw [if_pos (by simp)]
      go_enter Tryz.func89, Tryz.ntmps89
      go_wp2
      go_ret
      exact ⟨by simp, rfl⟩
    · by_cases h2 : b = 45
      · subst h2
        rw [if_pos (by simp)]
        go_enter Tryz.func89, Tryz.ntmps89
        go_wp2
        go_ret
        exact ⟨by simp, rfl⟩
      · have e1 : ((b : Int) == 43) = false := by simp; omega
        have e2 : ((b : Int) == 45) = false := by simp; omega
        rw [if_neg (by simp [h1, h2])]
        go_enter Tryz.func89, Tryz.ntmps89
        go_wp2
        go_ret
        exact ⟨rfl, rfl⟩
  · have hiI : ¬ ((i : Int) < (s.size : Int)) := by omega
    rw [decide_eq_false hlt, Bool.false_and, if_neg (by decide)]
    go_enter Tryz.func89, Tryz.ntmps89
    go_wp2
    go_ret
    exact ⟨rfl, rfl⟩

/-- The place behind the spaces. -/
def blk (s : ByteArray) : Nat → Nat → Nat
  | 0, i => i
  | f + 1, i => if i < s.size ∧ (s.get! i).toNat = 32 then blk s f (i + 1) else i
set_option maxRecDepth 100000 in
theorem blanks_any (w : World) (s : ByteArray) (hs : s.size ≤ 140737488351232) : Calls Tryz.prog 90 #[.string s] w fun e w' => e = .returned (.int .i64 ((blk s s.size 0 : Nat) : Int)) ∧ w = w' := by
  obtain ⟨R, hR⟩ : ∃ R, blk s s.size 0 = R := ⟨_, rfl⟩
  have HR : Hid (blk s (s.size - 0) 0 = R) := hR
  rw [hR]
  clear hR
  go_enter Tryz.func90, Tryz.ntmps90
  go_wp2
  go_loopg [3] s.size (fun k s3 wx => ∃ i : Nat, s3 = .int .i64 (i : Int) ∧ i ≤ s.size ∧ k + i = s.size ∧ Hid (blk s (s.size - i) i = R) ∧ w = wx)
  case atStart => exact ⟨0, rfl, by omega, by omega, HR, rfl⟩
  case round =>
    obtain ⟨i, rfl, hi, hg, HI, hw⟩ := hrel
    subst hw
    by_cases hlt : i < s.size
    · have hiI : (i : Int) < (s.size : Int) := by omega
      obtain ⟨b, hb⟩ : ∃ b, s[i].toNat = b := ⟨_, rfl⟩
      have hgb : (s.get! i).toNat = b := by rw [← get_get! s i hlt, hb]
      have HI2 : Hid ((if i < s.size ∧ b = 32 then blk s (s.size - (i + 1)) (i + 1) else i) = R) := by
        have := HI.out
        rw [show s.size - i = (s.size - (i + 1)) + 1 by omega, blk, hgb] at this
        exact this
      clear HI hgb
      by_cases hb2 : b = 32
      · have HI3 : Hid (blk s (s.size - (i + 1)) (i + 1) = R) := by have := HI2.out; rw [if_pos ⟨hlt, hb2⟩] at this; exact this
        subst hb2
        clear HI2
        go_wp2
        go_roundg (s.size - (i + 1))
        case measure => omega
        case rel => exact ⟨i + 1, by simp, by omega, by omega, HI3, rfl⟩
      · have e1 : ((b : Int) == 32) = false := by simp; omega
        obtain rfl : i = R := by have := HI2.out; rw [if_neg (fun h => hb2 h.2)] at this; exact this
        clear HI2
        go_wp2
        go_ret
        exact ⟨rfl, rfl⟩
    · have hiI : ¬ ((i : Int) < (s.size : Int)) := by omega
      obtain rfl : i = R := by
        have := HI.out
        rw [show s.size - i = 0 by omega, blk] at this
        exact this
      clear HI
      go_wp2
      go_ret
      exact ⟨rfl, rfl⟩
end Go.Proofs.YtdggplhkeekdjaaGreatDoor.Ck

/-
  DERIVED. The document's clock and moment.
-/
namespace Go.Proofs.YtdggplhkeekdjaaGreatDoor.Ck
open Go Go.Proofs Go.RowKit

/-- Parts of two digits each. -/
def ckP (s : ByteArray) : Nat → Nat → Nat → Nat × Nat
  | 0, p, i => (p, i)
  | f + 1, p, i => if cnt s 2 i = 2 then ckP s f (p + 1) (i + 2) else (p, i)
def fin1 (s : ByteArray) (j : Nat) : Int := if cnt s 6 (j + 1) = 0 then -1 else ((j + 1 + cnt s 6 (j + 1) : Nat) : Int)
def fin0 (s : ByteArray) (p j : Nat) : Int := if p = 0 then -1 else if p = 3 ∧ j < s.size ∧ (s.get! j).toNat = 46 then fin1 s j else (j : Int)
/-- The place behind an hour, a minute, a second, a fraction. -/
def clk (s : ByteArray) (i : Nat) : Int := fin0 s (ckP s 3 0 i).1 (ckP s 3 0 i).2

set_option maxRecDepth 100000 in
set_option maxHeartbeats 2000000 in
theorem clock_any (w : World) (s : ByteArray) (i : Nat) (hs : s.size ≤ 140737488351232) (hi : i ≤ s.size) : Calls Tryz.prog 61 #[.string s, .int .i64 (i : Int)] w fun e w' => e = .returned (.int .i64 (clk s i)) ∧ w = w' := by
  have cU := fun a (h : a ≤ s.size) => upTo_any w s a 2 hs h (by omega)
  have cF := fun a (h : a ≤ s.size) => upTo_any w s a 6 hs h (by omega)
  obtain ⟨R, hR⟩ : ∃ R, clk s i = R := ⟨_, rfl⟩
  have HR : Hid (fin0 s (ckP s (3 - 0) 0 i).1 (ckP s (3 - 0) 0 i).2 = R) := hR
  rw [hR]
  have HU : Hid _ := cU
  have HF : Hid _ := cF
  clear hR cU cF
  go_enter Tryz.func61, Tryz.ntmps61
  go_wp2
  go_loopg [1, 5] 3 (fun g s1 s5 wx => ∃ a p : Nat, s1 = .int .i64 (a : Int) ∧ s5 = .int .i64 (p : Int) ∧ a ≤ s.size ∧ p ≤ 3 ∧ g + p = 3 ∧ Hid (fin0 s (ckP s (3 - p) p a).1 (ckP s (3 - p) p a).2 = R) ∧ w = wx)
  case atStart => exact ⟨i, 0, rfl, rfl, hi, by omega, by omega, HR, rfl⟩
  case round =>
    clear HR
    obtain ⟨a, p, rfl, rfl, ha, hp, hg, HI, hw⟩ := hrel
    subst hw
    have stop : (3 - p = 0 ∨ cnt s 2 a ≠ 2) → Hid (fin0 s p a = R) := fun h => by
      have h2 := HI.out
      rcases h with h | h
      · rw [h, ckP] at h2; exact h2
      · cases hq : 3 - p with
        | zero => rw [hq, ckP] at h2; exact h2
        | succ q => rw [hq, ckP, if_neg h] at h2; exact h2
    by_cases hgo : p < 3 ∧ cnt s 2 a = 2
    · have hpI : (p : Int) < 3 := by omega
      have c := HU.out a ha
      rw [hgo.2] at c
      have hsz := cnt_size s 2 a ha
      rw [hgo.2] at hsz
      have he : (((a + 2 : Nat) : Int) == (a : Int) + 2) = true := by simp
      have HI2 : Hid (fin0 s (ckP s (3 - (p + 1)) (p + 1) (a + 2)).1 (ckP s (3 - (p + 1)) (p + 1) (a + 2)).2 = R) := by
        have h2 := HI.out
        rw [show 3 - p = (3 - (p + 1)) + 1 by omega, ckP, if_pos hgo.2] at h2
        exact h2
      clear HI stop
      go_wp2_with (go_at_call 57; refine Stop.mk ?_)
      refine Stop.out (c.mono ?_)
      rintro e W1 ⟨rfl, rfl⟩
      clear c
      go_wp2
      go_roundg (3 - (p + 1))
      case measure => omega
      case rel => exact ⟨a + 2, p + 1, by simp, by simp, by omega, by omega, by omega, HI2, rfl⟩
    · have HE := stop (by omega)
      clear HI stop
      by_cases hp3 : p = 3
      · subst hp3
        by_cases hlt : a < s.size
        · have haI : (a : Int) < (s.size : Int) := by omega
          obtain ⟨b, hb⟩ : ∃ b, s[a].toNat = b := ⟨_, rfl⟩
          have hgb : (s.get! a).toNat = b := by rw [← get_get! s a hlt, hb]
          by_cases h46 : b = 46
          · subst h46
            have hE : Hid (fin1 s a = R) := by
              have := HE.out
              unfold fin0 at this
              rw [if_neg (by decide), if_pos ⟨rfl, hlt, hgb⟩] at this
              exact this
            have c := HF.out (a + 1) (by omega)
            have hcs := cnt_size s 6 (a + 1) (by omega)
            clear HE hgb
            unfold fin1 at hE
            generalize cnt s 6 (a + 1) = k at *
            by_cases hk : k = 0
            · subst hk
              obtain rfl : (-1 : Int) = R := by have := hE.out; rw [if_pos rfl] at this; exact this
              have he : (((a + 1 + 0 : Nat) : Int) == (a : Int) + 1) = true := by simp
              go_wp2_with (go_at_call 57; refine Stop.mk ?_)
              refine Stop.out (c.mono ?_)
              rintro e W1 ⟨rfl, rfl⟩
              clear c
              go_wp2
              go_ret
              exact ⟨rfl, rfl⟩
            · obtain rfl : ((a + 1 + k : Nat) : Int) = R := by have := hE.out; rw [if_neg hk] at this; exact this
              have he : (((a + 1 + k : Nat) : Int) == (a : Int) + 1) = false := by simp; omega
              go_wp2_with (go_at_call 57; refine Stop.mk ?_)
              refine Stop.out (c.mono ?_)
              rintro e W1 ⟨rfl, rfl⟩
              clear c
              go_wp2
              go_ret
              exact ⟨rfl, rfl⟩
          · have e1 : ((b : Int) == 46) = false := by simp; omega
            obtain rfl : (a : Int) = R := by
              have := HE.out
              unfold fin0 at this
              rw [if_neg (by decide), if_neg (fun h => h46 (hgb ▸ h.2.2))] at this
              exact this
            clear HE hgb
            go_wp2
            go_ret
            exact ⟨rfl, rfl⟩
        · have haI : ¬ ((a : Int) < (s.size : Int)) := by omega
          obtain rfl : (a : Int) = R := by
            have := HE.out
            unfold fin0 at this
            rw [if_neg (by decide), if_neg (fun h => hlt h.2.1)] at this
            exact this
          clear HE
          go_wp2
          go_ret
          exact ⟨rfl, rfl⟩
      · have hpI : (p : Int) < 3 := by omega
        have c := HU.out a ha
        have hc2 : cnt s 2 a ≠ 2 := by omega
        have hsz := cnt_size s 2 a ha
        generalize cnt s 2 a = k at *
        have he : (((a + k : Nat) : Int) == (a : Int) + 2) = false := by simp; omega
        have e3 : ((p : Int) == 3) = false := by simp; omega
        by_cases hp0 : p = 0
        · subst hp0
          obtain rfl : (-1 : Int) = R := by have := HE.out; unfold fin0 at this; rw [if_pos rfl] at this; exact this
          clear HE
          go_wp2_with (go_at_call 57; refine Stop.mk ?_)
          refine Stop.out (c.mono ?_)
          rintro e W1 ⟨rfl, rfl⟩
          clear c
          go_wp2
          go_ret
          exact ⟨rfl, rfl⟩
        · have e0 : ((p : Int) == 0) = false := by simp; omega
          obtain rfl : (a : Int) = R := by
            have := HE.out
            unfold fin0 at this
            rw [if_neg hp0, if_neg (fun h => hp3 h.1)] at this
            exact this
          clear HE
          go_wp2_with (go_at_call 57; refine Stop.mk ?_)
          refine Stop.out (c.mono ?_)
          rintro e W1 ⟨rfl, rfl⟩
          clear c
          go_wp2
          go_ret
          exact ⟨rfl, rfl⟩
end Go.Proofs.YtdggplhkeekdjaaGreatDoor.Ck
