import Derived.Test.YtdggplhkeekdjaaGreatDoorKd
import Derived.Test.YtdggplhkeekdjaaGreatDoorRB
/-
  DERIVED. The document's forms: whole numbers, UIDs, names.
-/
namespace Go.Proofs.YtdggplhkeekdjaaGreatDoor.Ck
open Go Go.Proofs Go.RowKit

set_option maxRecDepth 100000 in
theorem dec17_any (w : World) (S : ByteArray) (hs : S.size ≤ 17) (hd : ∀ x ∈ Rp.bts S, 48 ≤ x ∧ x ≤ 57) : Calls Tryz.prog 52 #[.string S] w fun e w' => e = .returned (.int .i64 (Rp.decL (Rp.bts S) : Nat)) ∧ w = w' := by
  have HD : Hid (∀ x ∈ Rp.bts S, 48 ≤ x ∧ x ≤ 57) := hd
  clear hd
  go_enter Tryz.func52, Tryz.ntmps52
  go_wp2
  go_loop [3, 4] (fun x y => ∃ k n : Nat, x = .int .i64 n ∧ y = .int .i64 k ∧ k ≤ S.size ∧ n < 100000000000000000 ∧ Hid (n = Rp.decL ((Rp.bts S).take k))) (fun _ y => 100 - (intOf y).toNat)
  case atStart => exact ⟨0, 0, rfl, rfl, by omega, by omega, rfl⟩
  case round =>
    obtain ⟨k, n, rfl, rfl, hk, hn, HN⟩ := hrel
    by_cases hks : k < S.size
    · have hb := Rp.bts_get S k hks
      have hm : (Rp.bts S).getD k 0 ∈ Rp.bts S := by
        rw [List.getD_eq_getElem?_getD, List.getElem?_eq_getElem (show k < (Rp.bts S).length by rw [Rp.bts_length]; exact hks)]
        exact List.getElem_mem _
      have hr := HD.out _ hm
      have hr1 : 48 ≤ S[k].toNat := by rw [hb]; exact hr.1
      have hr2 : S[k].toNat ≤ 57 := by rw [hb]; exact hr.2
      have HN2 : Hid (10 * n + (S[k].toNat - 48) = Rp.decL ((Rp.bts S).take (k + 1))) := by
        show _ = _
        rw [Rp.decL_snoc _ _ (by rw [Rp.bts_length]; exact hks), hb, HN.out]
      have hlt : 10 * n + (S[k].toNat - 48) < 100000000000000000 := by
        rw [HN2.out]
        refine Nat.lt_of_lt_of_le (Rp.decL_lt _ (fun x hx => (HD.out x hx).2) (k + 1) (by rw [Rp.bts_length]; omega)) ?_
        exact Nat.pow_le_pow_right (n := 10) (i := k + 1) (j := 17) (by decide) (by omega)
      clear hb hm hr
      go_wp2
      exact ⟨⟨k + 1, 10 * n + (S[k].toNat - 48), by simp; omega, by simp, by omega, hlt, HN2⟩, by simp [intOf]; omega⟩
    · have hke : k = S.size := by omega
      have HN2 : Hid (n = Rp.decL (Rp.bts S)) := by
        have := HN.out
        rw [hke, List.take_of_length_le (by rw [Rp.bts_length]; exact Nat.le_refl _)] at this
        exact this
      clear HN
      go_wp2
      go_ret
      rw [← HN2.out]
      exact ⟨rfl, rfl⟩

theorem cnt_at (s : ByteArray) : ∀ m i k, k < cnt s m i → isD s (i + k) = true
  | 0, i, k, h => by rw [cnt] at h; omega
  | m + 1, i, k, h => by
    rw [cnt] at h
    split at h
    · rename_i hd
      cases k with
      | zero => exact hd
      | succ k =>
        have := cnt_at s m (i + 1) k (by omega)
        rw [show i + (k + 1) = i + 1 + k by omega]
        exact this
    · omega
theorem bts_digs (s : ByteArray) (k : Nat) (h : k + cnt s s.size k = s.size) : ∀ x ∈ Rp.bts (s.extract k s.size), 48 ≤ x ∧ x ≤ 57 := by
  intro x hx
  obtain ⟨j, hj⟩ := List.getElem?_of_mem hx
  unfold Rp.bts at hj
  rw [List.getElem?_map, ByteArray.data_extract, Array.toList_extract, List.getElem?_take, List.getElem?_drop] at hj
  split at hj
  · rename_i hlt
    have hks : k + j < s.size := by omega
    have hd := cnt_at s s.size k j (by omega)
    have hg : s.data.toList[k + j]? = some (s.get! (k + j)) := by
      rw [← get_get! s (k + j) hks, Array.getElem?_toList]
      show s.data[k + j]? = some s.data[k + j]
      rw [Array.getElem?_eq_getElem]
    rw [hg] at hj
    simp only [Option.map_some, Option.some.injEq] at hj
    rw [← hj]
    unfold isD dg at hd
    simp at hd
    exact hd.2
  · simp at hj

/-- A whole number's form. -/
def whI (s : ByteArray) (i k : Nat) : Bool :=
  if k = s.size ∨ k + cnt s s.size k ≠ s.size then false
  else if i < k ∧ (s.get! i).toNat = 45 then decide (Rp.decL (Rp.bts (s.extract k s.size)) ≤ 2147483648) else decide (Rp.decL (Rp.bts (s.extract k s.size)) < 2147483648)
def whF (s : ByteArray) : Bool := whI s (blk s s.size 0) (sgP s (blk s s.size 0))

set_option maxRecDepth 100000 in
set_option maxHeartbeats 4000000 in
theorem wholeForm_any (w : World) (s : ByteArray) (hs : s.size ≤ 17) : Calls Tryz.prog 59 #[.string s] w fun e w' => e = .returned (.bool (whF s)) ∧ w = w' := by
  have hs' : s.size ≤ 140737488351232 := by omega
  have cB := blanks_any w s hs'
  have hB := blk_le s s.size 0 (Nat.zero_le _)
  obtain ⟨R, hR⟩ : ∃ R, whF s = R := ⟨_, rfl⟩
  have HR : Hid (whF s = R) := hR
  rw [hR]
  unfold whF at HR
  clear hR
  have HS : Hid (∀ a, a ≤ s.size → Calls Tryz.prog 89 #[.string s, .int .i64 (a : Int)] w fun e w' => e = .returned (.int .i64 ((sgP s a : Nat) : Int)) ∧ w = w') := fun a h => sign_any w s a hs' h
  generalize blk s s.size 0 = i at *
  have cS := HS.out i hB.1
  have hS := sgP_le s i hB.1
  generalize sgP s i = k at *
  have cU := upTo_any w s k s.size hs' hS.1 hs'
  have hU := cnt_size s s.size k hS.1
  have HD : Hid (k + cnt s s.size k = s.size → ∀ x ∈ Rp.bts (s.extract k s.size), 48 ≤ x ∧ x ≤ 57) := bts_digs s k
  have HE : Hid ((∀ x ∈ Rp.bts (s.extract k s.size), 48 ≤ x ∧ x ≤ 57) → Calls Tryz.prog 52 #[.string (s.extract k s.size)] w fun e w' => e = .returned (.int .i64 (Rp.decL (Rp.bts (s.extract k s.size)) : Nat)) ∧ w = w') := fun h => dec17_any w _ (by rw [ByteArray.size_extract]; omega) h
  unfold whI at HR
  generalize cnt s s.size k = n at *
  generalize Rp.decL (Rp.bts (s.extract k s.size)) = V at *
  go_enter Tryz.func59, Tryz.ntmps59
  go_wp2_with (go_at_call 90; refine Stop.mk ?_)
  refine Stop.out (cB.mono ?_)
  rintro e W1 ⟨rfl, rfl⟩
  go_wp2_with (go_at_call 89; refine Stop.mk ?_)
  refine Stop.out (cS.mono ?_)
  rintro e W1 ⟨rfl, rfl⟩
  clear cB cS HS
  by_cases hk : k = s.size
  · obtain rfl : R = false := by rw [← HR.out, if_pos (.inl hk)]
    have ek : ((k : Int) == (s.size : Int)) = true := by simp; omega
    clear HR HD HE cU
    go_wp2
    go_ret
    exact ⟨rfl, rfl⟩
  have ek : ((k : Int) == (s.size : Int)) = false := by simp; omega
  by_cases hn : k + n = s.size
  · rw [if_neg (fun h => h.elim hk (fun h => h hn))] at HR
    have cE := HE.out (HD.out hn)
    have en : (((k + n : Nat) : Int) != (s.size : Int)) = false := by rw [hn]; simp
    clear HE HD
    go_wp2_with (go_at_call 57; refine Stop.mk ?_)
    refine Stop.out (cU.mono ?_)
    rintro e W1 ⟨rfl, rfl⟩
    clear cU
    have hks : (k : Int) ≤ (s.size : Int) := by omega
    go_wp2_with (go_at_call 52; refine Stop.mk ?_)
    refine Stop.out (cE.mono ?_)
    rintro e W1 ⟨rfl, rfl⟩
    clear cE
    by_cases hik : i < k
    · have iI : (k : Int) > (i : Int) := by omega
      have hlt : i < s.size := by omega
      obtain ⟨b, hb⟩ : ∃ b, s[i].toNat = b := ⟨_, rfl⟩
      have hgb : (s.get! i).toNat = b := by rw [← get_get! s i hlt, hb]
      by_cases h45 : b = 45
      · obtain rfl : R = decide ((V : Int) ≤ 2147483648) := by
          rw [← HR.out, if_pos ⟨hik, hgb.trans h45⟩, Bool.eq_iff_iff, decide_eq_true_eq, decide_eq_true_eq]
          omega
        subst h45
        clear HR hgb
        go_wp2
        go_ret
        exact ⟨rfl, rfl⟩
      · rw [if_neg (fun h => h45 (hgb.symm.trans h.2))] at HR
        have e45 : ((b : Int) == 45) = false := by simp; omega
        clear hgb
        by_cases hV : V < 2147483648
        · have vI : (V : Int) < 2147483648 := by omega
          obtain rfl : R = true := by rw [← HR.out]; exact decide_eq_true hV
          clear HR
          go_wp2
          go_ret
          exact ⟨rfl, rfl⟩
        · have vI : ¬ ((V : Int) < 2147483648) := by omega
          obtain rfl : R = false := by rw [← HR.out]; exact decide_eq_false hV
          clear HR
          go_wp2
          go_ret
          exact ⟨by show Ending.returned (.bool (decide ((V : Int) < 2147483648))) = _; rw [decide_eq_false (by omega)], rfl⟩
    · have iI : ¬ ((k : Int) > (i : Int)) := by omega
      rw [if_neg (fun h => hik h.1)] at HR
      by_cases hV : V < 2147483648
      · have vI : (V : Int) < 2147483648 := by omega
        obtain rfl : R = true := by rw [← HR.out]; exact decide_eq_true hV
        clear HR
        go_wp2
        go_ret
        exact ⟨rfl, rfl⟩
      · have vI : ¬ ((V : Int) < 2147483648) := by omega
        obtain rfl : R = false := by rw [← HR.out]; exact decide_eq_false hV
        clear HR
        go_wp2
        go_ret
        exact ⟨by show Ending.returned (.bool (decide ((V : Int) < 2147483648))) = _; rw [decide_eq_false (by omega)], rfl⟩
  · obtain rfl : R = false := by rw [← HR.out, if_pos (.inr hn)]
    have en : (((k + n : Nat) : Int) != (s.size : Int)) = true := by simp; omega
    clear HR HD HE
    go_wp2_with (go_at_call 57; refine Stop.mk ?_)
    refine Stop.out (cU.mono ?_)
    rintro e W1 ⟨rfl, rfl⟩
    clear cU
    go_wp2
    go_ret
    exact ⟨rfl, rfl⟩
end Go.Proofs.YtdggplhkeekdjaaGreatDoor.Ck

/-
  DERIVED. The document's forms: UIDs, names.
-/
namespace Go.Proofs.YtdggplhkeekdjaaGreatDoor.Ck
open Go Go.Proofs Go.RowKit

/-- A UID's form, from here on, in the part that began there. -/
def uidG (s : ByteArray) : Nat → Nat → Nat → Bool
  | 0, _, _ => true
  | f + 1, i, fr => if i = s.size ∨ (s.get! i).toNat = 46 then (if i = fr ∨ ((s.get! fr).toNat = 48 ∧ 1 < i - fr) then false else uidG s f (i + 1) (i + 1)) else uidG s f (i + 1) fr
def uidF (s : ByteArray) : Bool := uidG s (s.size + 1) 0 0

set_option maxRecDepth 100000 in
set_option maxHeartbeats 4000000 in
theorem ruid_any (w : World) (s : ByteArray) (hs : s.size ≤ 140737488351232) : Calls Tryz.prog 62 #[.string s] w fun e w' => e = .returned (.bool (uidF s)) ∧ w = w' := by
  obtain ⟨R, hR⟩ : ∃ R, uidF s = R := ⟨_, rfl⟩
  have HR : Hid (uidG s (s.size + 1 - 0) 0 0 = R) := hR
  rw [hR]
  clear hR
  go_enter Tryz.func62, Tryz.ntmps62
  go_wp2
  go_loopg [3, 4] (s.size + 1) (fun g s3 s4 wx => ∃ i fr : Nat, s3 = .int .i64 (fr : Int) ∧ s4 = .int .i64 (i : Int) ∧ i ≤ s.size + 1 ∧ fr ≤ i ∧ g + i = s.size + 1 ∧ Hid (uidG s (s.size + 1 - i) i fr = R) ∧ w = wx)
  case atStart => exact ⟨0, 0, rfl, rfl, by omega, by omega, by omega, HR, rfl⟩
  case round =>
    clear HR
    obtain ⟨i, fr, rfl, rfl, hi, hfr, hg, HI, hw⟩ := hrel
    subst hw
    by_cases hlt : i ≤ s.size
    · have iI : (i : Int) ≤ (s.size : Int) := by omega
      have HI2 : Hid ((if i = s.size ∨ (s.get! i).toNat = 46 then (if i = fr ∨ ((s.get! fr).toNat = 48 ∧ 1 < i - fr) then false else uidG s (s.size + 1 - (i + 1)) (i + 1) (i + 1)) else uidG s (s.size + 1 - (i + 1)) (i + 1) fr) = R) := by
        have h := HI.out
        rw [show s.size + 1 - i = (s.size + 1 - (i + 1)) + 1 by omega, uidG] at h
        exact h
      clear HI
      by_cases hend : i = s.size ∨ (s.get! i).toNat = 46
      · rw [if_pos hend] at HI2
        have hc : ((i : Int) == (s.size : Int)) = true ∨ (((i : Int) == (s.size : Int)) = false ∧ ∃ h : i < s.size, s[i].toNat = 46) := by
          by_cases he : i = s.size
          · exact .inl (by simp; omega)
          · refine .inr ⟨by simp; omega, by omega, ?_⟩
            rw [get_get! s i (by omega)]
            exact hend.resolve_left he
        by_cases hbad : i = fr
        · obtain rfl : R = false := by rw [← HI2.out, if_pos (.inl hbad)]
          subst hbad
          have e2 : ((i : Int) == (i : Int)) = true := by simp
          clear HI2 hend
          rcases hc with hc | ⟨hc, hl, hb⟩
          · go_wp2
            go_ret
            exact ⟨rfl, rfl⟩
          · go_wp2
            go_ret
            exact ⟨rfl, rfl⟩
        · have e2 : ((i : Int) == (fr : Int)) = false := by simp; omega
          have hfl : fr < s.size := by omega
          obtain ⟨b, hb0⟩ : ∃ b, s[fr].toNat = b := ⟨_, rfl⟩
          have hgb : (s.get! fr).toNat = b := by rw [← get_get! s fr hfl, hb0]
          rw [hgb] at HI2
          clear hend hgb
          by_cases h48 : b = 48
          · have e48 : ((b : Int) == 48) = true := by simp; omega
            by_cases hlong : 1 < i - fr
            · obtain rfl : R = false := by rw [← HI2.out, if_pos (.inr ⟨h48, hlong⟩)]
              have eg : (i : Int) - (fr : Int) > 1 := by omega
              clear HI2
              rcases hc with hc | ⟨hc, hl, hb⟩
              · go_wp2
                go_ret
                exact ⟨rfl, rfl⟩
              · go_wp2
                go_ret
                exact ⟨rfl, rfl⟩
            · have HI3 : Hid (uidG s (s.size + 1 - (i + 1)) (i + 1) (i + 1) = R) := by have := HI2.out; rw [if_neg (fun h => h.elim hbad (fun h => hlong h.2))] at this; exact this
              have eg : ¬ ((i : Int) - (fr : Int) > 1) := by omega
              clear HI2
              rcases hc with hc | ⟨hc, hl, hb⟩
              · go_wp2
                go_roundg (s.size + 1 - (i + 1))
                case measure => omega
                case rel => exact ⟨i + 1, i + 1, by simp, by simp, by omega, by omega, by omega, HI3, rfl⟩
              · go_wp2
                go_roundg (s.size + 1 - (i + 1))
                case measure => omega
                case rel => exact ⟨i + 1, i + 1, by simp, by simp, by omega, by omega, by omega, HI3, rfl⟩
          · have e48 : ((b : Int) == 48) = false := by simp; omega
            have HI3 : Hid (uidG s (s.size + 1 - (i + 1)) (i + 1) (i + 1) = R) := by have := HI2.out; rw [if_neg (fun h => h.elim hbad (fun h => h48 h.1))] at this; exact this
            clear HI2
            rcases hc with hc | ⟨hc, hl, hb⟩
            · go_wp2
              go_roundg (s.size + 1 - (i + 1))
              case measure => omega
              case rel => exact ⟨i + 1, i + 1, by simp, by simp, by omega, by omega, by omega, HI3, rfl⟩
            · go_wp2
              go_roundg (s.size + 1 - (i + 1))
              case measure => omega
              case rel => exact ⟨i + 1, i + 1, by simp, by simp, by omega, by omega, by omega, HI3, rfl⟩
      · have hne : i ≠ s.size := fun h => hend (.inl h)
        have hl : i < s.size := by omega
        have e1 : ((i : Int) == (s.size : Int)) = false := by simp; omega
        obtain ⟨b, hb⟩ : ∃ b, s[i].toNat = b := ⟨_, rfl⟩
        have hgb : (s.get! i).toNat = b := by rw [← get_get! s i hl, hb]
        have e46 : ((b : Int) == 46) = false := by
          have : b ≠ 46 := fun h => hend (.inr (hgb.trans h))
          simp; omega
        have HI3 : Hid (uidG s (s.size + 1 - (i + 1)) (i + 1) fr = R) := by have := HI2.out; rw [if_neg hend] at this; exact this
        clear HI2 hend hgb
        go_wp2
        go_roundg (s.size + 1 - (i + 1))
        case measure => omega
        case rel => exact ⟨i + 1, fr, by simp, by simp, by omega, by omega, by omega, HI3, rfl⟩
    · have iI : ¬ ((i : Int) ≤ (s.size : Int)) := by omega
      obtain rfl : R = true := by
        have h := HI.out
        rw [show s.size + 1 - i = 0 by omega, uidG] at h
        exact h.symm
      clear HI
      go_wp2
      go_ret
      exact ⟨rfl, rfl⟩

/-- A name's form, from here on, with so many groups and components. -/
def nmG (s : ByteArray) : Nat → Nat → Nat → Nat → Bool
  | 0, _, _, _ => true
  | f + 1, i, g, c =>
    if 3 < (if (s.get! i).toNat = 61 then g + 1 else g) ∨ 5 < (if (s.get! i).toNat = 61 then 1 else if (s.get! i).toNat = 94 then c + 1 else c) then false
    else nmG s f (i + 1) (if (s.get! i).toNat = 61 then g + 1 else g) (if (s.get! i).toNat = 61 then 1 else if (s.get! i).toNat = 94 then c + 1 else c)
def nmF (s : ByteArray) : Bool := nmG s s.size 0 1 1

set_option maxRecDepth 100000 in
set_option maxHeartbeats 4000000 in
theorem rname_any (w : World) (s : ByteArray) (hs : s.size ≤ 140737488351232) : Calls Tryz.prog 63 #[.string s] w fun e w' => e = .returned (.bool (nmF s)) ∧ w = w' := by
  obtain ⟨R, hR⟩ : ∃ R, nmF s = R := ⟨_, rfl⟩
  have HR : Hid (nmG s (s.size - 0) 0 1 1 = R) := hR
  rw [hR]
  clear hR
  go_enter Tryz.func63, Tryz.ntmps63
  go_wp2
  go_loopg [3, 4, 5] s.size (fun g s3 s4 s5 wx => ∃ i gr c : Nat, s3 = .int .i64 (gr : Int) ∧ s4 = .int .i64 (c : Int) ∧ s5 = .int .i64 (i : Int) ∧ i ≤ s.size ∧ gr ≤ 3 ∧ c ≤ 5 ∧ g + i = s.size ∧ Hid (nmG s (s.size - i) i gr c = R) ∧ w = wx)
  case atStart => exact ⟨0, 1, 1, rfl, rfl, rfl, by omega, by omega, by omega, by omega, HR, rfl⟩
  case round =>
    clear HR
    obtain ⟨i, gr, c, rfl, rfl, rfl, hi, hgr, hc, hg, HI, hw⟩ := hrel
    subst hw
    by_cases hlt : i < s.size
    · have iI : (i : Int) < (s.size : Int) := by omega
      obtain ⟨b, hb⟩ : ∃ b, s[i].toNat = b := ⟨_, rfl⟩
      have hgb : (s.get! i).toNat = b := by rw [← get_get! s i hlt, hb]
      have HI2 := HI.out
      rw [show s.size - i = (s.size - (i + 1)) + 1 by omega, nmG, hgb] at HI2
      clear HI hgb
      by_cases h61 : b = 61
      · subst h61
        simp only [if_true] at HI2
        by_cases h3 : 3 < gr + 1
        · obtain rfl : R = false := by rw [← HI2, if_pos (.inl h3)]
          have e3 : (gr : Int) + 1 > 3 := by omega
          clear HI2
          go_wp2
          go_ret
          exact ⟨rfl, rfl⟩
        · have e3 : ¬ ((gr : Int) + 1 > 3) := by omega
          have HI3 : Hid (nmG s (s.size - (i + 1)) (i + 1) (gr + 1) 1 = R) := by rw [if_neg (by omega)] at HI2; exact HI2
          clear HI2
          go_wp2
          go_roundg (s.size - (i + 1))
          case measure => omega
          case rel => exact ⟨i + 1, gr + 1, 1, by simp, rfl, by simp, by omega, by omega, by omega, by omega, HI3, rfl⟩
      · have e61 : ((b : Int) == 61) = false := by simp; omega
        have e3 : ¬ ((gr : Int) > 3) := by omega
        simp only [if_neg h61] at HI2
        by_cases h94 : b = 94
        · subst h94
          simp only [if_true] at HI2
          by_cases h5 : 5 < c + 1
          · obtain rfl : R = false := by rw [← HI2, if_pos (.inr h5)]
            have e5 : (c : Int) + 1 > 5 := by omega
            clear HI2
            go_wp2
            go_ret
            exact ⟨rfl, rfl⟩
          · have e5 : ¬ ((c : Int) + 1 > 5) := by omega
            have HI3 : Hid (nmG s (s.size - (i + 1)) (i + 1) gr (c + 1) = R) := by rw [if_neg (by omega)] at HI2; exact HI2
            clear HI2
            go_wp2
            go_roundg (s.size - (i + 1))
            case measure => omega
            case rel => exact ⟨i + 1, gr, c + 1, rfl, by simp, by simp, by omega, by omega, by omega, by omega, HI3, rfl⟩
        · have e94 : ((b : Int) == 94) = false := by simp; omega
          have e5 : ¬ ((c : Int) > 5) := by omega
          simp only [if_neg h94] at HI2
          have HI3 : Hid (nmG s (s.size - (i + 1)) (i + 1) gr c = R) := by rw [if_neg (by omega)] at HI2; exact HI2
          clear HI2
          go_wp2
          go_roundg (s.size - (i + 1))
          case measure => omega
          case rel => exact ⟨i + 1, gr, c, rfl, rfl, by simp, by omega, by omega, by omega, by omega, HI3, rfl⟩
    · have iI : ¬ ((i : Int) < (s.size : Int)) := by omega
      obtain rfl : R = true := by
        have h := HI.out
        rw [show s.size - i = 0 by omega, nmG] at h
        exact h.symm
      clear HI
      go_wp2
      go_ret
      exact ⟨rfl, rfl⟩
end Go.Proofs.YtdggplhkeekdjaaGreatDoor.Ck
