import Derived.Test.YtdggplhkeekdjaaGreatDoorKc
/-
  DERIVED. The document's decimal form.
-/
namespace Go.Proofs.YtdggplhkeekdjaaGreatDoor.Ck
open Go Go.Proofs Go.RowKit

theorem sgP_le (s : ByteArray) (i : Nat) (h : i ≤ s.size) : sgP s i ≤ s.size ∧ i ≤ sgP s i ∧ sgP s i ≤ i + 1 := by
  unfold sgP isS
  split
  · rename_i hh
    simp at hh
    omega
  · omega
theorem blk_le (s : ByteArray) : ∀ f i, i ≤ s.size → blk s f i ≤ s.size ∧ i ≤ blk s f i
  | 0, i, h => ⟨h, Nat.le_refl _⟩
  | f + 1, i, h => by
    rw [blk]
    split
    · rename_i hh
      have := blk_le s f (i + 1) (by omega)
      omega
    · exact ⟨h, Nat.le_refl _⟩
def isPt (s : ByteArray) (a : Nat) : Bool := decide (a < s.size) && decide ((s.get! a).toNat = 46)
def isEx (s : ByteArray) (a : Nat) : Bool := decide (a < s.size) && (decide ((s.get! a).toNat = 69) || decide ((s.get! a).toNat = 101))
/-- The digits, behind them perhaps an exponent. -/
def dcE (s : ByteArray) (a : Nat) : Bool := if isEx s a = true then (if cnt s s.size (sgP s (a + 1)) = 0 then false else decide (sgP s (a + 1) + cnt s s.size (sgP s (a + 1)) = s.size)) else decide (a = s.size)
def dcX (s : ByteArray) (n a : Nat) : Bool := if n = 0 then false else dcE s a
def dcP (s : ByteArray) (n a : Nat) : Bool := if isPt s a = true then dcX s (n + cnt s s.size (a + 1)) (a + 1 + cnt s s.size (a + 1)) else dcX s n a
def dcI (s : ByteArray) (i : Nat) : Bool := dcP s (cnt s s.size i) (i + cnt s s.size i)
/-- A decimal number's form. -/
def dcF (s : ByteArray) : Bool := dcI s (sgP s (blk s s.size 0))

set_option maxRecDepth 100000 in
set_option maxHeartbeats 4000000 in
theorem decimalForm_any (w : World) (s : ByteArray) (hs : s.size ≤ 140737488351232) : Calls Tryz.prog 58 #[.string s] w fun e w' => e = .returned (.bool (dcF s)) ∧ w = w' := by
  have cB := blanks_any w s hs
  have hB := blk_le s s.size 0 (Nat.zero_le _)
  have HS : Hid (∀ a, a ≤ s.size → Calls Tryz.prog 89 #[.string s, .int .i64 (a : Int)] w fun e w' => e = .returned (.int .i64 ((sgP s a : Nat) : Int)) ∧ w = w') := fun a h => sign_any w s a hs h
  have HU : Hid (∀ a, a ≤ s.size → Calls Tryz.prog 57 #[.string s, .int .i64 (a : Int), .int .i64 (s.size : Int)] w fun e w' => e = .returned (.int .i64 ((a + cnt s s.size a : Nat) : Int)) ∧ w = w') := fun a h => upTo_any w s a s.size hs h hs
  obtain ⟨R, hR⟩ : ∃ R, dcF s = R := ⟨_, rfl⟩
  have HR : Hid (dcF s = R) := hR
  rw [hR]
  unfold dcF at HR
  clear hR
  generalize blk s s.size 0 = b0 at *
  have cS := HS.out b0 hB.1
  have hS := sgP_le s b0 hB.1
  generalize sgP s b0 = i0 at *
  have cU := HU.out i0 hS.1
  have hU := cnt_size s s.size i0 hS.1
  unfold dcI at HR
  generalize cnt s s.size i0 = n0 at *
  go_enter Tryz.func58, Tryz.ntmps58
  go_wp2_with (go_at_call 90; refine Stop.mk ?_)
  refine Stop.out (cB.mono ?_)
  rintro e W1 ⟨rfl, rfl⟩
  go_wp2_with (go_at_call 89; refine Stop.mk ?_)
  refine Stop.out (cS.mono ?_)
  rintro e W1 ⟨rfl, rfl⟩
  go_wp2_with (go_at_call 57; refine Stop.mk ?_)
  refine Stop.out (cU.mono ?_)
  rintro e W1 ⟨rfl, rfl⟩
  clear cB cS cU
  obtain ⟨a0, ha0⟩ : ∃ a0, i0 + n0 = a0 := ⟨_, rfl⟩
  rw [ha0] at hU HR ⊢
  have hsub : (a0 : Int) - (i0 : Int) = (n0 : Int) := by omega
  go_upto_region 4 with fail
  obtain ⟨bp, hbp⟩ : ∃ bp, isPt s a0 = bp := ⟨_, rfl⟩
  go_cut [28] from 6 (fun s28 wx => s28 = .bool bp ∧ wx = w)
  case first =>
    unfold isPt at hbp
    by_cases hlt : a0 < s.size
    · have aI : (a0 : Int) < (s.size : Int) := by omega
      obtain ⟨b, hb⟩ : ∃ b, s[a0].toNat = b := ⟨_, rfl⟩
      have hgb : (s.get! a0).toNat = b := by rw [← get_get! s a0 hlt, hb]
      by_cases h46 : b = 46
      · obtain rfl : true = bp := by rw [← hbp, decide_eq_true hlt, hgb, decide_eq_true h46]; rfl
        subst h46
        clear hgb
        go_wp2
        go_meet
        case rel => exact ⟨rfl, rfl⟩
      · obtain rfl : false = bp := by rw [← hbp, hgb, decide_eq_false h46, Bool.and_false]
        have e1 : ((b : Int) == 46) = false := by simp; omega
        clear hgb
        go_wp2
        go_meet
        case rel => exact ⟨rfl, rfl⟩
    · have aI : ¬ ((a0 : Int) < (s.size : Int)) := by omega
      obtain rfl : false = bp := by rw [← hbp, decide_eq_false hlt, Bool.false_and]
      go_wp2
      go_meet
      case rel => exact ⟨rfl, rfl⟩
  case rest =>
  obtain ⟨rfl, hw⟩ := hcut
  subst hw
  go_upto_if 28 with fail
  go_cut [4, 5] from 6 (fun s4 s5 wx => ∃ a n : Nat, s4 = .int .i64 (a : Int) ∧ s5 = .int .i64 (n : Int) ∧ a ≤ s.size ∧ n ≤ s.size + s.size ∧ Hid (dcX s n a = R) ∧ wx = wc)
  case first =>
    unfold dcP at HR
    cases bp with
    | true =>
      have hlt : a0 < s.size := by unfold isPt at hbp; simp at hbp; exact hbp.1
      rw [if_pos hbp] at HR
      have cU := HU.out (a0 + 1) (by omega)
      have hU2 := cnt_size s s.size (a0 + 1) (by omega)
      generalize cnt s s.size (a0 + 1) = n1 at *
      go_wp2_with (go_at_call 57; refine Stop.mk ?_)
      refine Stop.out (cU.mono ?_)
      rintro e W1 ⟨rfl, rfl⟩
      clear cU
      have hs2 : ((a0 + 1 + n1 : Nat) : Int) - (a0 : Int) = (n1 : Int) + 1 := by omega
      go_wp2
      go_meet
      case rel => exact ⟨a0 + 1 + n1, n0 + n1, rfl, by congr 1; omega, by omega, by omega, HR, rfl⟩
    | false =>
      rw [if_neg (by rw [hbp]; simp)] at HR
      go_wp2
      go_meet
      case rel => exact ⟨a0, n0, rfl, by congr 1, by omega, by omega, HR, rfl⟩
  case rest =>
  obtain ⟨a, n, rfl, rfl, ha, hn, HX, hw⟩ := hcut
  subst hw
  clear HR hsub hU ha0 hS hB hbp
  unfold dcX at HX
  by_cases hn0 : n = 0
  · obtain rfl : R = false := by rw [← HX.out, if_pos hn0]
    subst hn0
    clear HX
    go_wp2
    go_ret
    exact ⟨rfl, rfl⟩
  rw [if_neg hn0] at HX
  have en : ((n : Int) == 0) = false := by simp; omega
  unfold dcE at HX
  by_cases hlt : a < s.size
  · have aI : (a : Int) < (s.size : Int) := by omega
    obtain ⟨b, hb⟩ : ∃ b, s[a].toNat = b := ⟨_, rfl⟩
    have hgb : (s.get! a).toNat = b := by rw [← get_get! s a hlt, hb]
    by_cases hx : b = 69 ∨ b = 101
    · have hex : isEx s a = true := by unfold isEx; rw [decide_eq_true hlt, hgb]; rcases hx with h | h <;> subst h <;> rfl
      rw [if_pos hex] at HX
      have cS := HS.out (a + 1) (by omega)
      have hS := sgP_le s (a + 1) (by omega)
      generalize sgP s (a + 1) = i1 at *
      have cU := HU.out i1 hS.1
      have hU := cnt_size s s.size i1 hS.1
      generalize cnt s s.size i1 = n1 at *
      clear hex hgb
      have ex : ((b : Int) == 69) = true ∨ (((b : Int) == 69) = false ∧ ((b : Int) == 101) = true) := by
        rcases hx with h | h
        · exact .inl (by simp; omega)
        · exact .inr ⟨by simp; omega, by simp; omega⟩
      clear hx
      rcases ex with e69 | ⟨e69, e101⟩
      · go_wp2_with (go_at_call 89; refine Stop.mk ?_)
        refine Stop.out (cS.mono ?_)
        rintro e W1 ⟨rfl, rfl⟩
        clear cS
        go_wp2_with (go_at_call 57; refine Stop.mk ?_)
        refine Stop.out (cU.mono ?_)
        rintro e W1 ⟨rfl, rfl⟩
        clear cU
        by_cases hn1 : n1 = 0
        · obtain rfl : R = false := by rw [← HX.out, if_pos hn1]
          subst hn1
          have e1 : (((i1 + 0 : Nat) : Int) == (i1 : Int)) = true := by simp
          go_wp2
          go_ret
          exact ⟨rfl, rfl⟩
        · have e1 : (((i1 + n1 : Nat) : Int) == (i1 : Int)) = false := by simp; omega
          obtain rfl : R = (((i1 + n1 : Nat) : Int) == (s.size : Int)) := by rw [← HX.out, if_neg hn1, Bool.eq_iff_iff, decide_eq_true_eq, beq_iff_eq]; omega
          go_wp2
          go_ret
          exact ⟨rfl, rfl⟩
      · go_wp2_with (go_at_call 89; refine Stop.mk ?_)
        refine Stop.out (cS.mono ?_)
        rintro e W1 ⟨rfl, rfl⟩
        clear cS
        go_wp2_with (go_at_call 57; refine Stop.mk ?_)
        refine Stop.out (cU.mono ?_)
        rintro e W1 ⟨rfl, rfl⟩
        clear cU
        by_cases hn1 : n1 = 0
        · obtain rfl : R = false := by rw [← HX.out, if_pos hn1]
          subst hn1
          have e1 : (((i1 + 0 : Nat) : Int) == (i1 : Int)) = true := by simp
          go_wp2
          go_ret
          exact ⟨rfl, rfl⟩
        · have e1 : (((i1 + n1 : Nat) : Int) == (i1 : Int)) = false := by simp; omega
          obtain rfl : R = (((i1 + n1 : Nat) : Int) == (s.size : Int)) := by rw [← HX.out, if_neg hn1, Bool.eq_iff_iff, decide_eq_true_eq, beq_iff_eq]; omega
          go_wp2
          go_ret
          exact ⟨rfl, rfl⟩
    · have hex : ¬ isEx s a = true := by unfold isEx; rw [hgb]; simp; omega
      rw [if_neg hex] at HX
      have e69 : ((b : Int) == 69) = false := by simp; omega
      have e101 : ((b : Int) == 101) = false := by simp; omega
      have ej : ((a : Int) == (s.size : Int)) = false := by simp; omega
      obtain rfl : R = false := by rw [← HX.out]; exact decide_eq_false (by omega)
      clear HX hgb hex hx
      go_wp2
      go_ret
      exact ⟨rfl, rfl⟩
  · have aI : ¬ ((a : Int) < (s.size : Int)) := by omega
    have hex : ¬ isEx s a = true := by unfold isEx; rw [decide_eq_false hlt]; simp
    rw [if_neg hex] at HX
    have ej : ((a : Int) == (s.size : Int)) = true := by simp; omega
    obtain rfl : R = true := by rw [← HX.out]; exact decide_eq_true (by omega)
    clear HX hex
    go_wp2
    go_ret
    exact ⟨rfl, rfl⟩
end Go.Proofs.YtdggplhkeekdjaaGreatDoor.Ck
