import Derived.Test.YtdggplhkeekdjaaGreatDoorLb
/-
  DERIVED. The program's decimal form.
-/
namespace Go.Proofs.YtdggplhkeekdjaaGreatDoor.Ck
open Go Go.Proofs Go.RowKit

/-- Behind the spaces. -/
def trS (s : ByteArray) : ByteArray := ⟨(Lib.trimLeftB s.data.toList 32).toArray⟩
theorem trimL_len (c : UInt8) : ∀ l : List UInt8, (Lib.trimLeftB l c).length ≤ l.length
  | [] => by simp [Lib.trimLeftB]
  | b :: l => by
    have := trimL_len c l
    unfold Lib.trimLeftB at this ⊢
    rw [List.dropWhile_cons]
    split
    · simp at this ⊢; omega
    · exact Nat.le_refl _
theorem trS_size (s : ByteArray) : (trS s).size ≤ s.size := by
  have := trimL_len 32 s.data.toList
  rw [Array.length_toList] at this
  show (Lib.trimLeftB s.data.toList 32).toArray.size ≤ s.data.size
  rw [List.size_toArray]
  exact this
theorem spaces_any (w : World) (s : ByteArray) : Calls Tryz.prog 141 #[.string s] w fun e w' => e = .returned (.string (trS s)) ∧ w = w' := by
  have c : Calls Tryz.prog 155 #[.string s, .string ⟨#[32]⟩] w fun e w' => e = .returned (.string (trS s)) ∧ w' = w := Any.strings_TrimLeft_one tlLays161 s 32 (by decide) w
  generalize trS s = T at *
  go_enter Tryz.func141, Tryz.ntmps141
  go_wp2_with (go_at_call 155; refine Stop.mk ?_)
  refine Stop.out (c.mono ?_)
  rintro e W1 ⟨rfl, rfl⟩
  go_wp2
  go_ret
  exact ⟨rfl, rfl⟩
/-- What the end of a decimal's form says. -/
def dcZ (n : Nat) (V : ByteArray) : Bool := decide (0 < n) && (decide (V.size = 0) || exB V)
def dcY (n : Nat) (U : ByteArray) : Bool := if hp1 U 46 = true then dcZ (n + cnt (U.extract 1 U.size) (U.extract 1 U.size).size 0) (U.extract (1 + cnt (U.extract 1 U.size) (U.extract 1 U.size).size 0) U.size) else dcZ n U
def dcT (T : ByteArray) : Bool := dcY (cnt T T.size 0) (T.extract (cnt T T.size 0) T.size)
/-- The program's decimal form. -/
def dcS (s : ByteArray) : Bool := dcT (psS (trS s))
theorem text_none {k : ByteArray} (h : k.size = 0) : k.toList.isEmpty = true := by
  rw [ByteArray.toList_eq]
  have : k.data.toList = [] := List.eq_nil_of_length_eq_zero (by rw [Array.length_toList]; exact h)
  rw [this]; rfl
set_option maxRecDepth 100000 in
set_option maxHeartbeats 4000000 in
theorem isDecimal_any (w : World) (s : ByteArray) (hs : s.size ≤ 140737488351232) : Calls Tryz.prog 123 #[.string s] w fun e w' => e = .returned (.bool (dcS s)) ∧ w = w' := by
  have c0 := spaces_any w s
  have h0 := trS_size s
  unfold dcS
  generalize trS s = T0 at *
  have c1 := pastSign_any w T0 (by omega)
  have h1 := psS_size T0
  generalize psS T0 = T at *
  have c2 := digits_any w T (by omega)
  have h2 := cnt_size T T.size 0 (Nat.zero_le _)
  rw [Nat.zero_add] at h2
  unfold dcT
  generalize cnt T T.size 0 = k at *
  have i1 : (k : Int) ≤ (T.size : Int) := by omega
  have hU : (T.extract k T.size).size ≤ T.size := by rw [ByteArray.size_extract]; omega
  have eU : T.extract k T.size = T.extract k T.size := rfl
  obtain ⟨U, hUe⟩ : ∃ U, T.extract k T.size = U := ⟨_, rfl⟩
  rw [hUe] at hU ⊢
  have c3 := hp109_any w U (by omega) 46
  unfold dcY
  clear eU
  have hk0 : k ≤ 140737488351232 := by omega
  cases hp : hp1 U 46 with
  | false =>
    rw [hp] at c3
    rw [if_neg (by decide)]
    unfold dcZ
    by_cases hn : 0 < k
    · have iN : (k : Int) + 0 > 0 := by omega
      rw [decide_eq_true hn, Bool.true_and]
      by_cases hv : U.size = 0
      · have e0 := text_none hv
        rw [decide_eq_true hv, Bool.true_or]
        go_enter Tryz.func123, Tryz.ntmps123
        go_wp2_with (go_at_call 141; refine Stop.mk ?_)
        refine Stop.out (c0.mono ?_)
        rintro e W1 ⟨rfl, rfl⟩
        go_wp2_with (go_at_call 140; refine Stop.mk ?_)
        refine Stop.out (c1.mono ?_)
        rintro e W1 ⟨rfl, rfl⟩
        go_wp2_with (go_at_call 138; refine Stop.mk ?_)
        refine Stop.out (c2.mono ?_)
        rintro e W1 ⟨rfl, rfl⟩
        go_wp2_with (go_at_call 142; refine Stop.mk ?_)
        refine Stop.out (c3.mono ?_)
        rintro e W1 ⟨rfl, rfl⟩
        go_wp2
        go_ret
        exact ⟨by simp, rfl⟩
      · have e0 := text_some hv
        rw [decide_eq_false hv, Bool.false_or]
        have c5 := isExponent_any w U (by omega) (by omega)
        generalize exB U = Z at *
        go_enter Tryz.func123, Tryz.ntmps123
        go_wp2_with (go_at_call 141; refine Stop.mk ?_)
        refine Stop.out (c0.mono ?_)
        rintro e W1 ⟨rfl, rfl⟩
        go_wp2_with (go_at_call 140; refine Stop.mk ?_)
        refine Stop.out (c1.mono ?_)
        rintro e W1 ⟨rfl, rfl⟩
        go_wp2_with (go_at_call 138; refine Stop.mk ?_)
        refine Stop.out (c2.mono ?_)
        rintro e W1 ⟨rfl, rfl⟩
        go_wp2_with (go_at_call 142; refine Stop.mk ?_)
        refine Stop.out (c3.mono ?_)
        rintro e W1 ⟨rfl, rfl⟩
        go_wp2_with (go_at_call 143; refine Stop.mk ?_)
        refine Stop.out (c5.mono ?_)
        rintro e W1 ⟨rfl, rfl⟩
        go_wp2
        go_ret
        exact ⟨by simp, rfl⟩
    · have iN : ¬ ((k : Int) + 0 > 0) := by omega
      rw [decide_eq_false hn, Bool.false_and]
      go_enter Tryz.func123, Tryz.ntmps123
      go_wp2_with (go_at_call 141; refine Stop.mk ?_)
      refine Stop.out (c0.mono ?_)
      rintro e W1 ⟨rfl, rfl⟩
      go_wp2_with (go_at_call 140; refine Stop.mk ?_)
      refine Stop.out (c1.mono ?_)
      rintro e W1 ⟨rfl, rfl⟩
      go_wp2_with (go_at_call 138; refine Stop.mk ?_)
      refine Stop.out (c2.mono ?_)
      rintro e W1 ⟨rfl, rfl⟩
      go_wp2_with (go_at_call 142; refine Stop.mk ?_)
      refine Stop.out (c3.mono ?_)
      rintro e W1 ⟨rfl, rfl⟩
      go_wp2
      go_ret
      exact ⟨by simp, rfl⟩
  | true =>
    rw [hp] at c3
    rw [if_pos rfl]
    have hu1 := hp1_some hp
    have i3 : (1 : Int) ≤ (U.size : Int) := by omega
    have hX : (U.extract 1 U.size).size = U.size - 1 := by rw [ByteArray.size_extract]; omega
    obtain ⟨X, hXe⟩ : ∃ X, U.extract 1 U.size = X := ⟨_, rfl⟩
    rw [hXe] at hX ⊢
    have c4 := digits_any w X (by omega)
    have h4 := cnt_size X X.size 0 (Nat.zero_le _)
    rw [Nat.zero_add] at h4
    generalize cnt X X.size 0 = p at *
    have i4 : (1 : Int) + (p : Int) ≤ (U.size : Int) := by omega
    have hV : (U.extract (1 + p) U.size).size ≤ U.size := by rw [ByteArray.size_extract]; omega
    obtain ⟨V, hVe⟩ : ∃ V, U.extract (1 + p) U.size = V := ⟨_, rfl⟩
    rw [hVe] at hV ⊢
    have hVc : U.extract (((1 : Int) + (p : Int)).toNat) U.size = V := by rw [← hVe]; congr 1
    unfold dcZ
    by_cases hn : 0 < k + p
    · have iN : (k : Int) + (p : Int) > 0 := by omega
      rw [decide_eq_true hn, Bool.true_and]
      by_cases hv : V.size = 0
      · have e0 := text_none hv
        rw [decide_eq_true hv, Bool.true_or]
        go_enter Tryz.func123, Tryz.ntmps123
        go_wp2_with (go_at_call 141; refine Stop.mk ?_)
        refine Stop.out (c0.mono ?_)
        rintro e W1 ⟨rfl, rfl⟩
        go_wp2_with (go_at_call 140; refine Stop.mk ?_)
        refine Stop.out (c1.mono ?_)
        rintro e W1 ⟨rfl, rfl⟩
        go_wp2_with (go_at_call 138; refine Stop.mk ?_)
        refine Stop.out (c2.mono ?_)
        rintro e W1 ⟨rfl, rfl⟩
        go_wp2_with (go_at_call 142; refine Stop.mk ?_)
        refine Stop.out (c3.mono ?_)
        rintro e W1 ⟨rfl, rfl⟩
        go_wp2_with (go_at_call 138; refine Stop.mk ?_)
        refine Stop.out (c4.mono ?_)
        rintro e W1 ⟨rfl, rfl⟩
        go_wp2
        go_ret
        exact ⟨by simp, rfl⟩
      · have e0 := text_some hv
        rw [decide_eq_false hv, Bool.false_or]
        have c5 := isExponent_any w V (by omega) (by omega)
        generalize exB V = Z at *
        go_enter Tryz.func123, Tryz.ntmps123
        go_wp2_with (go_at_call 141; refine Stop.mk ?_)
        refine Stop.out (c0.mono ?_)
        rintro e W1 ⟨rfl, rfl⟩
        go_wp2_with (go_at_call 140; refine Stop.mk ?_)
        refine Stop.out (c1.mono ?_)
        rintro e W1 ⟨rfl, rfl⟩
        go_wp2_with (go_at_call 138; refine Stop.mk ?_)
        refine Stop.out (c2.mono ?_)
        rintro e W1 ⟨rfl, rfl⟩
        go_wp2_with (go_at_call 142; refine Stop.mk ?_)
        refine Stop.out (c3.mono ?_)
        rintro e W1 ⟨rfl, rfl⟩
        go_wp2_with (go_at_call 138; refine Stop.mk ?_)
        refine Stop.out (c4.mono ?_)
        rintro e W1 ⟨rfl, rfl⟩
        go_wp2_with (go_at_call 143; refine Stop.mk ?_)
        refine Stop.out (c5.mono ?_)
        rintro e W1 ⟨rfl, rfl⟩
        go_wp2
        go_ret
        exact ⟨by simp, rfl⟩
    · have iN : ¬ ((k : Int) + (p : Int) > 0) := by omega
      rw [decide_eq_false hn, Bool.false_and]
      go_enter Tryz.func123, Tryz.ntmps123
      go_wp2_with (go_at_call 141; refine Stop.mk ?_)
      refine Stop.out (c0.mono ?_)
      rintro e W1 ⟨rfl, rfl⟩
      go_wp2_with (go_at_call 140; refine Stop.mk ?_)
      refine Stop.out (c1.mono ?_)
      rintro e W1 ⟨rfl, rfl⟩
      go_wp2_with (go_at_call 138; refine Stop.mk ?_)
      refine Stop.out (c2.mono ?_)
      rintro e W1 ⟨rfl, rfl⟩
      go_wp2_with (go_at_call 142; refine Stop.mk ?_)
      refine Stop.out (c3.mono ?_)
      rintro e W1 ⟨rfl, rfl⟩
      go_wp2_with (go_at_call 138; refine Stop.mk ?_)
      refine Stop.out (c4.mono ?_)
      rintro e W1 ⟨rfl, rfl⟩
      go_wp2
      go_ret
      exact ⟨by simp, rfl⟩
end Go.Proofs.YtdggplhkeekdjaaGreatDoor.Ck
