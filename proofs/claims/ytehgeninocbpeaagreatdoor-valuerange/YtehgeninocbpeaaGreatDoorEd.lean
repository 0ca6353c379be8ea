import Derived.Test.YtehgeninocbpeaaGreatDoorEc
/-
  DERIVED. What keys of days ask for, and take (pure).
-/
namespace Go.Proofs.YtehgeninocbpeaaGreatDoor.Tm
open Go Go.Proofs Go.RowKit

theorem ba_ext2 {a b : ByteArray} (h : a.data.toList = b.data.toList) : a = b := by
  apply ByteArray.ext
  exact Array.ext' h
theorem size_l (s : ByteArray) : s.size = s.data.toList.length := by rw [Array.length_toList]; rfl
theorem ow_txt {y m d : Nat} (h : D3 y m d) : oR 5 (txt y m d) 0 = none ∧ ow 5 (txt y m d) 0 = ((num y m d : Int) * 87840000000, (num y m d : Int) * 87840000000 + 87839999999) :=
  ow_of (P := []) h (by simp)
theorem dsh5 (s : ByteArray) : dsh 5 s = Lib.indexByte s.data.toList 45 := if_neg (by decide)

/-- A range that begins with a day. -/
theorem bt_head {s : ByteArray} {R : List UInt8} {y m d : Nat} (h : D3 y m d) (hs : s.data.toList = (txt y m d).data.toList ++ 45 :: R) : dsh 5 s = 8 ∧ btO 5 s 8 = none ∧ btF 5 s 8 = (num y m d : Int) * 87840000000 := by
  have e : s.extract 0 8 = txt y m d := by
    apply ba_ext2
    rw [ByteArray.data_extract, Array.toList_extract, List.extract_eq_take_drop, hs, List.drop_zero]
    have := List.take_left (l₁ := (txt y m d).data.toList) (l₂ := 45 :: R)
    rw [txt_len] at this
    exact this
  obtain ⟨h1, h2⟩ := ow_txt h
  refine ⟨?_, ?_, ?_⟩
  · rw [dsh5, hs, idx_at _ _ _ (no45 y m d), txt_len]; rfl
  · unfold btO; rw [if_neg (by decide), e, h1]
  · unfold btF; rw [if_neg (by decide), e, h2]

theorem ask1 {y m d y' m' d' : Nat} (h : D3 y m d) (h' : D3 y' m' d') : ask 5 (txt y m d ++ ⟨#[45]⟩ ++ txt y' m' d') = if num y' m' d' < num y m d then ((0, 0), some (9, 101)) else (((num y m d : Int) * 87840000000, (num y' m' d' : Int) * 87840000000 + 87839999999), none) := by
  have hs : (txt y m d ++ ⟨#[45]⟩ ++ txt y' m' d').data.toList = (txt y m d).data.toList ++ 45 :: (txt y' m' d').data.toList := by
    rw [ByteArray.data_append, ByteArray.data_append]; simp
  have hs2 : (txt y m d ++ ⟨#[45]⟩ ++ txt y' m' d').data.toList = ((txt y m d).data.toList ++ [45]) ++ (txt y' m' d').data.toList := by rw [hs]; simp
  have hz : (txt y m d ++ ⟨#[45]⟩ ++ txt y' m' d').size = 17 := by rw [size_l, hs, List.length_append, List.length_cons, txt_len, txt_len]
  generalize txt y m d ++ ⟨#[45]⟩ ++ txt y' m' d' = s at *
  obtain ⟨e1, e2, e3⟩ := bt_head h hs
  have e4 := ow_of h' hs2
  rw [List.length_append, txt_len] at e4
  obtain ⟨e4, e5⟩ := e4
  have e4 : oR 5 s (8 + 1) = none := e4
  have e5 : ow 5 s (8 + 1) = ((num y' m' d' : Int) * 87840000000, (num y' m' d' : Int) * 87840000000 + 87839999999) := e5
  unfold ask
  rw [e1, if_neg (by decide), if_neg (by omega)]
  show bt 5 s 8 = _
  unfold bt
  rw [e2, e3, e4, e5, if_neg (by simp), if_neg (by omega), if_neg (by simp)]
  by_cases hc : num y' m' d' < num y m d
  · rw [if_pos hc, if_pos (by simp only; omega)]; rfl
  · rw [if_neg hc, if_neg (by simp only; omega)]
theorem ask2 {y m d : Nat} (h : D3 y m d) : ask 5 (txt y m d ++ ⟨#[45]⟩) = (((num y m d : Int) * 87840000000, 4611686018427387904), none) := by
  have hs : (txt y m d ++ ⟨#[45]⟩).data.toList = (txt y m d).data.toList ++ 45 :: [] := by
    rw [ByteArray.data_append]; simp
  have hz : (txt y m d ++ ⟨#[45]⟩).size = 9 := by rw [size_l, hs, List.length_append, txt_len]; rfl
  generalize txt y m d ++ ⟨#[45]⟩ = s at *
  obtain ⟨e1, e2, e3⟩ := bt_head h hs
  unfold ask
  rw [e1, if_neg (by decide), if_neg (by omega)]
  show bt 5 s 8 = _
  unfold bt
  rw [e2, e3, if_neg (by simp), if_pos (by omega)]
theorem ask3 {y m d : Nat} (h : D3 y m d) : ask 5 (⟨#[45]⟩ ++ txt y m d) = ((-4611686018427387904, (num y m d : Int) * 87840000000 + 87839999999), none) := by
  have hs : (⟨#[45]⟩ ++ txt y m d).data.toList = [45] ++ (txt y m d).data.toList := by
    rw [ByteArray.data_append]; simp
  have hz : (⟨#[45]⟩ ++ txt y m d).size = 9 := by rw [size_l, hs, List.length_append, txt_len]; rfl
  generalize ⟨#[45]⟩ ++ txt y m d = s at *
  have e1 : dsh 5 s = 0 := by rw [dsh5, hs]; rfl
  have e2 : btO 5 s 0 = none := if_pos rfl
  have e3 : btF 5 s 0 = -4611686018427387904 := if_pos rfl
  obtain ⟨e4, e5⟩ := ow_of h hs
  have e4 : oR 5 s (0 + 1) = none := e4
  have e5 : ow 5 s (0 + 1) = ((num y m d : Int) * 87840000000, (num y m d : Int) * 87840000000 + 87839999999) := e5
  unfold ask
  rw [e1, if_neg (by decide), if_neg (by omega)]
  show bt 5 s 0 = _
  unfold bt
  rw [e2, e3, e4, e5, if_neg (by simp), if_neg (by omega), if_neg (by simp), if_neg (by simp only; omega)]
theorem ask4 {y m d : Nat} (h : D3 y m d) : ask 5 (txt y m d) = (((num y m d : Int) * 87840000000, (num y m d : Int) * 87840000000 + 87839999999), none) := by
  obtain ⟨e1, e2⟩ := ow_txt h
  unfold ask
  rw [dsh5, idx_no _ _ (no45 y m d), if_pos (by decide), e1, e2]

theorem mt_of {k : ByteArray} {F L : Int} {y m d : Nat} (h : D3 y m d) (ha : ask 5 k = ((F, L), none)) : mtS 5 k (txt y m d) = (decide (F ≤ (num y m d : Int) * 87840000000) && decide ((num y m d : Int) * 87840000000 ≤ L)) := by
  obtain ⟨e1, e2⟩ := ow_txt h
  unfold mtS
  rw [ha, if_pos rfl, sp_txt]
  show (spM 5 F L (txt y m d) || false) = _
  unfold spM
  rw [e1, e2, Bool.or_false]
  simp
theorem num_max {y m d : Nat} (h : D3 y m d) : num y m d ≤ 3700000 := by
  have := dA_le (y := y) (by have := h.y9; omega)
  have := cu_le y (m - 1)
  have := h.m2
  have := h.d2
  unfold num
  omega
/-- What the law's four questions are answered. -/
theorem mt1 {y m d y' m' d' a b c : Nat} (h : D3 y m d) (h' : D3 y' m' d') (hv : D3 a b c) (hn : num y m d ≤ num y' m' d') : (ask 5 (txt y m d ++ ⟨#[45]⟩ ++ txt y' m' d')).2 = none ∧ mtS 5 (txt y m d ++ ⟨#[45]⟩ ++ txt y' m' d') (txt a b c) = (decide (num y m d ≤ num a b c) && decide (num a b c ≤ num y' m' d')) := by
  have e := ask1 h h'
  rw [if_neg (by omega)] at e
  refine ⟨by rw [e], ?_⟩
  rw [mt_of hv e]
  congr 1
  · rw [decide_eq_decide]; omega
  · rw [decide_eq_decide]; omega
theorem mt2 {y m d a b c : Nat} (h : D3 y m d) (hv : D3 a b c) : (ask 5 (txt y m d ++ ⟨#[45]⟩)).2 = none ∧ mtS 5 (txt y m d ++ ⟨#[45]⟩) (txt a b c) = decide (num y m d ≤ num a b c) := by
  have e := ask2 h
  have := num_max hv
  refine ⟨by rw [e], ?_⟩
  rw [mt_of hv e, decide_eq_true (p := (num a b c : Int) * 87840000000 ≤ 4611686018427387904) (by omega), Bool.and_true, decide_eq_decide]
  omega
theorem mt3 {y m d a b c : Nat} (h : D3 y m d) (hv : D3 a b c) : (ask 5 (⟨#[45]⟩ ++ txt y m d)).2 = none ∧ mtS 5 (⟨#[45]⟩ ++ txt y m d) (txt a b c) = decide (num a b c ≤ num y m d) := by
  have e := ask3 h
  refine ⟨by rw [e], ?_⟩
  rw [mt_of hv e, decide_eq_true (p := (-4611686018427387904 : Int) ≤ (num a b c : Int) * 87840000000) (by omega), Bool.true_and, decide_eq_decide]
  omega
theorem mt4 {a b c : Nat} (hv : D3 a b c) : (ask 5 (txt a b c)).2 = none ∧ mtS 5 (txt a b c) (txt a b c) = true := by
  have e := ask4 hv
  refine ⟨by rw [e], ?_⟩
  rw [mt_of hv e, decide_eq_true (by omega), decide_eq_true (by omega)]
  rfl
theorem mt0 {y m d y' m' d' : Nat} (h : D3 y m d) (h' : D3 y' m' d') (hn : num y' m' d' < num y m d) : (ask 5 (txt y m d ++ ⟨#[45]⟩ ++ txt y' m' d')).2 = some (9, 101) := by
  rw [ask1 h h', if_pos hn]
end Go.Proofs.YtehgeninocbpeaaGreatDoor.Tm
