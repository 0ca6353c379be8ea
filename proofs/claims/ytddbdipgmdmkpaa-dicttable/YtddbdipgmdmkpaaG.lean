import Derived.Test.YtddbdipgmdmkpaaF
/-
  DERIVED. The document's dictionary, gone through.
-/
namespace Go.Proofs.Ytddbdipgmdmkpaa
open Go Go.Proofs Go.RowKit

/-- The whole text. -/
def attrsB : ByteArray := ⟨((cat lns).map UInt8.ofNat).toArray⟩

theorem cat_lt : ∀ (ls : List (List Nat)), (∀ l ∈ ls, ∀ x ∈ l, x < 128) → ∀ x ∈ cat ls, x < 128
  | [], _, x, hx => by simp [cat] at hx
  | l :: r, h, x, hx => by
    rw [cat, List.mem_append, List.mem_cons] at hx
    rcases hx with hx | rfl | hx
    · exact h l (by simp) x hx
    · decide
    · exact cat_lt r (fun l' hl => h l' (by simp [hl])) x hx

theorem map_back (L : List Nat) (h : ∀ x ∈ L, x < 128) : (L.map UInt8.ofNat).map (fun c => c.toNat) = L := by
  rw [List.map_map]
  conv => rhs; rw [← List.map_id L]
  apply List.map_congr_left
  intro x hx
  have := h x hx
  simp
  omega

theorem lns_at {l : List Nat} (hl : l ∈ lns) : lnOk l = true := List.all_eq_true.1 lns_ok l hl

theorem lns_byte : ∀ l ∈ lns, ∀ x ∈ l, x < 128 ∧ x ≠ 10 := by
  intro l hl x hx
  have := lns_at hl
  unfold lnOk at this
  simp only [Bool.and_eq_true, List.all_eq_true, decide_eq_true_eq] at this
  exact this.1 x hx

theorem bts_attrs : bts attrsB = cat lns := by
  show ((cat lns).map UInt8.ofNat).toArray.toList.map (fun c => c.toNat) = _
  rw [List.toList_toArray]
  exact map_back _ (cat_lt lns (fun l hl x hx => (lns_byte l hl x hx).1))

theorem attrs_size : attrsB.size = 9128 := by
  rw [← bts_length, bts_attrs, cat_length, lns_len, lns_end]

theorem end_line (w : World) (S : ByteArray) (hS : S = attrsB) (k : Nat) (hk : k < 253) : Calls Try.prog 22 #[.string S, .int .i64 (stt lns k : Int)] w fun e w' => e = .returned (.int .i64 ((stt lns k + (lns.getD k []).length : Nat) : Int)) ∧ w = w' := by
  subst hS
  have he := end_cat lns k (by rw [lns_len]; exact hk) (fun l hl x hx => (lns_byte l hl x hx).2)
  have hl : stt lns k + (lns.getD k []).length + 1 ≤ 9128 := by
    rw [← stt_succ lns k (by rw [lns_len]; exact hk)]
    have := stt_le lns (k + 1) (by rw [lns_len]; omega)
    rw [cat_length, lns_len, lns_end] at this
    exact this
  have := end_any w attrsB (stt lns k) (by rw [attrs_size]; omega) (by rw [bts_attrs, he, attrs_size]; omega)
  rw [bts_attrs, he] at this
  exact this

/-- The text between a line's beginning and its end is the line. -/
theorem line_text (k : Nat) (hk : k < 253) : attrsB.extract (stt lns k) (stt lns k + (lns.getD k []).length) = lnB (lns.getD k []) := by
  apply ByteArray.ext
  apply Array.ext'
  have hd := drop_cat lns k (by rw [lns_len]; omega)
  rw [List.drop_eq_getElem_cons (l := lns) (i := k) (by rw [lns_len]; exact hk), cat] at hd
  have e : lns.getD k [] = lns[k]'(by rw [lns_len]; exact hk) := by simp [List.getD_eq_getElem?_getD, List.getElem?_eq_getElem (show k < lns.length by rw [lns_len]; exact hk)]
  rw [ByteArray.data_extract, Array.toList_extract, List.extract_eq_take_drop]
  show ((((cat lns).map UInt8.ofNat).toArray.toList.drop (stt lns k)).take _) = ((lns.getD k []).map UInt8.ofNat).toArray.toList
  rw [List.toList_toArray, List.toList_toArray, ← List.map_drop, hd, ← e, List.map_append, Nat.add_sub_cancel_left, List.take_left' (by simp)]
end Go.Proofs.Ytddbdipgmdmkpaa
