import Derived.Test.YtoikdpjjcnmgeaaGreatDoorTF
section
/-
  DERIVED. The document's dictionary, gone through.
-/
namespace Go.Proofs.YtoikdpjjcnmgeaaGreatDoor.Tb
open Go Go.Proofs Go.RowKit

/-- The whole text. -/
def attrsB : ByteArray := ⟨((cat lns).map UInt8.ofNat).toArray⟩

theorem cat_lt : ∀ (ls : List (List Nat)), (∀ l ∈ ls, ∀ x ∈ l, x < 128) → ∀ x ∈ cat ls, x < 128
  | [], _, x, hx => by simp [cat] at hx
  | l :: r, h, x, hx => by
    rw [cat, List.mem_append, List.mem_cons] at hx
    rcases hx with hx | rfl | hx
    · exact h l (by simp) x hx
    · decide
    · exact cat_lt r (fun l' hl => h l' (by simp [hl])) x hx

theorem map_back (L : List Nat) (h : ∀ x ∈ L, x < 128) : (L.map UInt8.ofNat).map (fun c => c.toNat) = L := by
  rw [List.map_map]
  conv => rhs; rw [← List.map_id L]
  apply List.map_congr_left
  intro x hx
  have := h x hx
  simp
  omega

theorem lns_at {l : List Nat} (hl : l ∈ lns) : lnOk l = true := List.all_eq_true.1 lns_ok l hl

theorem lns_byte : ∀ l ∈ lns, ∀ x ∈ l, x < 128 ∧ x ≠ 10 := by
  intro l hl x hx
  have := lns_at hl
  unfold lnOk at this
  simp only [Bool.and_eq_true, List.all_eq_true, decide_eq_true_eq] at this
  exact this.1 x hx

theorem bts_attrs : bts attrsB = cat lns := by
  show ((cat lns).map UInt8.ofNat).toArray.toList.map (fun c => c.toNat) = _
  rw [List.toList_toArray]
  exact map_back _ (cat_lt lns (fun l hl x hx => (lns_byte l hl x hx).1))

theorem attrs_size : attrsB.size = 9128 := by
  rw [← bts_length, bts_attrs, cat_length, lns_len, lns_end]

theorem end_line (w : World) (S : ByteArray) (hS : S = attrsB) (k : Nat) (hk : k < 253) : Calls Tryz.prog 42 #[.string S, .int .i64 (stt lns k : Int)] w fun e w' => e = .returned (.int .i64 ((stt lns k + (lns.getD k []).length : Nat) : Int)) ∧ w = w' := by
  subst hS
  have he := end_cat lns k (by rw [lns_len]; exact hk) (fun l hl x hx => (lns_byte l hl x hx).2)
  have hl : stt lns k + (lns.getD k []).length + 1 ≤ 9128 := by
    rw [← stt_succ lns k (by rw [lns_len]; exact hk)]
    have := stt_le lns (k + 1) (by rw [lns_len]; omega)
    rw [cat_length, lns_len, lns_end] at this
    exact this
  have := end_any w attrsB (stt lns k) (by rw [attrs_size]; omega) (by rw [bts_attrs, he, attrs_size]; omega)
  rw [bts_attrs, he] at this
  exact this

/-- The text between a line's beginning and its end is the line. -/
theorem line_text (k : Nat) (hk : k < 253) : attrsB.extract (stt lns k) (stt lns k + (lns.getD k []).length) = lnB (lns.getD k []) := by
  apply ByteArray.ext
  apply Array.ext'
  have hd := drop_cat lns k (by rw [lns_len]; omega)
  rw [List.drop_eq_getElem_cons (l := lns) (i := k) (by rw [lns_len]; exact hk), cat] at hd
  have e : lns.getD k [] = lns[k]'(by rw [lns_len]; exact hk) := by simp [List.getD_eq_getElem?_getD, List.getElem?_eq_getElem (show k < lns.length by rw [lns_len]; exact hk)]
  rw [ByteArray.data_extract, Array.toList_extract, List.extract_eq_take_drop]
  show ((((cat lns).map UInt8.ofNat).toArray.toList.drop (stt lns k)).take _) = ((lns.getD k []).map UInt8.ofNat).toArray.toList
  rw [List.toList_toArray, List.toList_toArray, ← List.map_drop, hd, ← e, List.map_append, Nat.add_sub_cancel_left, List.take_left' (by simp)]
end Go.Proofs.YtoikdpjjcnmgeaaGreatDoor.Tb
end

section
/-
  DERIVED. The document's dictionary, as a list.
-/
namespace Go.Proofs.YtoikdpjjcnmgeaaGreatDoor.Tb
open Go Go.Proofs Go.RowKit

theorem info44 : (Tryz.prog.info? 50).map (fun i => (i.zero, i.size, i.bytes)) = some (some (.agg #[.int .u32 0, .int .u32 0, .int .i64 0, .string ⟨#[]⟩, .int .i64 0, .int .i64 0]), 6, 48) := by kernel_rfl

theorem owns_next {w w' : World} {B s n : Nat} {e : TypeId} {v : Value} {xs : List Value} (h : w.ownsRow B e s v n xs) (hb : Below w.heap.size w w') : w'.ownsRow B e s v n xs := by
  refine ⟨h.1, ?_⟩
  rcases h.2 with h2 | ⟨g, cap, cur, rfl, h1, h2, h3⟩
  · exact .inl h2
  · exact .inr ⟨g, cap, cur, rfl, h1, by rw [hb.block g (Array.getElem?_eq_some_iff.1 h2).1]; exact h2, h3⟩

theorem cell_six {w : World} {x0 x1 x2 x3 x4 x5 : Value} {t : TypeId} : ∀ j u, [x0, x1, x2, x3, x4, x5][j]? = some u → (w.alloc (.cells #[x0, x1, x2, x3, x4, x5] t)).cell? ((⟨w.heap.size, 0, none⟩ : Addr).add j) = some u := by
  intro j u hj
  match j, hj with
  | 0, hj => simp at hj; subst hj; simp [Addr.add]
  | 1, hj => simp at hj; subst hj; simp [Addr.add]
  | 2, hj => simp at hj; subst hj; simp [Addr.add]
  | 3, hj => simp at hj; subst hj; simp [Addr.add]
  | 4, hj => simp at hj; subst hj; simp [Addr.add]
  | 5, hj => simp at hj; subst hj; simp [Addr.add]
  | n + 6, hj => simp at hj

/-- A line's entry, cell by cell. -/
def entC (S : ByteArray) : List Value := [.int .u32 (tagL (bts S) 9 : Nat), .int .u32 (maskL (bts S) : Nat), .int .i64 (fndW (wd S 1) 28 1 : Nat), .string (wd S 3), .int .i64 ((numL (wd S 2)).1 : Nat), .int .i64 ((numL (wd S 2)).2 : Nat)]

/-- So many entries, cell by cell. -/
def entsC (k : Nat) : List Value := (lns.take k).flatMap fun l => entC (lnB l)

theorem entsC_succ (k : Nat) (hk : k < 253) : entsC (k + 1) = entsC k ++ entC (lnB (lns.getD k [])) := by
  have e : lns.take (k + 1) = lns.take k ++ [lns.getD k []] := by
    have hl : k < lns.length := by rw [lns_len]; exact hk
    rw [List.take_add_one, List.getD_eq_getElem?_getD, List.getElem?_eq_getElem hl]
    rfl
  unfold entsC
  rw [e, List.flatMap_append]
  simp only [List.flatMap_cons, List.flatMap_nil, List.append_nil]

theorem line_good (k : Nat) (hk : k < 253) : 9 ≤ (lnB (lns.getD k [])).size ∧ (lnB (lns.getD k [])).size ≤ 1000 ∧ tagOk (bts (lnB (lns.getD k []))) = true ∧ numOk (wd (lnB (lns.getD k [])) 2) = true := by
  have hm : lns.getD k [] ∈ lns := by
    rw [List.getD_eq_getElem?_getD, List.getElem?_eq_getElem (show k < lns.length by rw [lns_len]; exact hk)]
    exact List.getElem_mem _
  have := lns_at hm
  unfold lnOk at this
  simp only [Bool.and_eq_true, decide_eq_true_eq] at this
  exact this.2

end Go.Proofs.YtoikdpjjcnmgeaaGreatDoor.Tb
end
