import Derived.Test.YteglammdigmmfaaGreatDoorTF
import Derived.Test.YteglammdigmmfaaGreatDoorTS
import Derived.Test.YteglammdigmmfaaGreatDoorFc
/-
  DERIVED. The document's dictionary, gone through.
-/
namespace Go.Proofs.YteglammdigmmfaaGreatDoor.Tb
open Go Go.Proofs Go.RowKit

/-- The whole text. -/
def attrsB : ByteArray := ⟨((cat lns).map UInt8.ofNat).toArray⟩

theorem cat_lt : ∀ (ls : List (List Nat)), (∀ l ∈ ls, ∀ x ∈ l, x < 128) → ∀ x ∈ cat ls, x < 128
  | [], _, x, hx => by simp [cat] at hx
  | l :: r, h, x, hx => by
    rw [cat, List.mem_append, List.mem_cons] at hx
    rcases hx with hx | rfl | hx
    · exact h l (by simp) x hx
    · decide
    · exact cat_lt r (fun l' hl => h l' (by simp [hl])) x hx

theorem map_back (L : List Nat) (h : ∀ x ∈ L, x < 128) : (L.map UInt8.ofNat).map (fun c => c.toNat) = L := by
  rw [List.map_map]
  conv => rhs; rw [← List.map_id L]
  apply List.map_congr_left
  intro x hx
  have := h x hx
  simp
  omega

theorem lns_at {l : List Nat} (hl : l ∈ lns) : lnOk l = true := List.all_eq_true.1 lns_ok l hl

theorem lns_byte : ∀ l ∈ lns, ∀ x ∈ l, x < 128 ∧ x ≠ 10 := by
  intro l hl x hx
  have := lns_at hl
  unfold lnOk at this
  simp only [Bool.and_eq_true, List.all_eq_true, decide_eq_true_eq] at this
  exact this.1 x hx

theorem bts_attrs : bts attrsB = cat lns := by
  show ((cat lns).map UInt8.ofNat).toArray.toList.map (fun c => c.toNat) = _
  rw [List.toList_toArray]
  exact map_back _ (cat_lt lns (fun l hl x hx => (lns_byte l hl x hx).1))

theorem attrs_size : attrsB.size = 9128 := by
  rw [← bts_length, bts_attrs, cat_length, lns_len, lns_end]

theorem end_line (w : World) (S : ByteArray) (hS : S = attrsB) (k : Nat) (hk : k < 253) : Calls Tryz.prog 53 #[.string S, .int .i64 (stt lns k : Int)] w fun e w' => e = .returned (.int .i64 ((stt lns k + (lns.getD k []).length : Nat) : Int)) ∧ w = w' := by
  subst hS
  have he := end_cat lns k (by rw [lns_len]; exact hk) (fun l hl x hx => (lns_byte l hl x hx).2)
  have hl : stt lns k + (lns.getD k []).length + 1 ≤ 9128 := by
    rw [← stt_succ lns k (by rw [lns_len]; exact hk)]
    have := stt_le lns (k + 1) (by rw [lns_len]; omega)
    rw [cat_length, lns_len, lns_end] at this
    exact this
  have := end_any w attrsB (stt lns k) (by rw [attrs_size]; omega) (by rw [bts_attrs, he, attrs_size]; omega)
  rw [bts_attrs, he] at this
  exact this

/-- The text between a line's beginning and its end is the line. -/
theorem line_text (k : Nat) (hk : k < 253) : attrsB.extract (stt lns k) (stt lns k + (lns.getD k []).length) = lnB (lns.getD k []) := by
  apply ByteArray.ext
  apply Array.ext'
  have hd := drop_cat lns k (by rw [lns_len]; omega)
  rw [List.drop_eq_getElem_cons (l := lns) (i := k) (by rw [lns_len]; exact hk), cat] at hd
  have e : lns.getD k [] = lns[k]'(by rw [lns_len]; exact hk) := by simp [List.getD_eq_getElem?_getD, List.getElem?_eq_getElem (show k < lns.length by rw [lns_len]; exact hk)]
  rw [ByteArray.data_extract, Array.toList_extract, List.extract_eq_take_drop]
  show ((((cat lns).map UInt8.ofNat).toArray.toList.drop (stt lns k)).take _) = ((lns.getD k []).map UInt8.ofNat).toArray.toList
  rw [List.toList_toArray, List.toList_toArray, ← List.map_drop, hd, ← e, List.map_append, Nat.add_sub_cancel_left, List.take_left' (by simp)]
end Go.Proofs.YteglammdigmmfaaGreatDoor.Tb

/-
  DERIVED. The document's dictionary, as a list.
-/
namespace Go.Proofs.YteglammdigmmfaaGreatDoor.Tb
open Go Go.Proofs Go.RowKit

theorem info44 : (Tryz.prog.info? 62).map (fun i => (i.zero, i.size, i.bytes)) = some (some (.agg #[.int .u32 0, .int .u32 0, .int .i64 0, .string ⟨#[]⟩, .int .i64 0, .int .i64 0]), 6, 48) := by kernel_rfl

theorem owns_next {w w' : World} {B s n : Nat} {e : TypeId} {v : Value} {xs : List Value} (h : w.ownsRow B e s v n xs) (hb : Below w.heap.size w w') : w'.ownsRow B e s v n xs := by
  refine ⟨h.1, ?_⟩
  rcases h.2 with h2 | ⟨g, cap, cur, rfl, h1, h2, h3⟩
  · exact .inl h2
  · exact .inr ⟨g, cap, cur, rfl, h1, by rw [hb.block g (Array.getElem?_eq_some_iff.1 h2).1]; exact h2, h3⟩

theorem cell_six {w : World} {x0 x1 x2 x3 x4 x5 : Value} {t : TypeId} : ∀ j u, [x0, x1, x2, x3, x4, x5][j]? = some u → (w.alloc (.cells #[x0, x1, x2, x3, x4, x5] t)).cell? ((⟨w.heap.size, 0, none⟩ : Addr).add j) = some u := by
  intro j u hj
  match j, hj with
  | 0, hj => simp at hj; subst hj; simp [Addr.add]
  | 1, hj => simp at hj; subst hj; simp [Addr.add]
  | 2, hj => simp at hj; subst hj; simp [Addr.add]
  | 3, hj => simp at hj; subst hj; simp [Addr.add]
  | 4, hj => simp at hj; subst hj; simp [Addr.add]
  | 5, hj => simp at hj; subst hj; simp [Addr.add]
  | n + 6, hj => simp at hj

/-- A line's entry, cell by cell. -/
def entC (S : ByteArray) : List Value := [.int .u32 (tagL (bts S) 9 : Nat), .int .u32 (maskL (bts S) : Nat), .int .i64 (fndW (wd S 1) 28 1 : Nat), .string (wd S 3), .int .i64 ((numL (wd S 2)).1 : Nat), .int .i64 ((numL (wd S 2)).2 : Nat)]

/-- So many entries, cell by cell. -/
def entsC (k : Nat) : List Value := (lns.take k).flatMap fun l => entC (lnB l)

theorem entsC_succ (k : Nat) (hk : k < 253) : entsC (k + 1) = entsC k ++ entC (lnB (lns.getD k [])) := by
  have e : lns.take (k + 1) = lns.take k ++ [lns.getD k []] := by
    have hl : k < lns.length := by rw [lns_len]; exact hk
    rw [List.take_add_one, List.getD_eq_getElem?_getD, List.getElem?_eq_getElem hl]
    rfl
  unfold entsC
  rw [e, List.flatMap_append]
  simp only [List.flatMap_cons, List.flatMap_nil, List.append_nil]

theorem line_good (k : Nat) (hk : k < 253) : 9 ≤ (lnB (lns.getD k [])).size ∧ (lnB (lns.getD k [])).size ≤ 1000 ∧ tagOk (bts (lnB (lns.getD k []))) = true ∧ numOk (wd (lnB (lns.getD k [])) 2) = true := by
  have hm : lns.getD k [] ∈ lns := by
    rw [List.getD_eq_getElem?_getD, List.getElem?_eq_getElem (show k < lns.length by rw [lns_len]; exact hk)]
    exact List.getElem_mem _
  have := lns_at hm
  unfold lnOk at this
  simp only [Bool.and_eq_true, decide_eq_true_eq] at this
  exact this.2

end Go.Proofs.YteglammdigmmfaaGreatDoor.Tb

/-
  DERIVED. Both tables are the same.
-/
namespace Go.Proofs.YteglammdigmmfaaGreatDoor.Tb
open Go Go.Proofs Go.RowKit

def Row.ec (r : Row) : List Value := [.int .u32 (r.t : Int), .int .u32 (maskN r.t : Nat), .int .i64 r.v, .string r.s, .int .i64 r.l, .int .i64 r.m]

/-- A line of the document's beside a row of the program's. -/
def fits (l : List Nat) (r : Row) : Bool :=
  let S := lnB l
  tagL (bts S) 9 == r.t && maskL (bts S) == maskN r.t && ((fndW (wd S 1) 28 1 : Nat) : Int) == r.v && (wd S 3).data.toList == r.s.data.toList && ((numL (wd S 2)).1 : Int) == r.l && ((numL (wd S 2)).2 : Int) == r.m
def fitsAll : List (List Nat) → List Row → Bool
  | [], [] => true
  | l :: ls, r :: rs => fits l r && fitsAll ls rs
  | _, _ => false
theorem fits_all : fitsAll lns (upTo 10) = true := by decide +kernel

theorem fits_ec {l : List Nat} {r : Row} (h : fits l r = true) : entC (lnB l) = r.ec := by
  unfold fits at h
  simp only [Bool.and_eq_true, beq_iff_eq] at h
  obtain ⟨⟨⟨⟨⟨h1, h2⟩, h3⟩, h4⟩, h5⟩, h6⟩ := h
  have h4' : wd (lnB l) 3 = r.s := by
    have : (wd (lnB l) 3).data = r.s.data := Array.toList_inj.1 h4
    cases hw : wd (lnB l) 3
    cases hs : r.s
    rw [hw, hs] at this
    congr
  unfold entC Row.ec
  rw [h1, h2, h3, h4', h5, h6]
theorem both_from : ∀ (ls : List (List Nat)) (rs : List Row), fitsAll ls rs = true → (ls.flatMap fun l => entC (lnB l)) = rs.flatMap Row.ec
  | [], [], _ => rfl
  | l :: ls, r :: rs, h => by
    rw [fitsAll, Bool.and_eq_true] at h
    rw [List.flatMap_cons, List.flatMap_cons, fits_ec h.1, both_from ls rs h.2]
  | [], _ :: _, h => by cases h
  | _ :: _, [], h => by cases h
theorem both_tables : entsC 253 = (upTo 10).flatMap Row.ec := by
  unfold entsC
  rw [List.take_of_length_le (by rw [lns_len]; exact Nat.le_refl _)]
  exact both_from _ _ fits_all
theorem up_len : (upTo 10).length = 253 := by decide +kernel

theorem ec_get : ∀ (L : List Row) (k : Nat) (r : Row), L[k]? = some r → ∀ j, j < 6 → (L.flatMap Row.ec)[6 * k + j]? = r.ec[j]?
  | [], k, r, h => by simp at h
  | x :: L, 0, r, h => by
    obtain rfl : x = r := by simpa using h
    intro j hj
    rw [List.flatMap_cons, List.getElem?_append_left (by simp [Row.ec]; omega)]
    simp
  | x :: L, k + 1, r, h => by
    intro j hj
    rw [List.flatMap_cons, List.getElem?_append_right (by simp [Row.ec]; omega)]
    have := ec_get L k r (by simpa using h) j hj
    rw [← this]
    congr 1
    simp [Row.ec]
    omega

end Go.Proofs.YteglammdigmmfaaGreatDoor.Tb

/-
  DERIVED. The document's dictionary, asked for a tag.
-/
namespace Go.Proofs.YteglammdigmmfaaGreatDoor.Tb
open Go Go.Proofs Go.RowKit

structure StopF (p : Prop) : Prop where
  out : p
theorem fits_at : ∀ (ls : List (List Nat)) (rs : List Row) (k : Nat), fitsAll ls rs = true → k < ls.length → ∃ r, rs[k]? = some r ∧ fits (ls.getD k []) r = true
  | [], _, k, _, h => by simp at h
  | l :: ls, [], _, h, _ => by cases h
  | l :: ls, r :: rs, 0, h, _ => by
    rw [fitsAll, Bool.and_eq_true] at h
    exact ⟨r, rfl, h.1⟩
  | l :: ls, r :: rs, k + 1, h, hk => by
    rw [fitsAll, Bool.and_eq_true] at h
    obtain ⟨x, h1, h2⟩ := fits_at ls rs k h.2 (by simpa using hk)
    exact ⟨x, by simpa using h1, by simpa using h2⟩
theorem row_drop {k : Nat} {r : Row} (h : (upTo 10)[k]? = some r) : (upTo 10).drop k = r :: (upTo 10).drop (k + 1) := by
  obtain ⟨hk, hr⟩ := List.getElem?_eq_some_iff.1 h
  rw [List.drop_eq_getElem_cons hk, hr]
set_option maxRecDepth 100000 in
theorem at43 {K : Act → World → Prop} {Q : Exit → Act → World → Prop} {w : World} {u0 u1 u2 u3 u4 u5 u6 u7 u8 u9 u10 u12 u13 u14 u15 u16 u17 u18 u19 u20 u21 u22 u23 u24 u25 u26 u27 u28 u29 u30 u31 u32 u33 u34 : Value} (S : ByteArray) (n : Int) (ty : TypeId) (pos : String) (af : Array Edge) (ats : Array TypeId)
    (h : Calls Tryz.prog 53 #[.string S, .int .i64 n] w fun e w' => ∃ v, e = .returned v ∧ K { tmps := #[u0, u1, u2, u3, u4, u5, u6, u7, u8, u9, u10, .int .i64 n, v, u13, u14, u15, u16, u17, u18, u19, u20, u21, u22, u23, u24, u25, u26, u27, u28, u29, u30, u31, u32, u33, u34], defers := [] } w') :
    Oper.wp Tryz.prog { dst := some 12, op := Op.call { callee := Callee.value (Operand.func 53), args := #[Operand.const (Value.string S), Operand.tmp 11], argTypes := ats }, type := ty, pos := pos, after := af, guard := none } { tmps := #[u0, u1, u2, u3, u4, u5, u6, u7, u8, u9, u10, .int .i64 n, u12, u13, u14, u15, u16, u17, u18, u19, u20, u21, u22, u23, u24, u25, u26, u27, u28, u29, u30, u31, u32, u33, u34], defers := [] } w K Q := by
  go_wp2_with (go_at_call 53; refine h.mono ?_; rintro e w' ⟨v, rfl, hk⟩)
  exact hk
set_option maxRecDepth 100000 in
theorem at15 {K : Act → World → Prop} {Q : Exit → Act → World → Prop} {w : World} {u0 u1 u2 u3 u4 u5 u6 u7 u8 u9 u10 u11 u12 u15 u16 u17 u18 u19 u20 u21 u22 u23 u24 u25 u26 u27 u28 u29 u30 u31 u32 u33 u34 : Value} (S : ByteArray) (a b : Nat) (hab : a ≤ b) (hb : b ≤ S.size) (ty : TypeId) (pos : String) (af : Array Edge)
    (h : K { tmps := #[u0, u1, u2, u3, u4, u5, u6, u7, u8, u9, u10, u11, u12, .int .i64 (a : Int), .int .i64 (b : Int), .string (S.extract a b), u16, u17, u18, u19, u20, u21, u22, u23, u24, u25, u26, u27, u28, u29, u30, u31, u32, u33, u34], defers := [] } w) :
    Oper.wp Tryz.prog { dst := some 15, op := Op.slice 9 (Operand.const (Value.string S)) (some (Operand.tmp 13)) (some (Operand.tmp 14)) none, type := ty, pos := pos, after := af, guard := none } { tmps := #[u0, u1, u2, u3, u4, u5, u6, u7, u8, u9, u10, u11, u12, .int .i64 (a : Int), .int .i64 (b : Int), u15, u16, u17, u18, u19, u20, u21, u22, u23, u24, u25, u26, u27, u28, u29, u30, u31, u32, u33, u34], defers := [] } w K Q := by
  have h1 : (a : Int) ≤ (b : Int) := by omega
  have h2 : (b : Int) ≤ (S.size : Int) := by omega
  go_wp2
  exact h

set_option maxRecDepth 1000000 in
set_option maxHeartbeats 4000000 in
theorem rfind_any (w : World) (t : Nat) (ht : t < 4294967296) : Calls Tryz.prog 30 #[.int .u32 (t : Int)] w fun e w' =>
    e = .returned (.tuple #[.agg #[.int .u32 (eT (docF t (upTo 10))), .int .u32 (eM (docF t (upTo 10))), .int .i64 (eV (docF t (upTo 10))), .string (eS (docF t (upTo 10))), .int .i64 (eL (docF t (upTo 10))), .int .i64 (eN (docF t (upTo 10)))], .bool (docF t (upTo 10)).isSome]) ∧ Below w.heap.size w w' := by
  obtain ⟨O, hO⟩ : ∃ O, docF t (upTo 10) = O := ⟨_, rfl⟩
  rw [hO]
  have HO : Hid (docF t (upTo 10) = O) := hO
  have HT : Hid (t < 4294967296) := ht
  clear hO
  obtain ⟨V0, hV0⟩ : ∃ V0, w.alloc (.cells #[.int .u32 0, .int .u32 0, .int .i64 0, .string ⟨#[]⟩, .int .i64 0, .int .i64 0] 62) = V0 := ⟨_, rfl⟩
  have HE0 : Hid (E6 V0 w.heap.size ∧ Below w.heap.size w V0) := by
    rw [← hV0]
    exact ⟨⟨by simp, by simp, by simp, by simp, by simp, by simp, fun i => by simp⟩, (Below.refl _ _).alloc (Nat.le_refl _) _⟩
  go_enter Tryz.func30, Tryz.ntmps30
  go_wp2
  clear hV0
  go_loopw [4] (fun x wr => ∃ k : Nat, x = .int .i64 ((stt lns k : Nat) : Int) ∧ k ≤ 253 ∧ wr = V0 ∧ Hid (docF t ((upTo 10).drop k) = O)) (fun x _ => 10000 - (intOf x).toNat)
  case atStart => exact ⟨0, rfl, by omega, rfl, HO⟩
  case round =>
    obtain ⟨k, rfl, hk, rfl, HD⟩ := hrel
    by_cases hk2 : k < 253
    · have HSu : Hid (stt lns (k + 1) = stt lns k + (lns.getD k []).length + 1) := stt_succ lns k (by rw [lns_len]; exact hk2)
      have hle : stt lns k + (lns.getD k []).length + 1 ≤ 9128 := by
        rw [← HSu.out]
        have := stt_le lns (k + 1) (by rw [lns_len]; omega)
        rw [cat_length, lns_len, lns_end] at this
        exact this
      have c43 := fun S hS => end_line wr S hS k hk2
      have HTx : Hid (attrsB.extract (stt lns k) (stt lns k + (lns.getD k []).length) = lnB (lns.getD k [])) := line_text k hk2
      obtain ⟨r, hr, hfit⟩ := fits_at lns (upTo 10) k fits_all (by rw [lns_len]; exact hk2)
      have hec := fits_ec hfit
      obtain ⟨g1, g2, g3, g4⟩ := line_good k hk2
      have hfit2 := hfit
      unfold fits at hfit2
      simp only [Bool.and_eq_true, beq_iff_eq] at hfit2
      obtain ⟨⟨⟨⟨⟨f1, f2⟩, f3⟩, f4⟩, f5⟩, f6⟩ := hfit2
      have c44 : ∀ S, S = lnB (lns.getD k []) → Calls Tryz.prog 54 #[.string S] wr fun e w' => e = .returned (.tuple #[.int .u32 (r.t : Int), .int .u32 ((maskN r.t : Nat) : Int)]) ∧ wr = w' := by
        intro S hS
        have := tag_any wr (lnB (lns.getD k [])) g1 g2 g3
        rw [hS]
        rw [f1, f2] at this
        exact this
      have c45 : ∀ S, S = lnB (lns.getD k []) → Calls Tryz.prog 55 #[.string S] wr fun e w' => e = .returned (.agg #[.int .u32 (r.t : Int), .int .u32 ((maskN r.t : Nat) : Int), .int .i64 r.v, .string r.s, .int .i64 r.l, .int .i64 r.m]) ∧ Below wr.heap.size wr w' := by
        intro S hS
        have := entry_any wr (lnB (lns.getD k [])) g1 g2 g3 g4
        rw [hS]
        have he : entV (lnB (lns.getD k [])) = .agg (entC (lnB (lns.getD k []))).toArray := rfl
        rw [he, hec] at this
        exact this
      have HHA : Hid (docF t ((upTo 10).drop k) = if hit t r then some r else if t < r.t then none else docF t ((upTo 10).drop (k + 1))) := by
        show _ = _
        rw [row_drop hr, docF]
      have HAND : Hid ((bits .and .u32 (t : Int) ((maskN r.t : Nat) : Int) == (r.t : Int)) = hit t r) := hit_and HT.out
      have hsz : (attrsB.size : Int) = 9128 := by rw [attrs_size]; rfl
      clear g1 g2 g3 g4 hfit hec f1 f2 f3 f4 f5 f6 hr
      generalize lnB (lns.getD k []) = S at HTx c44 c45
      generalize (lns.getD k []).length = m at HSu hle c43 HTx
      generalize stt lns k = a at HSu hle c43 HTx ⊢
      go_wp2
      refine at43 _ _ _ _ _ _ ((c43 _ (by kernel_rfl)).mono ?_)
      rintro e w' ⟨rfl, rfl⟩
      refine ⟨_, rfl, ?_⟩
      go_wp2
      refine at15 _ a (a + m) (by omega) (Nat.le_trans (by omega) (Nat.le_of_eq attrs_size.symm)) _ _ _ ?_
      rw [HTx.out]
      clear c43
      obtain ⟨hv, hhv⟩ : ∃ hv, hit t r = hv := ⟨_, rfl⟩
      have hh2 : ((r.t : Int) == bits .and .u32 (t : Int) ((maskN r.t : Nat) : Int)) = hv := by rw [Bool.beq_comm]; exact HAND.out.trans hhv
      have HHV : Hid (hit t r = hv) := hhv
      clear hhv HAND
      have c44' := c44 S rfl
      have c45' := c45 S rfl
      clear c44 c45
      go_wp2_with (go_at_call 54; refine StopF.out ?_)
      refine ⟨Calls.mono c44' ?_⟩
      rintro e W ⟨rfl, rfl⟩
      clear c44'
      cases hv with
      | true =>
        have HF : Hid (O = some r) := by
          show O = some r
          rw [← HD.out, HHA.out, if_pos HHV.out]
        obtain ⟨z0, z1, z2, z3, z4, z5, zf⟩ := HE0.out.1
        go_wp2_with (go_at_call 55; refine StopF.out ?_)
        refine ⟨Calls.mono c45' ?_⟩
        rintro e W2 ⟨rfl, hb2⟩
        have HE2 : Hid (E6 W2 w.heap.size) := HE0.out.1.next hb2
        have HB2 : Hid (Below w.heap.size w W2) := HE0.out.2.trans (hb2.mono HE0.out.2.size)
        obtain ⟨y0, y1, y2, y3, y4, y5, yf⟩ := HE2.out
        clear hb2 c45' z0 z1 z2 z3 z4 z5 zf
        go_wp2
        have hU := HE2.out.sets (.int .u32 (r.t : Int)) (.int .u32 ((maskN r.t : Nat) : Int)) (.int .i64 r.v) (.string r.s) (.int .i64 r.l) (.int .i64 r.m)
        simp only at hU
        obtain ⟨u0, u1, u2, u3, u4, u5⟩ := hU
        rw [HF.out]
        exact bodyPost_ret (v := .tuple #[.agg #[.int .u32 (r.t : Int), .int .u32 ((maskN r.t : Nat) : Int), .int .i64 r.v, .string r.s, .int .i64 r.l, .int .i64 r.m], .bool true]) (by simp only [results, Tryz.results30]; simp [go_sem, u0, u1, u2, u3, u4, u5]) rfl ⟨rfl, (((((HB2.out.setCell (p := ⟨w.heap.size, 0, none⟩) (Nat.le_refl _) _).setCell (p := ⟨w.heap.size, 1, none⟩) (Nat.le_refl _) _).setCell (p := ⟨w.heap.size, 2, none⟩) (Nat.le_refl _) _).setCell (p := ⟨w.heap.size, 3, none⟩) (Nat.le_refl _) _).setCell (p := ⟨w.heap.size, 4, none⟩) (Nat.le_refl _) _).setCell (p := ⟨w.heap.size, 5, none⟩) (Nat.le_refl _) _⟩
      | false =>
        by_cases hlt : t < r.t
        · have HF : Hid (O = none) := by
            show O = none
            rw [← HD.out, HHA.out, if_neg (by rw [HHV.out]; decide), if_pos hlt]
          have hltI : decide ((t : Int) < (r.t : Int)) = true := by simp; omega
          obtain ⟨z0, z1, z2, z3, z4, z5, zf⟩ := HE0.out.1
          go_wp2
          have hU := HE0.out.1.sets (.int .u32 0) (.int .u32 0) (.int .i64 0) (.string ⟨#[]⟩) (.int .i64 0) (.int .i64 0)
          simp only at hU
          obtain ⟨u0, u1, u2, u3, u4, u5⟩ := hU
          rw [HF.out]
          exact bodyPost_ret (v := .tuple #[.agg #[.int .u32 0, .int .u32 0, .int .i64 0, .string ⟨#[]⟩, .int .i64 0, .int .i64 0], .bool false]) (by simp only [results, Tryz.results30]; simp [go_sem, u0, u1, u2, u3, u4, u5]) rfl ⟨rfl, (((((HE0.out.2.setCell (p := ⟨w.heap.size, 0, none⟩) (Nat.le_refl _) _).setCell (p := ⟨w.heap.size, 1, none⟩) (Nat.le_refl _) _).setCell (p := ⟨w.heap.size, 2, none⟩) (Nat.le_refl _) _).setCell (p := ⟨w.heap.size, 3, none⟩) (Nat.le_refl _) _).setCell (p := ⟨w.heap.size, 4, none⟩) (Nat.le_refl _) _).setCell (p := ⟨w.heap.size, 5, none⟩) (Nat.le_refl _) _⟩
        · have HN : Hid (docF t ((upTo 10).drop (k + 1)) = O) := by
            show _ = _
            rw [← HD.out, HHA.out, if_neg (by rw [HHV.out]; decide), if_neg hlt]
          have hltI : decide ((t : Int) < (r.t : Int)) = false := by simp; omega
          clear c45'
          go_wp2
          exact ⟨⟨k + 1, by rw [HSu.out]; simp, by omega, trivial, HN⟩, by simp [intOf]; omega⟩
    · obtain rfl : k = 253 := by omega
      have hst : stt lns 253 = 9128 := lns_end
      rw [hst]
      clear hst
      have HF : Hid (O = none) := by
        show O = none
        rw [← HD.out, List.drop_eq_nil_of_le (by rw [up_len]; exact Nat.le_refl _)]
        rfl
      obtain ⟨z0, z1, z2, z3, z4, z5, zf⟩ := HE0.out.1
      go_wp2
      have hU := HE0.out.1.sets (.int .u32 0) (.int .u32 0) (.int .i64 0) (.string ⟨#[]⟩) (.int .i64 0) (.int .i64 0)
      simp only at hU
      obtain ⟨u0, u1, u2, u3, u4, u5⟩ := hU
      rw [HF.out]
      exact bodyPost_ret (v := .tuple #[.agg #[.int .u32 0, .int .u32 0, .int .i64 0, .string ⟨#[]⟩, .int .i64 0, .int .i64 0], .bool false]) (by simp only [results, Tryz.results30]; simp [go_sem, u0, u1, u2, u3, u4, u5]) rfl ⟨rfl, (((((HE0.out.2.setCell (p := ⟨w.heap.size, 0, none⟩) (Nat.le_refl _) _).setCell (p := ⟨w.heap.size, 1, none⟩) (Nat.le_refl _) _).setCell (p := ⟨w.heap.size, 2, none⟩) (Nat.le_refl _) _).setCell (p := ⟨w.heap.size, 3, none⟩) (Nat.le_refl _) _).setCell (p := ⟨w.heap.size, 4, none⟩) (Nat.le_refl _) _).setCell (p := ⟨w.heap.size, 5, none⟩) (Nat.le_refl _) _⟩
end Go.Proofs.YteglammdigmmfaaGreatDoor.Tb
