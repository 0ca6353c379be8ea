import Derived.Test.YtilkogodhjnemaaGreatDoorBp
import Derived.Test.YtilkogodhjnemaaGreatDoorEa
import Derived.Test.YtilkogodhjnemaaGreatDoorWA
import Derived.Test.YtilkogodhjnemaaGreatDoorNx
/-
  DERIVED. Bytes laid down behind others; numbers, tags, heads: plain functions, by the two syntaxes.
-/
namespace Go.Proofs.YtilkogodhjnemaaGreatDoor
open Go Go.Proofs Go.RowKit
open Wk (Nd NV goN)

/-- A VR's letters. -/
def ltr (v : Int) : List UInt8 := (Rp.nm (Rp.vn v)).data.toList
/-- A head with letters. -/
def exL (t : Nat) (v : Int) (n : Nat) : List UInt8 := tagL t ++ ltr v ++ (if Rp.lo (Rp.vn v) = true then [0, 0] ++ le 4 n else le 2 n)
/-- A value, padded. -/
def pvL (v : Int) (s : ByteArray) : List UInt8 := (Rp.padB (Rp.pd (Rp.vn v)) s).data.toList
/-- Implicit. -/
def encI : Enc where
  hd a n := plL a.t.toNat n
  ih n := plL 4294893568 n
  pv a := pvL a.v a.s
  und a := decide (a.v = 18) && !(fnd a).isSome
  hs _ := 8
  em := plL 4294893789 0
/-- Explicit. -/
def encE : Enc where
  hd a n := if a.v = 29 then plL a.t.toNat n else exL a.t.toNat a.v n
  ih n := plL 4294893568 n
  pv a := pvL a.v a.s
  und _ := false
  hs a := if Rp.lo (Rp.vn a.v) = true then 12 else 8
  em := plL 4294893789 0
/-- By the number of the syntax. -/
def encOf (x : Bool) : Enc := if x = true then encE else encI

theorem nm_two : ∀ k : Fin 29, k.val = 0 ∨ (Rp.nm k.val).data.toList.length = 2 := by decide +kernel
theorem ltr_len {v : Int} (h : 1 ≤ v ∧ v ≤ 28) : (ltr v).length = 2 := by
  refine (nm_two ⟨Rp.vn v, Rp.vn_lt v⟩).resolve_left ?_
  show ¬ Rp.vn v = 0
  unfold Rp.vn
  rw [if_pos h]
  omega
theorem exL_len {v : Int} (h : 1 ≤ v ∧ v ≤ 28) (t n : Nat) : (exL t v n).length = if Rp.lo (Rp.vn v) = true then 12 else 8 := by
  rw [exL, List.length_append, List.length_append, tagL_len, ltr_len h]
  split
  · rw [List.length_append, le_len]; rfl
  · rw [le_len]
theorem pad_len (p : Int) (s : ByteArray) : (Rp.padB p s).size = s.size + s.size % 2 := by
  unfold Rp.padB
  split
  · omega
  · rw [ByteArray.size_append]
    split <;> (show s.size + 1 = _; omega)
theorem pvL_len (v : Int) (s : ByteArray) : (pvL v s).length = s.size + s.size % 2 := by
  rw [← pad_len (Rp.pd (Rp.vn v)) s, pvL, Array.length_toList]
  rfl
theorem toList_nil {s : ByteArray} (h : (s.toList == []) = true) : s.size = 0 := by
  rw [ByteArray.toList_eq] at h
  have h2 : s.data.toList = [] := by simpa using h
  show s.data.size = 0
  rw [← Array.length_toList, h2]
  rfl
theorem pvL_nil (v : Int) {s : ByteArray} (h : s.size = 0) : pvL v s = [] := List.length_eq_zero_iff.1 (by rw [pvL_len, h])
theorem elem_sq {a : Nd} (h : elemOk a = true) (hv : a.v = 18) : a.s.size = 0 := by
  unfold elemOk bodyO at h
  simp only [Bool.and_eq_true] at h
  have h2 := h.2.2
  rw [if_pos hv] at h2
  simp only [Bool.and_eq_true] at h2
  exact toList_nil h2.1
theorem elem_vr {a : Nd} (h : elemOk a = true) : 1 ≤ a.v ∧ a.v ≤ 28 ∧ a.s.size ≤ 65534 := by
  by_cases hv : a.v = 18
  · have := elem_sq h hv
    exact ⟨by omega, by omega, by omega⟩
  · unfold elemOk bodyO at h
    simp only [Bool.and_eq_true] at h
    have h2 := h.2.2
    rw [if_neg hv] at h2
    simp only [Bool.and_eq_true, decide_eq_true_eq] at h2
    exact ⟨h2.1.1, h2.1.2, h2.2.2.1⟩
theorem item_all {a : Nd} (h : itemOk a = true) : a.t = 4294893568 ∧ a.v = 29 ∧ a.s.size = 0 := by
  unfold itemOk at h
  simp only [Bool.and_eq_true, decide_eq_true_eq] at h
  exact ⟨h.1, h.2.1, toList_nil (by simpa using h.2.2.1)⟩
theorem fitI : encI.Fit elemOk itemOk where
  el a h hv := ⟨(elem_n a h).2.resolve_left hv, by show (decide (a.v = 18) && _) = false; rw [decide_eq_false hv]; rfl⟩
  sq a h hv := pvL_nil _ (elem_sq h hv)
  it a h := by
    obtain ⟨h1, h2, h3⟩ := item_all h
    refine ⟨pvL_nil _ h3, ?_, rfl, fun n => ?_⟩
    · show (decide (a.v = 18) && _) = false
      rw [h2]; rfl
    · show plL a.t.toNat n = _
      rw [h1]; rfl
theorem fitE : encE.Fit elemOk itemOk where
  el a h hv := ⟨(elem_n a h).2.resolve_left hv, rfl⟩
  sq a h hv := pvL_nil _ (elem_sq h hv)
  it a h := by
    obtain ⟨h1, h2, h3⟩ := item_all h
    refine ⟨pvL_nil _ h3, rfl, ?_, fun n => ?_⟩
    · show (if Rp.lo (Rp.vn a.v) = true then 12 else 8) = 8
      rw [h2]; rfl
    · show (if a.v = 29 then plL a.t.toNat n else exL a.t.toNat a.v n) = _
      rw [if_pos h2, h1]; rfl
theorem fitX (x : Bool) : (encOf x).Fit elemOk itemOk := by cases x; exact fitI; exact fitE
theorem encOf_pv (x : Bool) (a : Nd) : (encOf x).pv a = pvL a.v a.s := by cases x <;> rfl
theorem encOf_em (x : Bool) : (encOf x).em = plL 4294893789 0 := by cases x <;> rfl

/-- Nodes that may be laid down. -/
def Good (L : List Nd) : Prop := ∀ a ∈ L, (a.v = 29 ∨ (1 ≤ a.v ∧ a.v ≤ 28)) ∧ a.s.size ≤ 65534 ∧ 0 ≤ a.n
theorem Good.take {L : List Nd} (h : Good L) (k : Nat) : Good (L.take k) := fun a ha => h a (List.mem_of_mem_take ha)
theorem Good.drop {L : List Nd} (h : Good L) (k : Nat) : Good (L.drop k) := fun a ha => h a (List.mem_of_mem_drop ha)
theorem wf_good : ∀ (f : Nat) (b : Bool) (L : List Nd), wf elemOk itemOk f b L → Good L
  | 0, b, L, h => by obtain rfl : L = [] := h; intro a ha; cases ha
  | f + 1, b, [], _ => fun a ha => nomatch ha
  | f + 1, b, a :: r, h => by
    obtain ⟨h1, h2, h3⟩ := h
    have ih1 := wf_good f _ _ h2
    have ih2 := wf_good f _ _ h3
    intro x hx
    rcases List.mem_cons.1 hx with rfl | hx
    · cases b with
      | true =>
        have h4 : itemOk x = true := by simpa using h1
        obtain ⟨-, h6, h7⟩ := item_all h4
        exact ⟨.inl h6, by omega, item_n x h4⟩
      | false =>
        have h4 : elemOk x = true := by simpa using h1
        obtain ⟨h5, h6, h7⟩ := elem_vr h4
        exact ⟨.inr ⟨h5, h6⟩, h7, (elem_n x h4).1⟩
    · rw [← List.take_append_drop (goN r a.n.toNat) r] at hx
      rcases List.mem_append.1 hx with hx | hx
      · exact ih1 x hx
      · exact ih2 x hx
theorem hd_len (x : Bool) {a : Nd} (h : a.v = 29 ∨ (1 ≤ a.v ∧ a.v ≤ 28)) (n : Nat) : ((encOf x).hd a n).length = (encOf x).hs a := by
  cases x with
  | false => exact plL_len _ _
  | true =>
    show (if a.v = 29 then plL a.t.toNat n else exL a.t.toNat a.v n).length = if Rp.lo (Rp.vn a.v) = true then 12 else 8
    by_cases h29 : a.v = 29
    · rw [if_pos h29, plL_len, h29]; rfl
    · rw [if_neg h29, exL_len (h.resolve_left h29)]
theorem wr_len (x : Bool) : ∀ (f : Nat) (M : List Nd), M.length ≤ f → Good M → ((encOf x).wrP f M).length = (encOf x).szP M
  | 0, M, hf, _ => by
    obtain rfl : M = [] := List.length_eq_zero_iff.1 (by omega)
    rfl
  | f + 1, [], _, _ => rfl
  | f + 1, a :: r, hf, hg => by
    obtain ⟨h1, h2⟩ := cut_len r a.n.toNat
    simp only [List.length_cons] at hf
    have hr : Good r := fun y hy => hg y (List.mem_cons_of_mem _ hy)
    have e1 := wr_len x f (r.take (goN r a.n.toNat)) (by omega) (hr.take _)
    have e2 := wr_len x f (r.drop (goN r a.n.toNat)) (by omega) (hr.drop _)
    have hc := (encOf x).szP_cut r (goN r a.n.toNat)
    rw [Enc.wrP, Enc.szP, Enc.sz1]
    simp only [List.length_append, hd_len x (hg a List.mem_cons_self).1, e1, e2]
    split <;> simp [encOf_em, plL_len] <;> omega

end Go.Proofs.YtilkogodhjnemaaGreatDoor

/-
  DERIVED. Parts of a list of nodes, by places; what is laid down of them.
-/
namespace Go.Proofs.YtilkogodhjnemaaGreatDoor
open Go Go.Proofs Go.RowKit
open Wk (Nd NV NAt goN nxt)

/-- From one place to another. -/
def sub (L : List Nd) (i e : Nat) : List Nd := (L.take e).drop i
theorem sub_len {L : List Nd} {i e : Nat} (h : e ≤ L.length) : (sub L i e).length = e - i := by
  rw [sub, List.length_drop, List.length_take, Nat.min_eq_left h]
theorem sub_nil {L : List Nd} {i e : Nat} (h : e ≤ i) : sub L i e = [] := List.drop_eq_nil_of_le (by rw [List.length_take]; omega)
theorem sub_all (L : List Nd) : sub L 0 L.length = L := by rw [sub, List.take_length]; rfl
theorem sub_cons {L : List Nd} {i e : Nat} (hi : i < e) (he : e ≤ L.length) : sub L i e = (L[i]'(by omega)) :: sub L (i + 1) e := by
  have h : i < (L.take e).length := by rw [List.length_take]; omega
  rw [sub, List.drop_eq_getElem_cons h, List.getElem_take]
  rfl
theorem sub_mem {L : List Nd} {i e : Nat} {a : Nd} (h : a ∈ sub L i e) : a ∈ L := List.mem_of_mem_take (List.mem_of_mem_drop h)
/-- The nodes from one place to another are whole ones of a level. -/
def Lev (L : List Nd) (i e : Nat) : Prop := ∃ w, e = i + goN (L.drop i) w
theorem goN_full : ∀ (L : List Nd) (w : Nat), L.length ≤ w → goN L w = L.length
  | [], _, _ => by simp [goN]
  | a :: L, 0, h => by simp at h
  | a :: L, w + 1, h => by
    simp only [List.length_cons] at h
    show 1 + goN L (w + a.n.toNat) = _
    rw [goN_full L _ (by omega), List.length_cons]
    omega
theorem Lev.top (L : List Nd) : Lev L 0 L.length := ⟨L.length, by rw [List.drop_zero, goN_full L _ (Nat.le_refl _)]; omega⟩
theorem Lev.next {L : List Nd} {i e : Nat} (h : Lev L i e) (hi : i < e) (he : e ≤ L.length) : nxt L i ≤ e ∧ i < nxt L i ∧ Lev L (i + 1) (nxt L i) ∧ Lev L (nxt L i) e ∧ nxt L i = i + 1 + goN (L.drop (i + 1)) (L[i]'(by omega)).n.toNat := by
  obtain ⟨w, hw⟩ := h
  have hl : i < L.length := by omega
  have hs := Wk.goN_step (w := 0) hl
  rw [Nat.zero_add, Nat.zero_add] at hs
  cases w with
  | zero => rw [Wk.goN_zero] at hw; omega
  | succ w =>
    rw [Nat.add_comm w 1, goN_add] at hw
    refine ⟨?_, Wk.nxt_gt hl, ⟨(L[i]'hl).n.toNat, ?_⟩, ⟨w, ?_⟩, ?_⟩
    · unfold nxt; omega
    · unfold nxt; rw [hs, Nat.add_assoc]
    · unfold nxt
      rw [List.drop_drop] at hw
      rw [hw]
      omega
    · unfold nxt; rw [hs]; omega
theorem sub_cut {L : List Nd} {i e : Nat} (h : Lev L i e) (hi : i < e) (he : e ≤ L.length) :
    (sub L (i + 1) e).take (goN (sub L (i + 1) e) (L[i]'(by omega)).n.toNat) = sub L (i + 1) (nxt L i) ∧ (sub L (i + 1) e).drop (goN (sub L (i + 1) e) (L[i]'(by omega)).n.toNat) = sub L (nxt L i) e := by
  obtain ⟨h1, h2, -, -, h5⟩ := h.next hi he
  have hr : sub L (i + 1) e = (L.drop (i + 1)).take (e - (i + 1)) := by rw [sub, List.drop_take]
  have hg : goN (sub L (i + 1) e) (L[i]'(by omega)).n.toNat = nxt L i - (i + 1) := by
    rw [hr, goN_take _ _ _ (by omega)]
    omega
  rw [hg]
  constructor
  · rw [hr, List.take_take, Nat.min_eq_left (by omega), sub, List.drop_take]
  · rw [sub, List.drop_drop, sub]
    congr 1
    omega

/-- What the document counts and lays down. -/
def Enc.sD (X : Enc) (b : Bool) (M : List Nd) : Nat := X.szD M.length b M
def Enc.lD (X : Enc) (b : Bool) (M : List Nd) : List UInt8 := X.layD M.length b M
/-- What the program lays down. -/
def Enc.wP (X : Enc) (M : List Nd) : List UInt8 := X.wrP M.length M
section
variable (X : Enc) {L : List Nd} {i e : Nat} (h : Lev L i e) (hi : i < e) (he : e ≤ L.length)
include h hi he
theorem Enc.sD_elem : X.sD false (sub L i e) = X.hs (L[i]'(by omega)) + (if (L[i]'(by omega)).v ≠ 18 then (X.pv (L[i]'(by omega))).length else if X.und (L[i]'(by omega)) = true then 8 else 0) + X.sD true (sub L (i + 1) (nxt L i)) + X.sD false (sub L (nxt L i) e) := by
  obtain ⟨h1, h2, -, -, -⟩ := h.next hi he
  obtain ⟨c1, c2⟩ := sub_cut h hi he
  have l1 := sub_len (L := L) (i := i + 1) (e := e) he
  have l2 := sub_len (L := L) (i := i + 1) (e := nxt L i) (by omega)
  have l3 := sub_len (L := L) (i := nxt L i) (e := e) he
  unfold Enc.sD
  rw [sub_cons hi he, List.length_cons, Enc.szD, c1, c2, X.szD_fuel _ (sub L (i + 1) (nxt L i)).length true (sub L (i + 1) (nxt L i)) (by omega) (Nat.le_refl _), X.szD_fuel _ (sub L (nxt L i) e).length false (sub L (nxt L i) e) (by omega) (Nat.le_refl _)]
theorem Enc.sD_item : X.sD true (sub L i e) = 8 + X.sD false (sub L (i + 1) (nxt L i)) + X.sD true (sub L (nxt L i) e) := by
  obtain ⟨h1, h2, -, -, -⟩ := h.next hi he
  obtain ⟨c1, c2⟩ := sub_cut h hi he
  have l1 := sub_len (L := L) (i := i + 1) (e := e) he
  have l2 := sub_len (L := L) (i := i + 1) (e := nxt L i) (by omega)
  have l3 := sub_len (L := L) (i := nxt L i) (e := e) he
  unfold Enc.sD
  rw [sub_cons hi he, List.length_cons, Enc.szD, c1, c2, X.szD_fuel _ (sub L (i + 1) (nxt L i)).length false (sub L (i + 1) (nxt L i)) (by omega) (Nat.le_refl _), X.szD_fuel _ (sub L (nxt L i) e).length true (sub L (nxt L i) e) (by omega) (Nat.le_refl _)]
theorem Enc.lD_elem : X.lD false (sub L i e) = (if (L[i]'(by omega)).v ≠ 18 then X.hd (L[i]'(by omega)) (X.pv (L[i]'(by omega))).length ++ X.pv (L[i]'(by omega)) else X.hd (L[i]'(by omega)) (if X.und (L[i]'(by omega)) = true then 4294967295 else X.sD true (sub L (i + 1) (nxt L i))) ++ X.lD true (sub L (i + 1) (nxt L i)) ++ (if X.und (L[i]'(by omega)) = true then X.em else [])) ++ X.lD false (sub L (nxt L i) e) := by
  obtain ⟨h1, h2, -, -, -⟩ := h.next hi he
  obtain ⟨c1, c2⟩ := sub_cut h hi he
  have l1 := sub_len (L := L) (i := i + 1) (e := e) he
  have l2 := sub_len (L := L) (i := i + 1) (e := nxt L i) (by omega)
  have l3 := sub_len (L := L) (i := nxt L i) (e := e) he
  unfold Enc.lD Enc.sD
  rw [sub_cons hi he, List.length_cons, Enc.layD, c1, c2, X.szD_fuel _ (sub L (i + 1) (nxt L i)).length true (sub L (i + 1) (nxt L i)) (by omega) (Nat.le_refl _), X.layD_fuel _ (sub L (i + 1) (nxt L i)).length true (sub L (i + 1) (nxt L i)) (by omega) (Nat.le_refl _), X.layD_fuel _ (sub L (nxt L i) e).length false (sub L (nxt L i) e) (by omega) (Nat.le_refl _)]
  split <;> rfl
theorem Enc.lD_item : X.lD true (sub L i e) = X.ih (X.sD false (sub L (i + 1) (nxt L i))) ++ X.lD false (sub L (i + 1) (nxt L i)) ++ X.lD true (sub L (nxt L i) e) := by
  obtain ⟨h1, h2, -, -, -⟩ := h.next hi he
  obtain ⟨c1, c2⟩ := sub_cut h hi he
  have l1 := sub_len (L := L) (i := i + 1) (e := e) he
  have l2 := sub_len (L := L) (i := i + 1) (e := nxt L i) (by omega)
  have l3 := sub_len (L := L) (i := nxt L i) (e := e) he
  unfold Enc.lD Enc.sD
  rw [sub_cons hi he, List.length_cons, Enc.layD, c1, c2, X.szD_fuel _ (sub L (i + 1) (nxt L i)).length false (sub L (i + 1) (nxt L i)) (by omega) (Nat.le_refl _), X.layD_fuel _ (sub L (i + 1) (nxt L i)).length false (sub L (i + 1) (nxt L i)) (by omega) (Nat.le_refl _), X.layD_fuel _ (sub L (nxt L i) e).length true (sub L (nxt L i) e) (by omega) (Nat.le_refl _)]
theorem Enc.wP_next : X.wP (sub L i e) = X.hd (L[i]'(by omega)) (if X.und (L[i]'(by omega)) = true then 4294967295 else (X.pv (L[i]'(by omega))).length + X.szP (sub L (i + 1) (nxt L i))) ++ X.pv (L[i]'(by omega)) ++ X.wP (sub L (i + 1) (nxt L i)) ++ (if X.und (L[i]'(by omega)) = true then X.em else []) ++ X.wP (sub L (nxt L i) e) := by
  obtain ⟨h1, h2, -, -, -⟩ := h.next hi he
  obtain ⟨c1, c2⟩ := sub_cut h hi he
  have l1 := sub_len (L := L) (i := i + 1) (e := e) he
  have l2 := sub_len (L := L) (i := i + 1) (e := nxt L i) (by omega)
  have l3 := sub_len (L := L) (i := nxt L i) (e := e) he
  unfold Enc.wP
  rw [sub_cons hi he, List.length_cons, Enc.wrP, c1, c2, X.wrP_fuel _ (sub L (i + 1) (nxt L i)).length (sub L (i + 1) (nxt L i)) (by omega) (Nat.le_refl _), X.wrP_fuel _ (sub L (nxt L i) e).length (sub L (nxt L i) e) (by omega) (Nat.le_refl _)]
theorem Enc.szP_next : X.szP (sub L i e) = X.sz1 (L[i]'(by omega)) + X.szP (sub L (i + 1) (nxt L i)) + X.szP (sub L (nxt L i) e) := by
  obtain ⟨c1, c2⟩ := sub_cut h hi he
  rw [sub_cons hi he, Enc.szP, X.szP_cut (sub L (i + 1) e) (goN (sub L (i + 1) e) (L[i]'(by omega)).n.toNat), c1, c2]
  omega
end
theorem Enc.szP_snoc (X : Enc) {L : List Nd} {i : Nat} (hi : i < L.length) : X.szP (L.take (i + 1)) = X.szP (L.take i) + X.sz1 (L[i]'hi) := by
  rw [X.szP_cut (L.take (i + 1)) i, List.take_take, Nat.min_eq_left (by omega)]
  congr 1
  have : (L.take (i + 1)).drop i = [L[i]'hi] := by
    have := sub_cons (L := L) (i := i) (e := i + 1) (by omega) (by omega)
    rw [sub_nil (Nat.le_refl _)] at this
    exact this
  rw [this]
  show X.sz1 _ + 0 = _
  omega
theorem Enc.szP_le (X : Enc) (M : List Nd) (j : Nat) : X.szP (M.take j) ≤ X.szP M ∧ X.szP (M.drop j) ≤ X.szP M := by
  have := X.szP_cut M j
  omega

/-- Part of a list that lies there. -/
theorem NV.part {w : World} {b off n cap : Nat} {L : List Nd} (h : NV w (some ⟨b, off, none⟩) n cap L) {i e : Nat} (hie : i ≤ e) (he : e ≤ n) (z : Nat) (hz : i < e → z = off + i * 4) : NV w (some ⟨b, z, none⟩) (e - i) (cap - i) (sub L i e) := by
  have hl := h.len
  have hr := h.room
  have hs := h.small
  refine ⟨by rw [sub_len (by omega)], by omega, by omega, fun hp => ?_, fun x hx => h.num x (sub_mem hx)⟩
  obtain ⟨b', off', ha, hn⟩ := h.lies (by omega)
  cases ha
  refine ⟨b, z, rfl, fun j hj => ?_⟩
  rw [sub_len (by omega)] at hj
  have hg : (sub L i e)[j]'(by rw [sub_len (by omega)]; exact hj) = L[i + j]'(by omega) := by
    unfold sub
    rw [List.getElem_drop, List.getElem_take]
  rw [hg, hz (by omega)]
  have := hn (i + j) (by omega)
  rw [show off + i * 4 + j * 4 = off + (i + j) * 4 by omega]
  exact this
end Go.Proofs.YtilkogodhjnemaaGreatDoor
