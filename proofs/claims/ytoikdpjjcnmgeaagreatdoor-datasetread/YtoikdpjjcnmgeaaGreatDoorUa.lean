import Derived.Test.YtoikdpjjcnmgeaaGreatDoorQj
import Derived.Test.YtoikdpjjcnmgeaaGreatDoorQn
import Derived.Test.YtoikdpjjcnmgeaaGreatDoorBl
section
/-
  DERIVED. What is implied of what is implied; Implied for whatever list.
-/
namespace Go.Proofs.YtoikdpjjcnmgeaaGreatDoor
open Go Go.Proofs Go.RowKit
open Wk (Nd NV nds)
open Go.Sort

theorem trimN_stop (L : List UInt8) : ∀ n, Rp.trimN L n = 0 ∨ ¬ (L.getD (Rp.trimN L n - 1) 1 = 32 ∨ L.getD (Rp.trimN L n - 1) 1 = 0)
  | 0 => .inl rfl
  | n + 1 => by
    rw [Rp.trimN]
    split
    · exact trimN_stop L n
    · rename_i h
      exact .inr (by rw [Nat.add_sub_cancel]; exact h)
theorem trim_trim (s : ByteArray) : Rp.trimB (Rp.trimB s) = Rp.trimB s := by
  have hz : (Rp.trimB s).size = Rp.trimN s.data.toList s.size := by
    unfold Rp.trimB
    rw [ByteArray.size_extract]
    have := Rp.trimN_le s.data.toList s.size
    omega
  have hd : (Rp.trimB s).data.toList = s.data.toList.take (Rp.trimN s.data.toList s.size) := Rp.extract_list s _
  have key : Rp.trimN (Rp.trimB s).data.toList (Rp.trimB s).size = (Rp.trimB s).size := by
    rw [hd, hz]
    rcases trimN_stop s.data.toList s.size with h | h
    · rw [h]; rfl
    · generalize hk : Rp.trimN s.data.toList s.size = k at h
      cases k with
      | zero => rfl
      | succ k =>
        rw [Nat.add_sub_cancel] at h
        rw [Rp.trimN, if_neg]
        rw [List.getD_eq_getElem?_getD, List.getElem?_take_of_lt (by omega), ← List.getD_eq_getElem?_getD]
        exact h
  apply ByteArray.ext
  apply Array.ext'
  have h2 : (Rp.trimB (Rp.trimB s)).data.toList = (Rp.trimB s).data.toList.take (Rp.trimN (Rp.trimB s).data.toList (Rp.trimB s).size) := Rp.extract_list _ _
  rw [h2, key]
  exact List.take_of_length_le (by rw [Array.length_toList]; exact Nat.le_refl _)
/-- A value of an element, padded and read again. -/
theorem val_back {a : Nd} (ha : elemOk a = true) (h18 : a.v ≠ 18) : trS a.v (Rp.padB (Rp.pd (Rp.vn a.v)) a.s) = a.s := by
  unfold elemOk bodyO at ha
  simp only [Bool.and_eq_true] at ha
  have h2 := ha.2.2
  rw [if_neg h18] at h2
  simp only [Bool.and_eq_true] at h2
  have h3 := h2.2.2.2
  unfold unp at h3
  unfold trS
  by_cases ht : Rp.tx (Rp.vn a.v) = true
  · rw [if_pos ht] at h3 ⊢
    exact trim_pad h3
  · rw [if_neg ht] at h3 ⊢
    unfold Rp.padB
    rw [if_pos (of_decide_eq_true h3)]
theorem tx_two : Rp.tx (Rp.vn 11) = true ∧ Rp.tx (Rp.vn 25) = false := by decide +kernel
theorem im_elem {a : Nd} (ha : elemOk a = true) : elemOk (imN a) = true := by
  by_cases h : a.v = 29 ∨ a.v = 18 ∨ (fnd a).isSome = true
  · have e : imN a = a := by unfold imN; rw [if_pos h]
    rw [e]; exact ha
  · have e : imN a = ⟨a.t, dflt a.t.toNat, a.n, trS (dflt a.t.toNat) (Rp.padB (Rp.pd (Rp.vn a.v)) a.s)⟩ := by unfold imN; rw [if_neg h]
    have hk : ¬ (kn a.t.toNat).isSome = true := fun e => h (.inr (.inr e))
    have h18 : a.v ≠ 18 := fun e => h (.inr (.inl e))
    have hd := dflt_un (elem_may ha).1 hk
    have hn0 := (elem_n a ha).2.resolve_left h18
    obtain ⟨-, -, hsz⟩ := elem_vr ha
    have hp := pad_len (Rp.pd (Rp.vn a.v)) a.s
    rw [e]
    unfold elemOk vrO bodyO
    simp only [Bool.and_eq_true]
    refine ⟨(elem_may ha).1, ?_, ?_⟩
    · have : (fnd ⟨a.t, dflt a.t.toNat, a.n, trS (dflt a.t.toNat) (Rp.padB (Rp.pd (Rp.vn a.v)) a.s)⟩).isSome = false := by
        show (kn a.t.toNat).isSome = false
        simpa using hk
      rw [this]; rfl
    · rw [if_neg (by omega)]
      simp only [Bool.and_eq_true, decide_eq_true_eq]
      refine ⟨by omega, hn0, ?_, ?_⟩
      · have := trS_size (dflt a.t.toNat) (Rp.padB (Rp.pd (Rp.vn a.v)) a.s)
        omega
      · unfold unp trS
        rcases hd with hd | hd <;> rw [hd]
        · rw [tx_two.1, if_pos rfl, if_pos rfl, trim_trim]
          exact beq_self_eq_true _
        · rw [tx_two.2, if_neg (by decide), if_neg (by decide)]
          exact decide_eq_true (by omega)
theorem im_item {a : Nd} (ha : itemOk a = true) : imN a = a := by
  unfold imN
  rw [if_pos (.inl (item_all ha).2.1)]
theorem im_im {a : Nd} (ha : elemOk a = true ∨ itemOk a = true) : imN (imN a) = imN a := by
  by_cases h : a.v = 29 ∨ a.v = 18 ∨ (fnd a).isSome = true
  · have e : imN a = a := by unfold imN; rw [if_pos h]
    rw [e, e]
  · rcases ha with ha | ha
    · have he := im_elem ha
      have hk : ¬ (kn a.t.toNat).isSome = true := fun e => h (.inr (.inr e))
      have hd := dflt_un (elem_may ha).1 hk
      have e : imN a = ⟨a.t, dflt a.t.toNat, a.n, trS (dflt a.t.toNat) (Rp.padB (Rp.pd (Rp.vn a.v)) a.s)⟩ := by unfold imN; rw [if_neg h]
      rw [e] at he ⊢
      have hv := val_back he (by show dflt a.t.toNat ≠ 18; omega)
      unfold imN
      rw [if_neg (by
        rintro (h1 | h1 | h1)
        · have h1 : dflt a.t.toNat = 29 := h1
          omega
        · have h1 : dflt a.t.toNat = 18 := h1
          omega
        · exact hk h1)]
      rw [hv]
    · exact im_item (by rw [im_item ha]; exact ha)
theorem im_v {a : Nd} (ha : elemOk a = true) : (imN a).v = 18 ↔ a.v = 18 := by
  constructor
  · intro h
    exact Classical.byContradiction fun h18 => bk_v false ha h18 h
  · intro h
    have e : imN a = a := by unfold imN; rw [if_pos (.inr (.inl h))]
    rw [e]; exact h
/-- What is implied of a data set is one. -/
theorem run_im : ∀ (L : List Nd) (i : Nat) (st : List Lv), (runL elemOk itemOk i st L).2 = true → (runL elemOk itemOk i st (L.map imN)).2 = true ∧ (L.map imN).map imN = L.map imN
  | [], i, st, h => ⟨h, rfl⟩
  | a :: L, i, st, h => by
    rw [runL] at h
    split at h
    · cases h
    · rename_i hn
      have hr : rightL elemOk itemOk a st = true := by
        rcases hb : rightL elemOk itemOk a st with _ | _
        · exact absurd (.inr hb) hn
        · rfl
      obtain ⟨h1, h2⟩ := run_im L (i + 1) _ h
      have hboth : rightL elemOk itemOk (imN a) st = true ∧ stepL (imN a) st = stepL a st ∧ imN (imN a) = imN a := by
        have ht : (imN a).t = a.t := bkN_t false a
        have hnn : (imN a).n = a.n := bkN_n false a
        by_cases hp : st.length % 2 = 0
        · unfold rightL at hr
          rw [if_pos hp, Bool.and_eq_true] at hr
          have e := im_item hr.1
          refine ⟨?_, by rw [e], by rw [e, e]⟩
          unfold rightL
          rw [if_pos hp, e, Bool.and_eq_true]
          exact hr
        · unfold rightL at hr
          rw [if_neg hp, Bool.and_eq_true] at hr
          refine ⟨?_, ?_, im_im (.inl hr.1)⟩
          · unfold rightL
            rw [if_neg hp, Bool.and_eq_true, im_elem hr.1, ht]
            exact ⟨rfl, hr.2⟩
          · unfold stepL
            congr 1
            cases st with
            | nil => rfl
            | cons x r =>
              show (if (r.length + 1) % 2 = 0 ∨ (imN a).v = 18 then ((imN a).n, 0) :: (x.1 - 1, (imN a).t) :: r else (x.1 - 1, (imN a).t) :: r) = (if (r.length + 1) % 2 = 0 ∨ a.v = 18 then (a.n, 0) :: (x.1 - 1, a.t) :: r else (x.1 - 1, a.t) :: r)
              rw [hnn, ht]
              by_cases hv : (r.length + 1) % 2 = 0 ∨ a.v = 18
              · rw [if_pos hv, if_pos (by rcases hv with hv | hv; exact .inl hv; exact .inr ((im_v hr.1).2 hv))]
              · rw [if_neg hv, if_neg (by rintro (h | h); exact hv (.inl h); exact hv (.inr ((im_v hr.1).1 h)))]
      refine ⟨?_, ?_⟩
      · rw [List.map_cons, runL, if_neg, hboth.2.1]
        · exact h1
        · rintro (h | h)
          · exact hn (.inl h)
          · rw [hboth.1] at h; cases h
      · rw [List.map_cons, List.map_cons, h2, hboth.2.2]
theorem res_im {L : List Nd} (h : (res L).2 = true) : (res (L.map imN)).2 = true ∧ (L.map imN).map imN = L.map imN := run_im L 0 _ h
end Go.Proofs.YtoikdpjjcnmgeaaGreatDoor
end

section
/-
  DERIVED. What is read is a data set. Plain functions.
-/
namespace Go.Proofs.YtoikdpjjcnmgeaaGreatDoor
open Go Go.Proofs Go.RowKit
open Wk (Nd goN)

/-- The same, with a count of the steps. -/
inductive EndsN (S : Src) : Nat → Nat → List Nd → List Sp → Fin → Prop where
  | done (k M) : EndsN S 0 k M [] (.ok M)
  | bad {k M sp rest a c} : step S k M sp rest = .bad a c → EndsN S 0 k M (sp :: rest) (.bad a c)
  | go {n k M sp rest k' M' st' R} : step S k M sp rest = .go k' M' st' → EndsN S n k' M' st' R → EndsN S (n + 1) k M (sp :: rest) R
theorem Ends.count {S : Src} {k : Nat} {M : List Nd} {st : List Sp} {R : Fin} (h : Ends S k M st R) : ∃ n, EndsN S n k M st R := by
  induction h with
  | done k M => exact ⟨0, .done k M⟩
  | bad h => exact ⟨0, .bad h⟩
  | go h _ ih =>
    obtain ⟨n, hn⟩ := ih
    exact ⟨n + 1, .go h hn⟩

/-- More steps than nodes say nothing more. -/
theorem wt_fuel {E I : Nd → Bool} : ∀ (f g : Nat) (b : Bool) (d : Nat) (t : Int) (c : Nat) (M : List Nd), M.length ≤ g → wt E I f b d t c M → wt E I g b d t c M
  | 0, g, b, d, t, c, M, _, h => by
    obtain ⟨rfl, rfl⟩ := h
    exact wt_nil _ _ _ _ _ _
  | f + 1, g, b, d, t, c, [], _, h => by
    obtain rfl : c = 0 := h
    exact wt_nil _ _ _ _ _ _
  | f + 1, 0, b, d, t, c, a :: r, hg, h => by simp at hg
  | f + 1, g + 1, b, d, t, c, a :: r, hg, h => by
    obtain ⟨h0, h1, h2, h3⟩ := h
    have hg : r.length ≤ g := by simpa using hg
    obtain ⟨l1, l2⟩ := cut_len r a.n.toNat
    exact ⟨h0, h1, wt_fuel f g _ _ _ _ _ (by omega) h2, wt_fuel f g _ _ _ _ _ (by omega) h3⟩
/-- So many of them, and no more. -/
theorem wt_goN {E I : Nd → Bool} : ∀ (f : Nat) (b : Bool) (d : Nat) (t : Int) (c : Nat) (M Y : List Nd), wt E I f b d t c M → goN (M ++ Y) c = M.length
  | 0, b, d, t, c, M, Y, h => by
    obtain ⟨rfl, rfl⟩ := h
    exact Wk.goN_zero _
  | f + 1, b, d, t, c, [], Y, h => by
    obtain rfl : c = 0 := h
    exact Wk.goN_zero _
  | f + 1, b, d, t, c, a :: r, Y, h => by
    obtain ⟨h0, h1, h2, h3⟩ := h
    have i1 := wt_goN f _ _ _ _ _ (r.drop (goN r a.n.toNat) ++ Y) h2
    have i2 := wt_goN f _ _ _ _ _ Y h3
    have e : r.take (goN r a.n.toNat) ++ (r.drop (goN r a.n.toNat) ++ Y) = r ++ Y := by rw [← List.append_assoc, List.take_append_drop]
    have hl : (r.take (goN r a.n.toNat)).length = goN r a.n.toNat := by
      rw [List.length_take, Nat.min_eq_left (goN_le r _)]
    have hd : (r ++ Y).drop (goN r a.n.toNat) = r.drop (goN r a.n.toNat) ++ Y := List.drop_append_of_le_length (goN_le r _)
    rw [e, hl] at i1
    rw [List.cons_append, show c = (c - 1) + 1 by omega, goN_cons, i1, hd, i2, List.length_drop, List.length_cons]
    have := goN_le r a.n.toNat
    omega
/-- A node, what is in it, what is behind it. -/
theorem wt_cons {E I : Nd → Bool} {b : Bool} {d d2 : Nat} {t t2 : Int} {c1 c2 : Nat} {a : Nd} {X1 X2 : List Nd} (ha : if b = true then I a = true ∧ d + 1 ≤ 4 else E a = true ∧ t < a.t) (hn : a.n.toNat = c1) (hd : d2 = if b = true then d + 1 else d) (h1 : wt E I X1.length (!b) d2 0 c1 X1) (h2 : wt E I X2.length b d t2 c2 X2) (ht : b = false → t2 = a.t) : wt E I (a :: (X1 ++ X2)).length b d t (c2 + 1) (a :: (X1 ++ X2)) := by
  have hg : goN (X1 ++ X2) a.n.toNat = X1.length := by rw [hn]; exact wt_goN _ _ _ _ _ _ _ h1
  subst hd
  refine ⟨by omega, ha, ?_, ?_⟩
  · rw [hg, List.take_left, hn]
    exact wt_fuel _ _ _ _ _ _ _ (by simp) h1
  · rw [hg, List.drop_left, Nat.add_sub_cancel]
    have h2 := wt_fuel _ (X1 ++ X2).length _ _ _ _ _ (by simp) h2
    cases b with
    | false => rw [← ht rfl]; exact h2
    | true =>
      have key : ∀ (f : Nat) (t t' : Int) (c : Nat) (M : List Nd), wt E I f true d t c M → wt E I f true d t' c M := by
        intro f
        induction f with
        | zero => intro t t' c M h; exact h
        | succ f ih =>
          intro t t' c M h
          cases M with
          | nil => exact h
          | cons x r => exact h
      exact key _ _ _ _ _ h2
theorem wt_any {E I : Nd → Bool} {f d : Nat} {t t' : Int} {c : Nat} {M : List Nd} (h : wt E I f true d t c M) : wt E I f true d t' c M := by
  cases f with
  | zero => exact h
  | succ f =>
    cases M with
    | nil => exact h
    | cons x r => exact h

/-- What a head tells of a tag that the dictionary knows. -/
theorem hd_vr {x : Bool} {ys : List UInt8} {k e : Nat} {h : Hd} (hh : (srcS ys).hd x k e = .inr h) (hb : isBar (tagS ys k) = false) (h0 : tagS ys k % 65536 ≠ 0) (hk : (kn (tagS ys k)).isSome = true) : h.v = Tb.eV (kn (tagS ys k)) := by
  have hm : mayS (tagS ys k) = true := by
    unfold isBar at hb
    simp only [Bool.or_eq_false_iff, decide_eq_false_iff_not] at hb
    obtain ⟨b1, b2, b3, b4⟩ := hb
    unfold mayS
    simp [b1, b2, b3, b4, h0]
  cases x with
  | false =>
    have hh : (Sum.inr (hdI ys k) : Nat ⊕ Hd) = .inr h := hh
    cases hh
    show (if numS ys (k + 4) = und ∧ (kn (tagS ys k)).isSome = false ∧ tagS ys k % 65536 ≠ 0 then 18 else dflt (tagS ys k)) = _
    rw [if_neg (fun e => by rw [hk] at e; cases e.2.1)]
    exact dflt_kn hm hk
  | true =>
    have hh : hdE ys k e = .inr h := hh
    unfold hdE at hh
    split at hh
    · cases hh
    split at hh
    · cases hh
    split at hh
    · cases hh
    rename_i hmay
    have hmay : mayT (tagS ys k) (vrE ys k) = true := by
      rcases hq : mayT (tagS ys k) (vrE ys k) with _ | _
      · exact absurd hq hmay
      · rfl
    unfold mayT at hmay
    rw [if_neg h0, hk] at hmay
    by_cases h25 : vrE ys k = 25
    · rw [if_pos h25] at hh
      cases hh
      show (if (kn (tagS ys k)).isSome = true then Tb.eV (kn (tagS ys k)) else _) = _
      rw [if_pos hk]
    · rw [if_neg h25] at hh
      cases hh
      have : (vrE ys k : Int) = Tb.eV (kn (tagS ys k)) := by simpa [h25] using hmay
      exact this
theorem bar_may {t : Nat} (hb : isBar t = false) (h0 : t % 65536 ≠ 0) : mayS t = true := by
  unfold isBar at hb
  simp only [Bool.or_eq_false_iff, decide_eq_false_iff_not] at hb
  obtain ⟨b1, b2, b3, b4⟩ := hb
  unfold mayS
  simp [b1, b2, b3, b4, h0]
theorem nil_list : (ByteArray.empty.toList == []) = true := by rw [ByteArray.toList_eq]; rfl
/-- A sequence that is read. -/
theorem sq_elem {x : Bool} {ys : List UInt8} {k e : Nat} {h : Hd} (c : Nat) (hh : (srcS ys).hd x k e = .inr h) (hb : isBar (tagS ys k) = false) (h0 : tagS ys k % 65536 ≠ 0) (h18 : h.v = 18) : elemOk ⟨(tagS ys k : Int), 18, (c : Int), ByteArray.empty⟩ = true := by
  unfold elemOk
  simp only [Bool.and_eq_true]
  refine ⟨bar_may hb h0, ?_, ?_⟩
  · unfold vrO
    show (!((kn (tagS ys k)).isSome && ((18 : Int) != Tb.eV (kn (tagS ys k))))) = true
    rcases hk : (kn (tagS ys k)).isSome with _ | _
    · rfl
    · rw [← hd_vr hh hb h0 hk, h18]
      rfl
  · unfold bodyO
    show (if (18 : Int) = 18 then (ByteArray.empty.toList == []) && decide ((0 : Int) ≤ (c : Int)) else _) = true
    rw [if_pos rfl, nil_list, decide_eq_true (show (0 : Int) ≤ (c : Int) by omega)]
    rfl
theorem cutB_full {ys : List UInt8} {k n : Nat} (h : n = 0 ∨ k + n ≤ ys.length) : (cutB ys k n).size = n := by
  show ((ys.drop k).take n).toArray.size = n
  simp
  omega
/-- An element that is read. -/
theorem pl_elem {x : Bool} {ys : List UInt8} {k e : Nat} {h : Hd} (hh : (srcS ys).hd x k e = .inr h) (hb : isBar (tagS ys k) = false) (h0 : tagS ys k % 65536 ≠ 0) (h18 : h.v ≠ 18) (hv : 1 ≤ h.v ∧ h.v ≤ 28) (hl : h.len ≤ 65534) (h2 : h.len % 2 = 0) (hf : h.len = 0 ∨ k + h.sz + h.len ≤ ys.length) : elemOk ⟨(tagS ys k : Int), h.v, 0, (srcS ys).val h.v (k + h.sz) h.len⟩ = true := by
  unfold elemOk
  simp only [Bool.and_eq_true]
  refine ⟨bar_may hb h0, ?_, ?_⟩
  · unfold vrO
    show (!((kn (tagS ys k)).isSome && (h.v != Tb.eV (kn (tagS ys k))))) = true
    rcases hk : (kn (tagS ys k)).isSome with _ | _
    · rfl
    · rw [← hd_vr hh hb h0 hk]
      simp
  · unfold bodyO
    show (if h.v = 18 then _ else decide (1 ≤ h.v ∧ h.v ≤ 28) && (decide ((0 : Int) = 0) && (decide (((srcS ys).val h.v (k + h.sz) h.len).size ≤ 65534) && unp (Rp.tx (Rp.vn h.v)) ((srcS ys).val h.v (k + h.sz) h.len)))) = true
    have hs : ((srcS ys).val h.v (k + h.sz) h.len).size ≤ 65534 := Nat.le_trans ((src_ok ys).val _ _ _) hl
    rw [if_neg h18, decide_eq_true hv, decide_eq_true (show (0 : Int) = 0 from rfl), decide_eq_true hs]
    simp only [Bool.true_and]
    show unp (Rp.tx (Rp.vn h.v)) (trS h.v (cutB ys (k + h.sz) h.len)) = true
    unfold unp trS
    by_cases ht : Rp.tx (Rp.vn h.v) = true
    · rw [if_pos ht, if_pos ht, trim_trim]
      simp
    · rw [if_neg ht, if_neg ht, cutB_full hf]
      exact decide_eq_true h2
/-- What is read without its VR has the one that its tag has. -/
def Pln (a : Nd) : Prop := a.v = 29 ∨ a.v = 18 ∨ (fnd a).isSome = true ∨ a.v = dflt a.t.toNat
theorem Pln.im {a : Nd} (h : Pln a) (he : a.v = 29 ∨ elemOk a = true) : imN a = a := by
  unfold imN
  split
  · rfl
  · rename_i hc
    have h4 : a.v = dflt a.t.toNat := by
      rcases h with h | h | h | h
      · exact absurd (.inl h) hc
      · exact absurd (.inr (.inl h)) hc
      · exact absurd (.inr (.inr h)) hc
      · exact h
    have h29 : a.v ≠ 29 := fun e => hc (.inl e)
    have h18 : a.v ≠ 18 := fun e => hc (.inr (.inl e))
    have he := he.resolve_left h29
    rw [← h4]
    have hb : trS a.v (Rp.padB (Rp.pd (Rp.vn a.v)) a.s) = a.s := by
      unfold elemOk bodyO at he
      simp only [Bool.and_eq_true] at he
      have h2 := he.2.2
      rw [if_neg h18] at h2
      simp only [Bool.and_eq_true] at h2
      have h3 := h2.2.2.2
      unfold unp at h3
      unfold trS
      by_cases ht : Rp.tx (Rp.vn a.v) = true
      · rw [if_pos ht] at h3 ⊢
        exact trim_pad h3
      · rw [if_neg ht] at h3 ⊢
        unfold Rp.padB
        rw [if_pos (of_decide_eq_true h3)]
    rw [hb]
end Go.Proofs.YtoikdpjjcnmgeaaGreatDoor
end
