import Derived.Test.YtnheeenkdjmhoaaDoorO
/-
  DERIVED. A message cut into segments and fields: pure; rows of rows.
-/
namespace Go.Proofs.YtnheeenkdjmhoaaDoor
open Go Go.Proofs Go.RowKit

abbrev Segs := List (List (List UInt8))
/-- Segment by segment; or the number of the first that may not be. -/
def segGo (f : UInt8) (mk : List UInt8) : List (List UInt8) → Segs → Nat ⊕ Segs
  | [], acc => .inr acc
  | p :: r, acc =>
    if trimL p = [] then segGo f mk r acc
    else if isSegB f (trimL p) = false then .inl acc.length
    else segGo f mk r (acc ++ [if acc = [] then headF f mk (trimL p) else cutU f (trimL p)])
def fOf (l : List UInt8) : UInt8 := (trimL l).getD 3 0
def mkOf (l : List UInt8) : List UInt8 := ((trimL l).drop 3).take 5
/-- What Split tells. -/
inductive SplO (l : List UInt8) : Option (Int × Int) → Segs → Prop
  | hd : ¬ HdOK (trimL l) → SplO l (some (0, 220)) []
  | seg (n : Nat) : HdOK (trimL l) → segGo (fOf l) (mkOf l) (cutU 13 l) [] = .inl n → SplO l (some (n, 226)) []
  | good (L : Segs) : HdOK (trimL l) → segGo (fOf l) (mkOf l) (cutU 13 l) [] = .inr L → SplO l none L
theorem spl_is (l : List UInt8) : ∃ o L, SplO l o L := by
  by_cases h : HdOK (trimL l)
  · cases hs : segGo (fOf l) (mkOf l) (cutU 13 l) [] with
    | inl n => exact ⟨_, _, .seg n h hs⟩
    | inr L => exact ⟨_, _, .good L h hs⟩
  · exact ⟨_, _, .hd h⟩

theorem cutU_head (m : UInt8) : ∀ (a r : List UInt8), (∀ x ∈ a, x ≠ m) → ∃ q ps, cutU m (a ++ r) = (a ++ q) :: ps
  | [], r, _ => by
    cases hc : cutU m r with
    | nil => have := cutU_pos m r; rw [hc] at this; simp at this
    | cons q ps => exact ⟨q, ps, by simp [hc]⟩
  | b :: a, r, h => by
    obtain ⟨q, ps, ih⟩ := cutU_head m a r (fun x hx => h x (List.mem_cons_of_mem _ hx))
    have hb : b ≠ m := h b (List.mem_cons_self ..)
    exact ⟨q, ps, by simp [cutU, hb, ih]⟩
theorem cutU_mem (m : UInt8) : ∀ (l : List UInt8) (p : List UInt8), p ∈ cutU m l → p.length ≤ l.length
  | [], p, h => by simp [cutU] at h; subst h; simp
  | b :: l, p, h => by
    unfold cutU at h
    split at h
    · rcases List.mem_cons.1 h with rfl | h
      · simp
      · have := cutU_mem m l p h; simp; omega
    · split at h
      · next q qs hq =>
        rcases List.mem_cons.1 h with rfl | h
        · have := cutU_mem m l q (by rw [hq]; simp); simp; omega
        · have := cutU_mem m l p (by rw [hq]; exact List.mem_cons_of_mem _ h); simp; omega
      · simp at h; subst h; simp
theorem mkB_13 {x : UInt8} (h : mkB x.toNat = true) : x ≠ 13 := by
  intro e; subst e; revert h; decide
theorem hd_no13 {t : List UInt8} (h : HdOK t) : ∀ x ∈ t.take 9, x ≠ 13 := by
  obtain ⟨h1, h2, h3, h4⟩ := h
  intro x hx
  obtain ⟨i, hi, rfl⟩ := List.getElem_of_mem hx
  rw [List.length_take] at hi
  rw [List.getElem_take]
  have g3 : t[3]'(by omega) ≠ 13 := by
    refine mkB_13 (h3.2.1 _ ?_)
    have hm : ((t.drop 3).take 5)[0]'(by rw [List.length_take, List.length_drop]; omega) ∈ (t.drop 3).take 5 := List.getElem_mem _
    simpa using hm
  by_cases hi3 : i < 3
  · have : (t.take 3)[i]? = ([77, 83, 72] : List UInt8)[i]? := by rw [h2]
    rw [List.getElem?_take_of_lt hi3, List.getElem?_eq_getElem (by omega)] at this
    rcases (show i = 0 ∨ i = 1 ∨ i = 2 by omega) with rfl | rfl | rfl <;> (simp at this; rw [this]; decide)
  · by_cases hi8 : i < 8
    · refine mkB_13 (h3.2.1 _ ?_)
      have hm : ((t.drop 3).take 5)[i - 3]'(by rw [List.length_take, List.length_drop]; omega) ∈ (t.drop 3).take 5 := List.getElem_mem _
      rw [List.getElem_take, List.getElem_drop] at hm
      have e : 3 + (i - 3) = i := by omega
      simpa [e] using hm
    · have e : i = 8 := by omega
      subst e
      rw [List.getD_eq_getElem?_getD, List.getD_eq_getElem?_getD, List.getElem?_eq_getElem (by omega), List.getElem?_eq_getElem (by omega)] at h4
      simp at h4
      rw [h4]
      exact g3
theorem trimL_ten (l : List UInt8) : l = 10 :: trimL l ∨ (l = trimL l ∧ ∀ r, l ≠ 10 :: r) := by
  by_cases h : ∃ r, l = 10 :: r
  · obtain ⟨r, rfl⟩ := h; exact .inl rfl
  · refine .inr ⟨?_, fun r hr => h ⟨r, hr⟩⟩
    unfold trimL; split
    · next r => exact absurd ⟨r, rfl⟩ h
    · rfl
theorem first_long {l : List UInt8} (h : HdOK (trimL l)) : ∃ p ps, cutU 13 l = p :: ps ∧ 9 ≤ (trimL p).length := by
  have h13 := hd_no13 h
  obtain ⟨t, ht⟩ : ∃ t, trimL l = t := ⟨_, rfl⟩
  rw [ht] at h h13
  have h9 := h.1
  have hsp : t = t.take 9 ++ t.drop 9 := (List.take_append_drop 9 t).symm
  rcases trimL_ten l with hl | ⟨hl, hn⟩
  · rw [ht] at hl
    obtain ⟨q, ps, hc⟩ := cutU_head 13 (10 :: t.take 9) (t.drop 9) (by intro x hx; rcases List.mem_cons.1 hx with rfl | hx; decide; exact h13 x hx)
    refine ⟨10 :: t.take 9 ++ q, ps, ?_, ?_⟩
    · rw [hl]; rw [List.cons_append, ← hsp] at hc; exact hc
    · show 9 ≤ (trimL (10 :: (t.take 9 ++ q))).length
      simp [trimL]; omega
  · rw [ht] at hl
    obtain ⟨q, ps, hc⟩ := cutU_head 13 (t.take 9) (t.drop 9) h13
    refine ⟨t.take 9 ++ q, ps, ?_, ?_⟩
    · rw [← hsp] at hc; rw [hl]; exact hc
    · rcases trimL_ten (t.take 9 ++ q) with h0 | ⟨h0, _⟩
      · exfalso
        have h2 := congrArg (List.take 1) h0
        have h3 := congrArg (List.take 1) h.2.1
        rw [List.take_take] at h3
        rw [List.take_append_of_le_length (by rw [List.length_take]; omega), List.take_take] at h2
        simp at h2 h3
        rw [h3] at h2
        simp at h2
      · rw [← h0]; simp; omega

/-- The rows of a list of rows. -/
def SegRows (W : World) (vals : List Value) (L : Segs) : Prop := vals.length = L.length ∧ ∀ i, i < L.length → ∃ b, W.ownsRow b 9 1 (vals.getD i undef) (L.getD i []).length (strs (L.getD i []))
def SegsAt (W : World) (B : Nat) (v : Value) (L : Segs) : Prop := ∃ vals, W.ownsRow B 38 1 v L.length vals ∧ SegRows W vals L
theorem own9_grown {W W' : World} {b B n m : Nat} {v u : Value} {xs ys : List Value} (h : W.ownsRow b 9 1 v n xs) (hu : W.ownsRow B 38 1 u m ys) (hg : W.grownBy W' u.ownBlock) : W'.ownsRow b 9 1 v n xs := by
  refine owns_of h fun g hv => hg.block g (h.lt g hv).2 fun hs => ?_
  rcases h.2 with ⟨h1, _⟩ | ⟨g1, c1, cur1, h1, _, hh1, _⟩
  · rw [h1] at hv; cases hv
  · rcases hu.2 with ⟨h2, _⟩ | ⟨g2, c2, cur2, h2, _, hh2, _⟩
    · rw [h2] at hs; cases hs
    · rw [h1] at hv; rw [h2] at hs
      have e1 : g1 = g := by simpa [Value.ownBlock] using hv
      have e2 : g = g2 := by simpa [Value.ownBlock] using hs
      subst e1; subst e2
      rw [hh1] at hh2
      simp at hh2
theorem SegRows.of {W W' : World} {vals : List Value} {L : Segs} (h : SegRows W vals L) (hk : ∀ b v n xs, W.ownsRow b 9 1 v n xs → W'.ownsRow b 9 1 v n xs) : SegRows W' vals L :=
  ⟨h.1, fun i hi => by obtain ⟨b, hb⟩ := h.2 i hi; exact ⟨b, hk _ _ _ _ hb⟩⟩
theorem SegRows.snoc {W : World} {vals : List Value} {L : Segs} (h : SegRows W vals L) {b : Nat} {u : Value} {ps : List (List UInt8)} (hu : W.ownsRow b 9 1 u ps.length (strs ps)) : SegRows W (vals ++ [u]) (L ++ [ps]) := by
  refine ⟨by simp [h.1], fun i hi => ?_⟩
  rw [List.length_append, List.length_singleton] at hi
  by_cases hlt : i < L.length
  · obtain ⟨b', hb⟩ := h.2 i hlt
    refine ⟨b', ?_⟩
    rw [List.getD_eq_getElem?_getD, List.getElem?_append_left (by rw [h.1]; exact hlt), List.getD_eq_getElem?_getD (l := L ++ [ps]), List.getElem?_append_left hlt]
    rw [List.getD_eq_getElem?_getD, List.getD_eq_getElem?_getD] at hb
    exact hb
  · have e : i = L.length := by omega
    subst e
    refine ⟨b, ?_⟩
    rw [List.getD_eq_getElem?_getD, List.getElem?_append_right (by rw [h.1]; omega), List.getD_eq_getElem?_getD (l := L ++ [ps]), List.getElem?_append_right (Nat.le_refl _)]
    simp [h.1]
    simpa using hu
theorem info38s : (Tryd.prog.info? 38).map (fun i => (i.zero, i.size, i.bytes)) = some (some (.slice none 0 0), 1, 24) := by kernel_rfl
end Go.Proofs.YtnheeenkdjmhoaaDoor
