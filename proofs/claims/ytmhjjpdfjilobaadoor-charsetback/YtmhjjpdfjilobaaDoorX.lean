import Derived.Test.YtmhjjpdfjilobaaDoorU
/-
  DERIVED. What the terms of a set are; the law of New and Terms.
-/
namespace Go.Proofs.YtmhjjpdfjilobaaDoor
open Go Go.Proofs Go.RowKit

def Good (x : Bool) (N : List (Nat × ByteArray)) : Prop := ∀ r ∈ N, r.1 < 7 ∧ r.2 = wri x r.1

theorem wri_f : ∀ k : Fin 7, wri false k.val = sp (3 * k.val) := by decide +kernel
theorem wri_t : ∀ k : Fin 6, wri true k.val = sp (3 * k.val + 1) := by decide +kernel

theorem wri_of {t : ByteArray} {k : Nat} {y : Bool} (h : nmd t 7 0 = some (k, y)) : k < 7 ∧ t = wri y k := by
  have hk := nmd_lt 7 0 t k y h
  obtain ⟨h1, h2⟩ := nmd_is 7 0 t k y h
  refine ⟨by omega, ?_⟩
  cases y with
  | false =>
    simp only [Bool.false_eq_true, if_false] at h1
    rw [h1]
    exact (wri_f ⟨k, by omega⟩).symm
  | true =>
    simp only [if_true] at h1
    have h6 : k ≠ 6 := by
      rintro rfl
      have := h2 rfl
      rw [sp_list] at this
      simp [spL] at this
    rw [h1]
    exact (wri_t ⟨k, by omega⟩).symm

theorem Good.snoc {x : Bool} {N : List (Nat × ByteArray)} (h : Good x N) {k : Nat} {t : ByteArray} (hk : nmd t 7 0 = some (k, x)) : Good x (N ++ [(k, t)]) := by
  intro r hr
  rw [List.mem_append, List.mem_singleton] at hr
  rcases hr with hr | rfl
  · exact h r hr
  · exact wri_of hk

theorem newL_len : ∀ (T : List ByteArray) (cnt i : Nat) (N : List (Nat × ByteArray)) (x : Bool) (N' : List (Nat × ByteArray)) (x' : Bool), newL cnt T i N x = .inr (N', x') → N'.length = N.length + T.length
  | [], _, _, _, _, _, _, h => by simp [newL] at h; simp [h.1]
  | s :: T, cnt, i, N, x, N', x', h => by
    rw [newL] at h
    split at h
    · simp at h
    · split at h
      · simp at h
      · split at h
        · simp at h
        · have := newL_len T cnt (i + 1) _ _ N' x' h
          simp at this
          simp
          omega

theorem newL_many (cnt : Nat) (hc : 1 < cnt) : ∀ (T : List ByteArray) (i : Nat) (N : List (Nat × ByteArray)) (x : Bool) (N' : List (Nat × ByteArray)) (x' : Bool), Good true N → (T = [] → x = true) → newL cnt T i N x = .inr (N', x') → x' = true ∧ Good true N'
  | [], _, N, x, N', x', hG, hx, h => by
    simp [newL] at h
    obtain ⟨rfl, rfl⟩ := h
    exact ⟨hx rfl, hG⟩
  | s :: T, i, N, x, N', x', hG, hx, h => by
    rw [newL] at h
    split at h
    · simp at h
    · rename_i k y hk
      split at h
      · simp at h
      · rename_i hy
        have hy1 : y = true := by
          cases y with
          | true => rfl
          | false => simp [hc] at hy
        subst hy1
        split at h
        · simp at h
        · exact newL_many cnt hc T (i + 1) _ true N' x' (hG.snoc hk) (fun _ => rfl) h

theorem newS_good {T : List ByteArray} {N : List (Nat × ByteArray)} {x : Bool} (h : newS T = .inr (N, x)) : Good x N ∧ 0 < N.length ∧ N.length ≤ 6 := by
  unfold newS at h
  split at h
  · simp at h
  · rename_i h6
    split at h
    · simp at h
      obtain ⟨rfl, rfl⟩ := h
      refine ⟨fun r hr => ?_, by decide, by decide⟩
      simp at hr
      subst hr
      exact ⟨by decide, (wri_of nmd_zero).2⟩
    · rename_i h0
      have hl := newL_len T T.length 0 [] false N x h
      simp at hl
      refine ⟨?_, by omega, by omega⟩
      by_cases h1 : 1 < T.length
      · have hT : T ≠ [] := fun e => by rw [e] at h1; simp at h1
        have := newL_many T.length h1 T 0 [] false N x (fun r hr => by simp at hr) (fun e => absurd e hT) h
        obtain ⟨rfl, hG⟩ := this
        exact hG
      · obtain ⟨s, rfl⟩ : ∃ s, T = [s] := by
          match T, h0, h1 with
          | [s], _, _ => exact ⟨s, rfl⟩
          | [], h0, _ => exact absurd rfl h0
          | _ :: _ :: _, _, h1 => simp at h1
        rw [newL] at h
        split at h
        · simp at h
        · rename_i k y hk
          split at h
          · simp at h
          · split at h
            · simp at h
            · simp [newL] at h
              obtain ⟨rfl, rfl⟩ := h
              intro r hr
              simp at hr
              subst hr
              exact wri_of hk

theorem good_terms {x : Bool} {N : List (Nat × ByteArray)} (h : Good x N) : rterms N x = N.map (·.2) := by
  unfold rterms
  refine List.map_congr_left fun r hr => ?_
  exact (h r hr).2.symm
theorem names_terms (R : List Row) : termsOf R = (namesOf R).map (·.2) := by unfold termsOf namesOf; simp
theorem names_len (R : List Row) : (namesOf R).length = R.length := by unfold namesOf; simp

/-- What is written over, read. -/
theorem row_set {A B : List ByteArray} {x y : ByteArray} {i : Nat} (h : A.length = i) : (strsC (A ++ x :: B)).set i (.string y) = strsC (A ++ y :: B) := by
  subst h
  unfold strsC
  rw [List.map_append, List.map_append, List.set_append_right _ _ (by simp)]
  simp

theorem own_form {w : World} {base : Nat} {e : TypeId} {v : Value} {n : Nat} {xs : List Value} (h : w.ownsRow base e 1 v n xs) (hn : 0 < n) : ∃ g cap, v = .slice (some ⟨g, 0, none⟩) n cap ∧ base ≤ g ∧ g < w.heap.size := h.form hn

/-- What holds ahead of each round in which the lent terms are turned round. -/
def RevInv (w : World) (Hb G n : Nat) (T : List ByteArray) (u y : Value) (wr : World) : Prop :=
  ∃ i : Nat, y = .int .i64 (i : Int) ∧ i ≤ n ∧ Below w.heap.size w wr ∧ Hb ≤ wr.heap.size ∧ wr.ownsRow G 9 1 (.slice (some ⟨G, 0, none⟩) (n + 1) (n + 1)) (n + 1) (strsC (T.reverse.take i ++ (T.drop i ++ [⟨#[109, 97, 114, 107]⟩]))) ∧ wr.ownsRow Hb 9 1 u i (strsC (T.reverse.take i))

set_option maxRecDepth 100000 in
set_option maxHeartbeats 4000000 in
theorem begins_no (w : World) (v : Value) (T : List ByteArray) (a : Int × Int) (hr : newS T = .inl a) (hT : TS w v T) (hl : T.length ≤ 8796093021952) (hsz : ∀ s ∈ T, s.size ≤ 140737488351232) (hS : Spell w) :
    Calls Tryd.prog 3 #[v] w fun e w' => e = .returned (.bool true) ∧ Below w.heap.size w w' := by
  have c8 := begin_any w v T hT hl hsz hS
  rw [hr] at c8
  obtain ⟨ao, cap, rfl, _⟩ := hT
  clear hr hsz hl
  go_enter Tryd.func3, Tryd.ntmps3
  go_wp2_with (go_at_call 8; fail)
  refine c8.mono ?_
  rintro e W1 ⟨s, k, rfl, ⟨rfl, rfl⟩, hb1⟩
  go_wp2
  go_ret
  exact ⟨rfl, hb1⟩

set_option maxRecDepth 100000 in
set_option maxHeartbeats 4000000 in
theorem begins_yes (w : World) (v : Value) (T : List ByteArray) (N : List (Nat × ByteArray)) (x : Bool) (hr : newS T = .inr (N, x)) (hT : TS w v T) (hl6 : T.length ≤ 6) (hsz : ∀ s ∈ T, s.size ≤ 140737488351232) (hS : Spell w) :
    Calls Tryd.prog 3 #[v] w fun e w' => e = .returned (.bool true) ∧ Below w.heap.size w w' := by
  have c8 := begin_any w v T hT (by omega) hsz hS
  rw [hr] at c8
  obtain ⟨hG, hN0, hN6⟩ := newS_good hr
  obtain ⟨ao, cap, rfl, hf⟩ := hT
  have HT : Hid (TS w (.slice ao T.length cap) T) := ⟨ao, cap, rfl, hf⟩
  have HTl : Hid (T.length ≤ 6) := hl6
  have HSZ : Hid (∀ s ∈ T, s.size ≤ 140737488351232) := hsz
  have HSp : Hid (Spell w) := hS
  obtain ⟨tn, htn⟩ : ∃ tn, T.length = tn := ⟨_, rfl⟩
  have HTN : Hid (T.length = tn) := htn
  rw [htn] at c8 HT ⊢
  clear hf hr hsz hS hl6 htn
  obtain ⟨i0, hI, hI0, hI1, hI2⟩ := info_parts strInfo
  go_enter Tryd.func3, Tryd.ntmps3
  go_wp2_with (go_at_call 8; fail)
  refine c8.mono ?_
  rintro e W1 ⟨s, k, rfl, ⟨q, u, R, p, u2, H, rfl, rfl, hlq, hlH, hlp, hset, hnames, hrset⟩, hb1⟩
  have hRl : R.length = N.length := by rw [← hnames, names_len]
  obtain ⟨r0, R0, rfl⟩ : ∃ r0 R0, R = r0 :: R0 := by
    cases R with
    | nil => simp at hRl; omega
    | cons a b => exact ⟨a, b, rfl⟩
  obtain ⟨m, hm⟩ : ∃ m, N.length = m := ⟨_, rfl⟩
  have hTT : termsOf (r0 :: R0) = rterms N x := by rw [names_terms, hnames, good_terms hG]
  have HSet : Hid (SetAt W1 q u (r0 :: R0) x) := hset
  have HRSet : Hid (RSetAt W1 H p u2 N x) := hrset
  have HB1 : Hid (Below w.heap.size w W1) := hb1
  obtain ⟨TT, hTTd⟩ : ∃ TT, rterms N x = TT := ⟨_, rfl⟩
  have hTTl : TT.length = m := by rw [← hTTd]; unfold rterms; rw [List.length_map, hm]
  have HTT : Hid (TT.length = m) := hTTl
  have HCT : Hid (∀ W, Below W1.heap.size W1 W → Calls Tryd.prog 9 #[.pointer (some ⟨q, 0, none⟩)] W fun e w' => ∃ u, e = .returned u ∧ w'.ownsRow W.heap.size 9 1 u m (strsC TT) ∧ Below W.heap.size W w') := by
    intro W hb
    have := terms_any W q u r0 R0 x (by rw [hRl]; exact hN6) (HSet.out.on hb)
    rw [hRl, hm, hTT, hTTd] at this
    exact this
  have HCR : Hid (∀ W, Below W1.heap.size W1 W → Calls Tryd.prog 11 #[.pointer (some ⟨p, 0, none⟩)] W fun e w' => ∃ u, e = .returned u ∧ w'.ownsRow W.heap.size 9 1 u m (strsC TT) ∧ Below W.heap.size W w') := by
    intro W hb
    have := rterms_any W H p u2 N x hN6 (fun r hr => (hG r hr).1) (HRSet.out.on hb)
    rw [hm, hTTd] at this
    exact this
  have hm6 : m ≤ 6 := by omega
  have hm0 : 0 < m := by omega
  clear hset hrset hb1 hlq hlH hlp hnames hRl hTT hTTd hTTl hG hN0 hN6 hm c8
  go_wp2_with (go_at_call 9; fail)
  refine (HCT.out W1 (Below.refl _ _)).mono ?_
  rintro e W2 ⟨l1, rfl, ho2, hb2⟩
  obtain ⟨g1, c1, rfl, hg1, hg1'⟩ := own_form ho2 hm0
  have HB2 : Hid (Below W1.heap.size W1 W2) := hb2
  have HO2 : Hid (W2.ownsRow W1.heap.size 9 1 (.slice (some ⟨g1, 0, none⟩) m c1) m (strsC TT)) := ho2
  have HG1 : Hid (W1.heap.size ≤ g1 ∧ g1 < W2.heap.size) := ⟨hg1, hg1'⟩
  clear ho2 hb2 hg1 hg1'
  go_wp2_with (go_at_call 9; fail)
  refine (HCT.out W2 HB2.out).mono ?_
  rintro e W3 ⟨l2, rfl, ho3, hb3⟩
  obtain ⟨g2, c2, rfl, hg2, hg2'⟩ := own_form ho3 hm0
  have HB3 : Hid (Below W1.heap.size W1 W3) := HB2.out.trans (hb3.mono HB2.out.size)
  have HO3 : Hid (W3.ownsRow W2.heap.size 9 1 (.slice (some ⟨g2, 0, none⟩) m c2) m (strsC TT)) := ho3
  have HP3 : Hid (W3.ownsRow W1.heap.size 9 1 (.slice (some ⟨g1, 0, none⟩) m c1) m (strsC TT)) := ownsRow_below HO2.out hb3 (Nat.le_refl _)
  have HG2 : Hid (W2.heap.size ≤ g2 ∧ g2 < W3.heap.size) := ⟨hg2, hg2'⟩
  clear ho3 hb3 hg2 hg2' HO2
  go_wp2_with (go_at_call 11; fail)
  refine (HCR.out W3 HB3.out).mono ?_
  rintro e W4 ⟨l3, rfl, ho4, hb4⟩
  have HB4 : Hid (Below W1.heap.size W1 W4) := HB3.out.trans (hb4.mono HB3.out.size)
  have HO4 : Hid (W4.ownsRow W2.heap.size 9 1 (.slice (some ⟨g2, 0, none⟩) m c2) m (strsC TT)) := ownsRow_below HO3.out hb4 (Nat.le_refl _)
  have HP4 : Hid (W4.ownsRow W1.heap.size 9 1 (.slice (some ⟨g1, 0, none⟩) m c1) m (strsC TT)) := ownsRow_below HP3.out hb4 (Nat.le_refl _)
  have c10 := same_yes (ts_own HP4.out HTT.out) (ts_own ho4 HTT.out) (by rw [HTT.out]; omega)
  have HL4 : Hid (W3.heap.size ≤ W4.heap.size) := hb4.size
  clear ho4 hb4 HO3 HP3
  go_wp2_with (go_at_call 10; fail)
  refine c10.mono ?_
  rintro e W5 ⟨rfl, hb5⟩
  have HB5 : Hid (Below W1.heap.size W1 W5) := HB4.out.trans (hb5.mono HB4.out.size)
  have HO5 : Hid (W5.ownsRow W2.heap.size 9 1 (.slice (some ⟨g2, 0, none⟩) m c2) m (strsC TT)) := ownsRow_below HO4.out hb5 (Nat.le_refl _)
  have HP5 : Hid (W5.ownsRow W1.heap.size 9 1 (.slice (some ⟨g1, 0, none⟩) m c1) m (strsC TT)) := ownsRow_below HP4.out hb5 (Nat.le_refl _)
  clear c10 hb5 HO4 HP4
  go_wp2_with (go_at_call 11; fail)
  refine (HCR.out W5 HB5.out).mono ?_
  rintro e W6 ⟨l4, rfl, ho6, hb6⟩
  have HB6 : Hid (Below W1.heap.size W1 W6) := HB5.out.trans (hb6.mono HB5.out.size)
  have HO6 : Hid (W6.ownsRow W2.heap.size 9 1 (.slice (some ⟨g2, 0, none⟩) m c2) m (strsC TT)) := ownsRow_below HO5.out hb6 (Nat.le_refl _)
  have HP6 : Hid (W6.ownsRow W1.heap.size 9 1 (.slice (some ⟨g1, 0, none⟩) m c1) m (strsC TT)) := ownsRow_below HP5.out hb6 (Nat.le_refl _)
  have c10 := same_yes (ts_own HO6.out HTT.out) (ts_own ho6 HTT.out) (by rw [HTT.out]; omega)
  clear ho6 hb6 HO5 HP5
  go_wp2_with (go_at_call 10; fail)
  refine c10.mono ?_
  rintro e W7 ⟨rfl, hb7⟩
  have HB7 : Hid (Below W1.heap.size W1 W7) := HB6.out.trans (hb7.mono HB6.out.size)
  have HO7 : Hid (W7.ownsRow W2.heap.size 9 1 (.slice (some ⟨g2, 0, none⟩) m c2) m (strsC TT)) := ownsRow_below HO6.out hb7 (Nat.le_refl _)
  have HP7 : Hid (W7.ownsRow W1.heap.size 9 1 (.slice (some ⟨g1, 0, none⟩) m c1) m (strsC TT)) := ownsRow_below HP6.out hb7 (Nat.le_refl _)
  clear c10 hb7 HO6 HP6
  go_wp2
  go_loopw [8] (fun y wr => ∃ i : Nat, y = .int .i64 (i : Int) ∧ i ≤ m ∧ Hid (Below W1.heap.size W1 wr) ∧ Hid (wr.ownsRow W2.heap.size 9 1 (.slice (some ⟨g2, 0, none⟩) m c2) m (strsC TT)) ∧ Hid (∃ xs, wr.ownsRow W1.heap.size 9 1 (.slice (some ⟨g1, 0, none⟩) m c1) m xs)) (fun y _ => m - (intOf y).toNat)
  case atStart => exact ⟨0, rfl, by omega, HB7, HO7, _, HP7⟩
  case round =>
    obtain ⟨i, rfl, hi, HBr, HO, HPx⟩ := hrel
    clear HB2 HB3 HB4 HB5 HB6 HB7 HO7 HP7
    by_cases him : i < m
    · obtain ⟨xs, hP⟩ := HPx.out
      have hxl : xs.length = m := by have := hP.1; omega
      have hci : wr.cell? ⟨g1, i, none⟩ = some (xs[i]'(by omega)) := by
        rw [hP.cellAt i (by omega)]
        exact List.getElem?_eq_getElem _
      have hfi := hP.frozenAt i
      have hSt := hP.stored i (.string ⟨#[115, 112, 111, 105, 108, 116]⟩)
      have HP' : Hid (∃ xs, (wr.setCell ⟨g1, i, none⟩ (.string ⟨#[115, 112, 111, 105, 108, 116]⟩)).ownsRow W1.heap.size 9 1 (.slice (some ⟨g1, 0, none⟩) m c1) m xs) := ⟨_, hSt.1⟩
      have HO' : Hid ((wr.setCell ⟨g1, i, none⟩ (.string ⟨#[115, 112, 111, 105, 108, 116]⟩)).ownsRow W2.heap.size 9 1 (.slice (some ⟨g2, 0, none⟩) m c2) m (strsC TT)) := own_set HO.out _ HG1.out.2
      have HBr' : Hid (Below W1.heap.size W1 (wr.setCell ⟨g1, i, none⟩ (.string ⟨#[115, 112, 111, 105, 108, 116]⟩))) := HBr.out.setCell (p := ⟨g1, i, none⟩) HG1.out.1 _
      generalize xs[i]'(by omega) = xi at hci
      have hiI : (i : Int) < (m : Int) := by omega
      clear hP hSt hxl HPx
      go_wp2
      exact ⟨⟨i + 1, by simp, by omega, HBr', HO', HP'⟩, by simp [intOf]; omega⟩
    · have e : m = i := by omega
      subst e
      go_wp2
      go_loopw [6, 9] (fun u y wr => ∃ j : Nat, y = .int .i64 (j : Int) ∧ j ≤ 64 ∧ Hid (Below W1.heap.size W1 wr) ∧ Hid (wr.ownsRow W2.heap.size 9 1 (.slice (some ⟨g2, 0, none⟩) m c2) m (strsC TT)) ∧ Hid (∃ xs, wr.ownsRow W1.heap.size 9 1 u (m + j) xs) ∧ Hid (u.ownBlock ≠ some g2)) (fun _ y _ => 64 - (intOf y).toNat)
      case atStart => exact ⟨0, rfl, by omega, HBr, HO, HPx, fun e => by have := HG1.out.2; have h2 := HG2.out.1; simp [Value.ownBlock] at e; omega⟩
      case round =>
        clear HBr HO HPx
        obtain ⟨j, rfl, hj, HBr, HO, HPx, HNE⟩ := hrel
        by_cases hj64 : j < 64
        · obtain ⟨xs, hP⟩ := HPx.out
          obtain ⟨g, c, hu, hgb, hgl⟩ := own_form hP (by omega)
          subst hu
          have HP : Hid (wr.ownsRow W1.heap.size 9 1 (.slice (some ⟨g, 0, none⟩) (m + j) c) (m + j) xs) := hP
          have HGG : Hid (W1.heap.size ≤ g ∧ g < wr.heap.size) := ⟨hgb, hgl⟩
          have h63 : m + j + 1 ≤ maxLen := by unfold maxLen; omega
          have hby : (m + j + 1) * 16 ≤ 140737488355328 := by omega
          have hb2 : W1.heap.size ≤ (wr.alloc (.cells #[.string ⟨#[103, 114, 111, 119, 110]⟩] 9)).heap.size := by have := HBr.out.size; simp; omega
          clear hP hgb hgl HPx
          go_wp2_with (first | (at_builtin; refine wpList_append_lies _ rfl (.tmp 59) (.tmp 60) 22 rfl W1.heap.size 9 i0 _ 1 16 Tryd.underlying22 hI hI0 hI1 hI2 rfl (by decide) (.slice (some ⟨g, 0, none⟩) (m + j) c) (m + j) xs rfl (HP.out.alloc _) ⟨wr.heap.size, 0, none⟩ 1 1 [.string ⟨#[103, 114, 111, 119, 110]⟩] rfl rfl (World.news_of_block (heap_alloc_new wr _)) (strs_one [_]) (by decide) h63 hby hb2 _ rfl ?_) | fail)
          intro g4 cap4 W9 hown4 hgrow4 hat4 hlt4
          have hlO := HO.out.lt g2 rfl
          have hne : g ≠ g2 := fun e => HNE.out (by rw [e]; rfl)
          have HB9 : Hid (Below W1.heap.size W1 W9) := by
            refine (HBr.out.alloc (by have := HBr.out.size; omega) _).trans ⟨hgrow4.os, hgrow4.tape, hgrow4.output, hgrow4.size, fun b hb => hgrow4.block b (by have := HBr.out.size; simp; omega) ?_⟩
            intro e
            simp [Value.ownBlock] at e
            have := HGG.out.1
            omega
          have HO9 : Hid (W9.ownsRow W2.heap.size 9 1 (.slice (some ⟨g2, 0, none⟩) m c2) m (strsC TT)) := (HO.out.alloc _).kept hgrow4 (.inr (by intro e; simp [Value.ownBlock] at e; omega))
          have HNE9 : Hid (g4 ≠ g2) := by
            intro e
            rcases hat4 with h | h
            · simp [Value.ownBlock] at h; omega
            · omega
          have HP9 : Hid (∃ xs, W9.ownsRow W1.heap.size 9 1 (.slice (some ⟨g4, 0, none⟩) (m + (j + 1)) cap4) (m + (j + 1)) xs) := ⟨_, hown4⟩
          clear hown4 hgrow4 hat4 hlt4 hlO hne
          go_wp2
          go_roundw
          case rel => exact ⟨j + 1, by simp, by omega, HB9, HO9, HP9, fun e => HNE9.out (by simpa [Value.ownBlock] using e)⟩
          case measure => simp [intOf]; omega
        · have e : j = 64 := by omega
          subst e
          clear HPx HNE
          go_wp2_with (go_at_call 11; fail)
          refine (HCR.out wr HBr.out).mono ?_
          rintro e X1 ⟨l5, rfl, ho1, hb1⟩
          have HX1 : Hid (Below W1.heap.size W1 X1) := HBr.out.trans (hb1.mono HBr.out.size)
          have c10 := same_yes (ts_own (ownsRow_below HO.out hb1 (Nat.le_refl _)) HTT.out) (ts_own ho1 HTT.out) (by rw [HTT.out]; omega)
          clear ho1 hb1 HO
          go_wp2_with (go_at_call 10; fail)
          refine c10.mono ?_
          rintro e X2 ⟨rfl, hb2⟩
          have HX2 : Hid (Below W1.heap.size W1 X2) := HX1.out.trans (hb2.mono HX1.out.size)
          clear c10 hb2
          go_wp2_with (go_at_call 9; fail)
          refine (HCT.out X2 HX2.out).mono ?_
          rintro e X3 ⟨l6, rfl, ho3, hb3⟩
          have HX3 : Hid (Below W1.heap.size W1 X3) := HX2.out.trans (hb3.mono HX2.out.size)
          have HO3 : Hid (X3.ownsRow X2.heap.size 9 1 l6 m (strsC TT)) := ho3
          have hl6 : ∃ g6 c6, l6 = .slice (some ⟨g6, 0, none⟩) m c6 := by obtain ⟨g, c, h, _⟩ := own_form ho3 hm0; exact ⟨g, c, h⟩
          obtain ⟨g6, c6, rfl⟩ := hl6
          clear ho3 hb3
          go_wp2_with (go_at_call 11; fail)
          refine (HCR.out X3 HX3.out).mono ?_
          rintro e X4 ⟨l7, rfl, ho4, hb4⟩
          have HX4 : Hid (Below W1.heap.size W1 X4) := HX3.out.trans (hb4.mono HX3.out.size)
          have c10 := same_yes (ts_own (ownsRow_below HO3.out hb4 (Nat.le_refl _)) HTT.out) (ts_own ho4 HTT.out) (by rw [HTT.out]; omega)
          clear ho4 hb4 HO3
          go_wp2_with (go_at_call 10; fail)
          refine c10.mono ?_
          rintro e X5 ⟨rfl, hb5⟩
          have HX5 : Hid (Below w.heap.size w X5) := HB1.out.trans ((HX4.out.trans (hb5.mono HX4.out.size)).mono HB1.out.size)
          have HL5 : T.length ≤ 8796093021952 := by have := HTl.out; omega
          have c12 := lendT_any (HT.out.next HX5.out) HL5
          rw [HTN.out] at c12
          clear c10 hb5 HL5 HBr
          go_wp2_with (go_at_call 12; fail)
          refine c12.mono ?_
          rintro e X6 ⟨rfl, ho6, hb6⟩
          have HX6 : Hid (Below w.heap.size w X6) := HX5.out.trans (hb6.mono HX5.out.size)
          have HI6 : Hid (X6.ownsRow X5.heap.size 9 1 (.slice (some ⟨X5.heap.size, 0, none⟩) (tn + 1) (tn + 1)) (tn + 1) (strsC (T ++ [⟨#[109, 97, 114, 107]⟩]))) := ho6
          have c13 := newAll X6 _ T (ts_part ho6 HTN.out) HSZ.out (HSp.out.on HX6.out)
          have HL6 : Hid (w.heap.size ≤ X5.heap.size ∧ X5.heap.size < X6.heap.size) := ⟨HX5.out.size, (Array.getElem?_eq_some_iff.1 (own_type ho6 X5.heap.size rfl).choose_spec).1⟩
          clear c12 ho6 hb6
          go_wp2_with (go_at_call 13; fail)
          refine c13.mono ?_
          rintro e X7 ⟨s7, e7, rfl, -, hb7⟩
          have HX7 : Hid (Below w.heap.size w X7) := HX6.out.trans (hb7.mono HX6.out.size)
          have HI7 : Hid (X7.ownsRow X5.heap.size 9 1 (.slice (some ⟨X5.heap.size, 0, none⟩) (tn + 1) (tn + 1)) (tn + 1) (strsC (T ++ [⟨#[109, 97, 114, 107]⟩]))) := ownsRow_below HI6.out hb7 (Nat.le_refl _)
          have HL7 : Hid (w.heap.size ≤ X5.heap.size ∧ X5.heap.size < X7.heap.size ∧ tn ≤ 6) := ⟨HL6.out.1, Nat.lt_of_lt_of_le HL6.out.2 hb7.size, by have := HTl.out; rw [HTN.out] at this; exact this⟩
          have htn6 : tn ≤ 6 := HL7.out.2.2
          clear c13 hb7 HI6 HL6 HX6 HX5 HX4 HX3 HX2 HX1 HCT HCR HSet HRSet
          go_wp2
          have HGm : Hid (X5.heap.size < X7.heap.size ∧ w.heap.size ≤ X5.heap.size) := ⟨HL7.out.2.1, HL7.out.1⟩
          obtain ⟨G, hG⟩ : ∃ G, X5.heap.size = G := ⟨_, rfl⟩
          rw [hG] at HGm HI7
          rw [hG]
          clear hG HL7
          go_loopw [11, 12] (fun u y wr => RevInv w X7.heap.size G tn T u y wr) (fun _ y _ => tn - (intOf y).toNat)
          case atStart => exact ⟨0, rfl, by omega, HX7.out, Nat.le_refl _, by simpa using HI7.out, World.ownsRow_nil _ _ _ _⟩
          case round =>
            obtain ⟨i, rfl, hi, hbr, hsr, hin, hbk⟩ := hrel
            have HBr : Hid (Below w.heap.size w wr) := hbr
            have HSr : Hid (X7.heap.size ≤ wr.heap.size) := hsr
            clear HX7 HI7 hbr hsr
            by_cases hit : i < tn
            · obtain ⟨d, hd⟩ : ∃ d, tn = d + i + 1 := ⟨tn - 1 - i, by omega⟩
              have hTi : i < T.length := by rw [HTN.out]; exact hit
              have hTd : d < T.length := by rw [HTN.out]; omega
              obtain ⟨t, ht⟩ : ∃ t, T[d]? = some t := ⟨T[d], List.getElem?_eq_getElem hTd⟩
              obtain ⟨t1, ht1⟩ : ∃ t1, T[i]? = some t1 := ⟨T[i], List.getElem?_eq_getElem hTi⟩
              have hrev : T.reverse[i]? = some t := by
                rw [List.getElem?_reverse hTi, ← ht]
                congr 1
                have := HTN.out
                omega
              have hdrop : T.drop i = t1 :: T.drop (i + 1) := by
                rw [List.drop_eq_getElem_cons hTi]
                rw [(List.getElem?_eq_some_iff.1 ht1).2]
              have htk : T.reverse.take (i + 1) = T.reverse.take i ++ [t] := by rw [List.take_add_one, hrev]; rfl
              have hlen : (T.reverse.take i).length = i := by simp; omega
              have hTS := HT.out.next HBr.out
              obtain ⟨ao', cap', he, hf⟩ := hTS
              have he' : ao = ao' := by simp only [Value.slice.injEq] at he; exact he.1
              subst he'
              obtain ⟨b, off, rfl, hc⟩ := hf (by omega)
              have hcd := hc d t ht
              rw [hdrop, List.cons_append] at hin
              have hci : wr.cell? ⟨G, i, none⟩ = some (.string t1) := by
                rw [hin.cellAt i (by omega)]
                unfold strsC
                rw [List.map_append, List.getElem?_append_right (by rw [List.length_map, hlen]; exact Nat.le_refl _), List.length_map, hlen, Nat.sub_self]
                rfl
              have hfi := hin.frozenAt i
              have hst := (hin.stored i (.string t)).1
              rw [row_set hlen] at hst
              have hst2 : (wr.setCell ⟨G, i, none⟩ (.string t)).ownsRow G 9 1 (.slice (some ⟨G, 0, none⟩) (tn + 1) (tn + 1)) (tn + 1) (strsC (T.reverse.take (i + 1) ++ (T.drop (i + 1) ++ [⟨#[109, 97, 114, 107]⟩]))) := by
                rw [htk, List.append_assoc]
                exact hst
              obtain ⟨V, hV⟩ : ∃ V, wr.setCell ⟨G, i, none⟩ (.string t) = V := ⟨_, rfl⟩
              have hVs : V.heap.size = wr.heap.size := by rw [← hV]; simp
              have HIn : Hid (V.ownsRow G 9 1 (.slice (some ⟨G, 0, none⟩) (tn + 1) (tn + 1)) (tn + 1) (strsC (T.reverse.take (i + 1) ++ (T.drop (i + 1) ++ [⟨#[109, 97, 114, 107]⟩])))) := hV ▸ hst2
              have HBk : Hid (V.ownsRow X7.heap.size 9 1 u11 i (strsC (T.reverse.take i))) := hV ▸ own_set hbk _ HGm.out.1
              have HBV : Hid (Below w.heap.size w V) := hV ▸ HBr.out.setCell (p := ⟨G, i, none⟩) HGm.out.2 _
              have hcV : V.cell? ⟨G, i, none⟩ = some (.string t) := by rw [← hV]; exact cell_set_eq hci
              have HVS : Hid (V.heap.size = wr.heap.size ∧ strsC (T.reverse.take i) ++ [.string t] = strsC (T.reverse.take (i + 1))) := ⟨hVs, strsC_take hrev⟩
              have hsub : (tn : Int) - 1 - (i : Int) = (d : Int) := by omega
              have hd0 : (0 : Int) ≤ (d : Int) := by omega
              have hdt : (d : Int) < (tn : Int) := by omega
              have hiI : (i : Int) < (tn : Int) := by omega
              have h63 : i + 1 ≤ maxLen := by unfold maxLen; omega
              have hby : (i + 1) * 16 ≤ 140737488355328 := by omega
              have hb2 : X7.heap.size ≤ (V.alloc (.cells #[.string t] 9)).heap.size := by have := HSr.out; simp; omega
              have HD : Hid (tn = d + i + 1) := hd
              clear hf hc he hin hbk hst hst2 hrev hdrop htk hlen ht ht1 hTi hTd hVs hd
              go_wp2_with (first | (at_builtin; refine wpList_append_lies _ rfl (.tmp 96) (.tmp 101) 22 rfl X7.heap.size 9 i0 _ 1 16 Tryd.underlying22 hI hI0 hI1 hI2 rfl (by decide) u11 i (strsC (T.reverse.take i)) rfl (HBk.out.alloc _) ⟨V.heap.size, 0, none⟩ 1 1 [.string t] rfl rfl (World.news_of_block (heap_alloc_new V _)) (strs_one [_]) (by decide) h63 hby hb2 _ rfl ?_) | fail)
              intro g4 cap4 W9 hown4 hgrow4 hat4 hlt4
              rw [HVS.out.2] at hown4
              have hobk : ∀ b, u11.ownBlock = some b → X7.heap.size ≤ b := fun b hb => (HBk.out.lt b hb).1
              have HB9 : Hid (Below w.heap.size w W9) := by
                refine (HBV.out.alloc (by have := HBV.out.size; omega) _).trans ⟨hgrow4.os, hgrow4.tape, hgrow4.output, hgrow4.size, fun b hb => hgrow4.block b (by have := HBV.out.size; simp; omega) ?_⟩
                intro e
                have := hobk b e.symm
                have h1 := HGm.out.1
                have h2 := HGm.out.2
                omega
              have HI9 : Hid (W9.ownsRow G 9 1 (.slice (some ⟨G, 0, none⟩) (tn + 1) (tn + 1)) (tn + 1) (strsC (T.reverse.take (i + 1) ++ (T.drop (i + 1) ++ [⟨#[109, 97, 114, 107]⟩])))) := (HIn.out.alloc _).kept hgrow4 (.inr (by
                intro e
                have := hobk G e.symm
                have h1 := HGm.out.1
                omega))
              have HS9 : Hid (X7.heap.size ≤ W9.heap.size) := by have h1 := hgrow4.size; have h2 := hb2; exact Nat.le_trans h2 h1
              have HO9 : Hid (W9.ownsRow X7.heap.size 9 1 (.slice (some ⟨g4, 0, none⟩) (i + 1) cap4) (i + 1) (strsC (T.reverse.take (i + 1)))) := hown4
              clear hown4 hgrow4 hat4 hlt4 hobk
              go_wp2
              go_roundw
              case rel => exact ⟨i + 1, by simp, by omega, HB9.out, HS9.out, HI9.out, HO9.out⟩
              case measure => simp [intOf]; omega
            · have e : tn = i := by omega
              subst e
              have hd0 : T.drop tn = [] := List.drop_eq_nil_of_le (by rw [HTN.out]; exact Nat.le_refl _)
              have ht0 : T.reverse.take tn = T.reverse := List.take_of_length_le (by rw [List.length_reverse, HTN.out]; exact Nat.le_refl _)
              rw [hd0, ht0, List.nil_append] at hin
              rw [ht0] at hbk
              have HRL : Hid (T.reverse.length = tn) := by show _ = _; rw [List.length_reverse, HTN.out]
              have HIn : Hid (wr.ownsRow G 9 1 (.slice (some ⟨G, 0, none⟩) (tn + 1) (tn + 1)) (tn + 1) (strsC (T.reverse ++ [⟨#[109, 97, 114, 107]⟩]))) := hin
              have HBk : Hid (wr.ownsRow X7.heap.size 9 1 u11 tn (strsC T.reverse)) := hbk
              have HRZ : Hid (∀ s ∈ T.reverse, s.size ≤ 140737488351232) := fun s hs => HSZ.out s (List.mem_reverse.1 hs)
              obtain ⟨T2, hT2⟩ : ∃ T2, T.reverse = T2 := ⟨_, rfl⟩
              rw [hT2] at HIn HBk HRZ HRL
              have c13 := newAll wr _ T2 (ts_part HIn.out HRL.out) HRZ.out (HSp.out.on HBr.out)
              clear hin hbk hT2 hd0 ht0
              obtain ⟨r, hr⟩ : ∃ r, newS T2 = r := ⟨_, rfl⟩
              have HR : Hid (newS T2 = r) := hr
              have HE : Hid (∀ a c, errOf r = some (a, c) → (c != 0) = true) := fun a c h => newS_err T2 a c (hr ▸ h)
              rw [hr] at c13
              clear hr
              go_wp2_with (go_at_call 13; fail)
              refine c13.mono ?_
              rintro e Y1 ⟨s, er, rfl, hnew, hb1⟩
              have HY1 : Hid (Below w.heap.size w Y1) := HBr.out.trans (hb1.mono HBr.out.size)
              have HNew : Hid (NewAt Y1 wr.heap.size s er r) := hnew
              have c14 := rnewAll Y1 u11 T2 (ts_own (ownsRow_below HBk.out hb1 (Nat.le_refl _)) HRL.out) HRZ.out
              rw [HR.out] at c14
              have HLo : Hid (G < wr.heap.size ∧ G < Y1.heap.size) := ⟨Nat.lt_of_lt_of_le HGm.out.1 HSr.out, Nat.lt_of_lt_of_le (Nat.lt_of_lt_of_le HGm.out.1 HSr.out) hb1.size⟩
              clear c13 hnew hb1
              go_wp2_with (go_at_call 14; fail)
              refine c14.mono ?_
              rintro e Y2 ⟨k, f, rfl, hrnew, hb2⟩
              have hboth := both_of (HNew.out.on hb2) hrnew HLo.out.1 HLo.out.2
              obtain ⟨hB, hpe, hre, fa, fl, fc, fn, rfl⟩ := hboth
              have HY2 : Hid (Below w.heap.size w Y2) := HY1.out.trans (hb2.mono HY1.out.size)
              obtain ⟨Y3, hY3⟩ : ∃ Y3, Y2.alloc (.cells #[.slice fa fl fc, .int .i64 fn] 36) = Y3 := ⟨_, rfl⟩
              have hb3 : Below Y2.heap.size Y2 Y3 := hY3 ▸ (Below.refl _ _).alloc (Nat.le_refl _) _
              have x0 : Y3.cell? ⟨Y2.heap.size, 0, none⟩ = some (.slice fa fl fc) := by rw [← hY3]; simp
              have x1 : Y3.cell? ⟨Y2.heap.size, 1, none⟩ = some (.int .i64 fn) := by rw [← hY3]; simp
              have c15 := is_yes (hpe.next hb3) (hre.next hb3) HE.out
              have HY3 : Hid (Below w.heap.size w Y3) := HY2.out.trans (hb3.mono HY2.out.size)
              have hB3 := hB.on hb3
              clear c14 hrnew hb2 hb3 hB hpe hre HNew
              cases r with
              | inl a =>
                obtain ⟨rfl, rfl⟩ := hB3
                go_wp2_with (go_at_call 15; refine c15.mono ?_; rintro e Y4 ⟨rfl, hb4⟩)
                go_ret
                exact ⟨rfl, HY3.out.trans (hb4.mono HY3.out.size)⟩
              | inr Nx =>
                obtain ⟨N2, x2⟩ := Nx
                obtain ⟨q', v', R', p', v2', H', rfl, rfl, -, -, -, hset, hnames, hrset⟩ := hB3
                obtain ⟨hG2, hN0, hN6⟩ := newS_good HR.out
                have hRl : R'.length = N2.length := by rw [← hnames, names_len]
                obtain ⟨r1, R1, rfl⟩ : ∃ r1 R1, R' = r1 :: R1 := by
                  cases R' with
                  | nil => simp at hRl; omega
                  | cons a b => exact ⟨a, b, rfl⟩
                have hTT : termsOf (r1 :: R1) = rterms N2 x2 := by rw [names_terms, hnames, good_terms hG2]
                have HSet : Hid (SetAt Y3 q' v' (r1 :: R1) x2) := hset
                have HRSet : Hid (RSetAt Y3 H' p' v2' N2 x2) := hrset
                have HNN : Hid ((r1 :: R1).length = N2.length ∧ N2.length ≤ 6 ∧ 0 < N2.length ∧ Good x2 N2 ∧ termsOf (r1 :: R1) = rterms N2 x2) := ⟨hRl, hN6, hN0, hG2, hTT⟩
                clear hset hrset hnames hRl hTT hG2 hN0 hN6
                go_wp2_with (first | (go_at_call 15; refine c15.mono ?_; rintro e Y4 ⟨rfl, hb4⟩) | (go_at_call 9; fail))
                have HY4 : Hid (Below w.heap.size w Y4) := HY3.out.trans (hb4.mono HY3.out.size)
                have c9 := terms_any Y4 q' v' r1 R1 x2 (by rw [HNN.out.1]; exact HNN.out.2.1) (HSet.out.on hb4)
                have HRS4 : Hid (RSetAt Y4 H' p' v2' N2 x2) := HRSet.out.on hb4
                clear hb4 c15 x0 x1
                refine c9.mono ?_
                rintro e Y5 ⟨la, rfl, hoa, hb5⟩
                have HY5 : Hid (Below w.heap.size w Y5) := HY4.out.trans (hb5.mono HY4.out.size)
                have HOa : Hid (Y5.ownsRow Y4.heap.size 9 1 la (r1 :: R1).length (strsC (termsOf (r1 :: R1)))) := hoa
                have c11 := rterms_any Y5 H' p' v2' N2 x2 HNN.out.2.1 (fun r hr => (HNN.out.2.2.2.1 r hr).1) (HRS4.out.on hb5)
                clear c9 hoa hb5
                go_wp2_with (go_at_call 11; fail)
                refine c11.mono ?_
                rintro e Y6 ⟨lb, rfl, hob, hb6⟩
                have HY6 : Hid (Below w.heap.size w Y6) := HY5.out.trans (hb6.mono HY5.out.size)
                have hlt : (rterms N2 x2).length = N2.length := by unfold rterms; rw [List.length_map]
                have hoa6 := ownsRow_below HOa.out hb6 (Nat.le_refl _)
                rw [HNN.out.2.2.2.2, HNN.out.1] at hoa6
                have c10 := same_yes (ts_own hoa6 hlt) (ts_own hob hlt) (by rw [hlt]; have := HNN.out.2.1; omega)
                clear c11 hob hb6 hoa6 HOa hlt
                go_wp2_with (go_at_call 10; refine c10.mono ?_; rintro e Y7 ⟨rfl, hb7⟩)
                go_ret
                exact ⟨rfl, HY6.out.trans (hb7.mono HY6.out.size)⟩

theorem begins_any (w : World) (v : Value) (T : List ByteArray) (hT : TS w v T) (hl : T.length ≤ 8796093021952) (hsz : ∀ s ∈ T, s.size ≤ 140737488351232) (hS : Spell w) :
    Calls Tryd.prog 3 #[v] w fun e w' => e = .returned (.bool true) ∧ Below w.heap.size w w' := by
  cases hr : newS T with
  | inl a => exact begins_no w v T a hr hT hl hsz hS
  | inr x =>
    obtain ⟨N, x⟩ := x
    refine begins_yes w v T N x hr hT ?_ hsz hS
    by_cases h6 : 6 < T.length
    · unfold newS at hr
      rw [if_pos h6] at hr
      cases hr
    · omega
end Go.Proofs.YtmhjjpdfjilobaaDoor
