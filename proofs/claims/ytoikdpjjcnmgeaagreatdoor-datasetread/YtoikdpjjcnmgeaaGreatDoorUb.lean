import Derived.Test.YtoikdpjjcnmgeaaGreatDoorUa
/-
  DERIVED. What is read is a data set: span by span. Plain functions.
-/
namespace Go.Proofs.YtoikdpjjcnmgeaaGreatDoor
open Go Go.Proofs Go.RowKit
open Wk (Nd goN)

/-- Out of a span: so many nodes more, and they are well formed. -/
def OutW (ys : List UInt8) (n : Nat) (M : List Nd) (sp : Sp) (rest : List Sp) (M' : List Nd) (d : Nat) : Prop :=
  ∃ (m k' c : Nat) (X : List Nd), m < n ∧ EndsN (srcS ys) m k' (bump M sp.node c ++ X) rest (.ok M') ∧ PI ys.length k' (bump M sp.node c ++ X) rest ∧ wt elemOk itemOk X.length sp.it d (sp.last : Int) c X ∧ (sp.ex = false → ∀ a ∈ X, Pln a)
theorem outW_none {ys : List UInt8} {n k : Nat} {M : List Nd} {sp : Sp} {rest : List Sp} {M' : List Nd} {d : Nat} (h : EndsN (srcS ys) n k M rest (.ok M')) (hP : PI ys.length k M rest) : OutW ys (n + 1) M sp rest M' d :=
  ⟨n, k, 0, [], by omega, by rw [bump_zero, List.append_nil]; exact h, by rw [bump_zero, List.append_nil]; exact hP, wt_nil _ _ _ _ _ _, fun _ a ha => nomatch ha⟩
theorem push_eq {M : List Nd} {p : Option Nat} {t : Int} {v : Int} {c1 c2 : Nat} {X1 X2 : List Nd} (hp : ∀ i, p = some i → i < M.length) :
    bump (bump (bump M p 1 ++ [(⟨t, v, 0, ByteArray.empty⟩ : Nd)]) (some M.length) c1 ++ X1) p c2 ++ X2 = bump M p (c2 + 1) ++ ((⟨t, v, (c1 : Int), ByteArray.empty⟩ : Nd) :: (X1 ++ X2)) := by
  rw [show M.length = (bump M p 1).length by rw [bump_len], bump_last, List.append_assoc, bump_app (fun i e => by rw [bump_len]; exact hp i e), bump_add, Nat.add_comm 1 c2, List.append_assoc]
  congr 1
  simp
theorem it_ok (c : Nat) : itemOk ⟨4294893568, 29, (c : Int), ByteArray.empty⟩ = true := by
  unfold itemOk
  simp only [Bool.and_eq_true, decide_eq_true_eq]
  exact ⟨trivial, trivial, nil_list, by omega⟩

set_option maxRecDepth 10000 in
theorem ends_wt (ys : List UInt8) : ∀ (n k : Nat) (M : List Nd) (sp : Sp) (rest : List Sp) (M' : List Nd), EndsN (srcS ys) n k M (sp :: rest) (.ok M') → PI ys.length k M (sp :: rest) → ∀ d, rest.length = (if sp.it = true then 2 * d + 1 else 2 * d) → OutW ys n M sp rest M' d := by
  intro n
  induction n using Nat.strongRecOn with
  | ind n ih =>
  intro k M sp rest M' h hPI d hd
  cases h with
  | go hs hr =>
  rename_i n k' M1 st'
  obtain ⟨hP, -⟩ := hPI.next (src_ok ys) hs
  have hnd : ∀ i, sp.node = some i → i < M.length := hPI.nd sp List.mem_cons_self
  unfold step at hs
  split at hs
  · cases hs
    exact outW_none hr hP
  split at hs
  · cases hs
  rename_i h8
  split at hs
  · split at hs
    · cases hs
    · cases hs
      exact outW_none hr hP
  split at hs
  · rename_i hit
    rw [if_pos hit] at hd
    unfold stepI at hs
    split at hs
    · cases hs
    split at hs
    · cases hs
    split at hs
    · cases hs
    rename_i hdeep
    split at hs
    · cases hs
    split at hs
    · cases hs
    cases hs
    obtain ⟨m1, k1, c1, X1, l1, e1, p1, w1, q1⟩ := ih n (by omega) _ _ _ _ _ hr hP (d + 1) (by
      rw [if_neg (show ¬ false = true by decide), List.length_cons, hd]
      omega)
    obtain ⟨m2, k2, c2, X2, l2, e2, p2, w2, q2⟩ := ih m1 (by omega) _ _ _ _ _ e1 p1 d (by rw [if_pos hit, hd])
    have hpe := push_eq (t := 4294893568) (v := 29) (c1 := c1) (c2 := c2) (X1 := X1) (X2 := X2) hnd
    refine ⟨m2, k2, c2 + 1, _, by omega, by rw [← hpe]; exact e2, by rw [← hpe]; exact p2, ?_, ?_⟩
    · rw [hit] at w2 ⊢
      refine wt_cons (t2 := (sp.last : Int)) (d2 := d + 1) (c1 := c1) ?_ ?_ rfl w1 w2 (fun e => by cases e)
      · rw [if_pos rfl]
        exact ⟨it_ok c1, by omega⟩
      · show ((c1 : Int)).toNat = c1
        omega
    · intro hx a ha
      rcases List.mem_cons.1 ha with rfl | ha
      · exact .inl rfl
      rcases List.mem_append.1 ha with ha | ha
      · exact q1 hx a ha
      · exact q2 hx a ha
  · rename_i hit
    rw [if_neg hit] at hd
    have hitf : sp.it = false := by simpa using hit
    unfold stepE at hs
    split at hs
    · cases hs
    rename_i hbar
    have hb1 : isBar (tagS ys k) = false := by
      rcases hq : isBar (tagS ys k) with _ | _
      · rfl
      · exact absurd (.inl hq) hbar
    have hb2 : sp.last < tagS ys k := by
      have : ¬ tagS ys k ≤ sp.last := fun e => hbar (.inr e)
      omega
    split at hs
    · cases hs
    rename_i hd0 hh
    obtain ⟨g1, g2, g3, g4, g5⟩ := (src_ok ys).hd _ _ _ _ (by omega) hb1 hh
    unfold stepB at hs
    split at hs
    · cases hs
    rename_i hbl
    split at hs
    · cases hs
    rename_i hlong
    split at hs
    · cases hs
    rename_i hshort
    split at hs
    · cases hs
      obtain ⟨m2, k2, c2, X2, l2, e2, p2, w2, q2⟩ := ih n (by omega) _ _ _ _ _ hr hP d (by rw [if_neg (by show ¬ sp.it = true; exact hit), hd])
      refine ⟨m2, k2, c2, X2, by omega, e2, p2, ?_, q2⟩
      have w2 : wt elemOk itemOk X2.length sp.it d ((tagS ys k : Nat) : Int) c2 X2 := w2
      rw [hitf] at w2 ⊢
      exact wt_low w2 (by omega)
    rename_i htag
    have htag : tagS ys k % 65536 ≠ 0 := htag
    split at hs
    · cases hs
    have hexq : sp.ex = false → hd0.ex = false ∧ (hd0.v = 18 ∨ (kn (tagS ys k)).isSome = true ∨ hd0.v = dflt (tagS ys k)) := fun hx => by
      rw [hx] at hh
      have hh : (Sum.inr (hdI ys k) : Nat ⊕ Hd) = .inr hd0 := hh
      cases hh
      refine ⟨rfl, ?_⟩
      show (if numS ys (k + 4) = und ∧ (kn (tagS ys k)).isSome = false ∧ tagS ys k % 65536 ≠ 0 then 18 else dflt (tagS ys k)) = 18 ∨ _ ∨ (if numS ys (k + 4) = und ∧ (kn (tagS ys k)).isSome = false ∧ tagS ys k % 65536 ≠ 0 then 18 else dflt (tagS ys k)) = _
      split
      · exact .inl rfl
      · exact .inr (.inr rfl)
    split at hs
    · rename_i hv
      cases hs
      obtain ⟨m1, k1, c1, X1, l1, e1, p1, w1, q1⟩ := ih n (by omega) _ _ _ _ _ hr hP d (by
        rw [if_pos rfl, List.length_cons, hd])
      obtain ⟨m2, k2, c2, X2, l2, e2, p2, w2, q2⟩ := ih m1 (by omega) _ _ _ _ _ e1 p1 d (by rw [if_neg (by show ¬ sp.it = true; exact hit), hd])
      have hpe := push_eq (t := ((srcS ys).tag k : Int)) (v := 18) (c1 := c1) (c2 := c2) (X1 := X1) (X2 := X2) hnd
      refine ⟨m2, k2, c2 + 1, _, by omega, by rw [← hpe]; exact e2, by rw [← hpe]; exact p2, ?_, ?_⟩
      · have w2 : wt elemOk itemOk X2.length sp.it d ((tagS ys k : Nat) : Int) c2 X2 := w2
        rw [hitf] at w2 ⊢
        refine wt_cons (t2 := ((tagS ys k : Nat) : Int)) (d2 := d) (c1 := c1) ?_ ?_ rfl w1 w2 (fun _ => rfl)
        · rw [if_neg (by decide)]
          exact ⟨sq_elem c1 hh hb1 htag hv, by show (sp.last : Int) < ((tagS ys k : Nat) : Int); omega⟩
        · show ((c1 : Int)).toNat = c1
          omega
      · intro hx a ha
        rcases List.mem_cons.1 ha with rfl | ha
        · exact .inr (.inl rfl)
        rcases List.mem_append.1 ha with ha | ha
        · exact q1 (hexq hx).1 a ha
        · exact q2 hx a ha
    · rename_i hv
      have hundef : hd0.len ≠ und := fun hu => by
        apply hbl
        unfold badLen
        simp [hu, hv]
      have heven : hd0.len % 2 = 0 := by
        rcases Nat.mod_two_eq_zero_or_one hd0.len with e | e
        · exact e
        · exfalso
          apply hbl
          unfold badLen
          simp [hundef, e]
      have hl : hd0.len ≤ 65534 := by
        have : ¬ 65534 < hd0.len := fun e => hlong ⟨hv, e⟩
        omega
      have hfit : k + hd0.sz + hd0.len ≤ ys.length := by
        have h1 : ¬ sp.fin - k - hd0.sz < hd0.len := fun e => hshort ⟨hundef, e⟩
        have h2 := hPI.le
        omega
      cases hs
      obtain ⟨m2, k2, c2, X2, l2, e2, p2, w2, q2⟩ := ih n (by omega) _ _ _ _ _ hr hP d (by rw [if_neg (by show ¬ sp.it = true; exact hit), hd])
      have hpe : bump (bump M sp.node 1 ++ [(⟨((srcS ys).tag k : Int), hd0.v, 0, (srcS ys).val hd0.v (k + hd0.sz) hd0.len⟩ : Nd)]) sp.node c2 ++ X2 = bump M sp.node (c2 + 1) ++ ((⟨((srcS ys).tag k : Int), hd0.v, 0, (srcS ys).val hd0.v (k + hd0.sz) hd0.len⟩ : Nd) :: ([] ++ X2)) := by
        rw [bump_app (fun i e => by rw [bump_len]; exact hnd i e), bump_add, Nat.add_comm 1 c2, List.append_assoc]
        rfl
      refine ⟨m2, k2, c2 + 1, _, by omega, by rw [← hpe]; exact e2, by rw [← hpe]; exact p2, ?_, ?_⟩
      · have w2 : wt elemOk itemOk X2.length sp.it d ((tagS ys k : Nat) : Int) c2 X2 := w2
        rw [hitf] at w2 ⊢
        refine wt_cons (t2 := ((tagS ys k : Nat) : Int)) (d2 := d) (c1 := 0) ?_ rfl rfl (wt_nil _ _ _ _ _ _) w2 (fun _ => rfl)
        rw [if_neg (by decide)]
        exact ⟨pl_elem hh hb1 htag hv ⟨g4, g5⟩ hl heven (.inr hfit), by show (sp.last : Int) < ((tagS ys k : Nat) : Int); omega⟩
      · intro hx a ha
        rcases List.mem_cons.1 ha with rfl | ha
        · rcases (hexq hx).2 with e | e | e
          · exact absurd e hv
          · exact .inr (.inr (.inl e))
          · exact .inr (.inr (.inr e))
        · exact q2 hx a (by simpa using ha)

theorem top_pi (n : Nat) (x : Bool) : PI n 0 [] [topS n x] := by
  refine ⟨⟨Nat.zero_le _, trivial⟩, ?_, by simp, MOk.nil, ?_, ?_⟩
  · intro y hy
    rw [List.mem_singleton.1 hy]
    exact Nat.le_refl _
  · intro y hy p e
    rw [List.mem_singleton.1 hy] at e
    cases e
  · intro y hy
    rw [List.mem_singleton.1 hy]
    show (0 : Nat) < _
    decide
/-- What Decode tells is a data set; without VRs it has those of its tags. -/
theorem okd_res {s : Int} {ys : List UInt8} {M : List Nd} (h : OkD s ys M) : (res M).2 = true ∧ TagsOk M ∧ M.map (bkN (decide (s = 2))) = M := by
  obtain ⟨h1, h2, h3⟩ := h
  have hM := h3.fine (src_ok ys) (top_pi ys.length (decide (s = 2))).ns MOk.nil M rfl
  obtain ⟨n, hn⟩ := h3.count
  obtain ⟨m, k', c, X, -, e, -, w, q⟩ := ends_wt ys n 0 [] _ [] M hn (top_pi _ _) 0 rfl
  have hx : M = X := by
    cases e
    rfl
  subst hx
  have hr : (res M).2 = true := wt_run0 elem_n item_n _ _ _ _ w 0 0 (by have := hM.l; omega)
  refine ⟨hr, fun x hx => ⟨(hM.a x hx).t0, (hM.a x hx).t1⟩, ?_⟩
  by_cases h2' : s = 2
  · rw [decide_eq_true h2']
    exact List.map_id _
  · rw [decide_eq_false h2'] at q ⊢
    have q := q rfl
    have hwf := wt_wf _ _ _ _ _ _ w
    have hall : ∀ (f : Nat) (b : Bool) (L : List Nd), wf elemOk itemOk f b L → ∀ a ∈ L, a.v = 29 ∨ elemOk a = true := by
      intro f
      induction f with
      | zero => intro b L hw a ha; obtain rfl : L = [] := hw; cases ha
      | succ f ih =>
        intro b L hw a ha
        cases L with
        | nil => cases ha
        | cons y r =>
          obtain ⟨w1, w2, w3⟩ := hw
          rcases List.mem_cons.1 ha with rfl | ha
          · cases b with
            | false => exact .inr (by simpa using w1)
            | true => exact .inl (item_all (by simpa using w1)).2.1
          · rw [← List.take_append_drop (goN r y.n.toNat) r] at ha
            rcases List.mem_append.1 ha with ha | ha
            · exact ih _ _ w2 a ha
            · exact ih _ _ w3 a ha
    have hm : ∀ a ∈ M, bkN false a = id a := fun a ha => (q a ha).im (hall _ _ _ hwf a ha)
    rw [List.map_congr_left hm, List.map_id]
end Go.Proofs.YtoikdpjjcnmgeaaGreatDoor
