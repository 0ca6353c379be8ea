import Derived.Test.YtoikdpjjcnmgeaaGreatDoorBl
import Derived.Test.YtoikdpjjcnmgeaaGreatDoorBn
/-
  DERIVED. Bytes that are cut within an element are refused. Plain functions.
-/
namespace Go.Proofs.YtoikdpjjcnmgeaaGreatDoor
open Go Go.Proofs Go.RowKit
open Wk (Nd goN)

theorem At.pre {zs l : List UInt8} {k cut : Nat} (h : At zs k l) (hc : k + l.length ≤ cut) : At (zs.take cut) k l := by
  obtain ⟨r, h⟩ := h
  refine ⟨r.take (cut - k - l.length), ?_⟩
  rw [List.drop_take, h, List.take_append]
  congr 1
  exact List.take_of_length_le (by omega)
theorem few_bad {S : Src} {m d k : Nat} {mk : Option Nat → Sp} (h1 : ∀ nd, (mk nd).opn = true ∨ k < (mk nd).fin) (h2 : ∀ nd, (mk nd).fin - k < 8) : BadFor S m d mk k k 122 := fun _ nd _ _ _ _ => .bad (zs_few (h1 nd) (h2 nd))
/-- An item that goes past the end. -/
theorem item_bad {x : Bool} {ys : List UInt8} {k fin m d z : Nat} (hd : d + 1 ≤ 4) (hze : z % 2 = 0) (hzs : z < 4294967295) (hA : At ys k ((encOf x).ih z)) (h8 : k + 8 ≤ fin) (hf : fin < k + 8 + z) : BadFor (srcS ys) m (2 * d + 1) (isp fin true x) k k 122 := fun M nd rest _ _ hr => by
  have hA : At ys k (plL 4294893568 z) := by cases x <;> exact hA
  obtain ⟨e1, e2⟩ := at_pl hA (by decide) (by omega)
  have e1 : (srcS ys).tag k = 4294893568 := e1
  have e2 : (srcS ys).num (k + 4) = z := e2
  have hnu : z ≠ und := by unfold und; omega
  refine .bad ?_
  rw [zs_in (.inl rfl) (show ¬ fin - k < 8 by omega) (fun e => by rw [e1] at e; have e := e.2; revert e; show ¬ 4294893568 = 4294893789; decide)]
  show stepI (srcS ys) k M (isp fin true x nd) rest = _
  unfold stepI
  rw [if_neg (fun h => h e1), e2, if_neg (fun h => by have := h.2; omega), if_neg (by rw [hr]; omega), if_pos ⟨hnu, show fin - k - 8 < z by omega⟩]
theorem GoesFor.thenBad {S : Src} {m d : Nat} {mk mk' : Option Nat → Sp} {k k' cnt : Nat} {X : List Nd} {a c : Nat} (h : GoesFor S m d mk mk' k k' cnt X) (hs : BadFor S (m + X.length) d mk' k' a c) : BadFor S m d mk k a c := fun M nd rest h1 h2 h3 =>
  h M nd rest _ h1 h2 h3 (hs _ nd rest (by rw [List.length_append, bump_len, h1]) (fun i e => by have := h2 i e; omega) h3)

/-- A sequence without a length that is cut. -/
theorem seq_cut (x : Bool) (zs : List UInt8) (cut : Nat) (hcut : cut ≤ 1048576) : ∀ (f : Nat) (d : Nat) (t : Int) (c : Nat) (M : List Nd), M.length ≤ f → wt elemOk itemOk f true d t c M → (∀ a ∈ M, 0 ≤ a.t ∧ a.t < 4294967296) → ∀ (k m : Nat), At zs k ((encOf x).layD f true M) → k ≤ cut → cut < k + (encOf x).szD f true M + 8 → k + (encOf x).szD f true M ≤ 1048576 → m + M.length ≤ 4096 →
    ∃ p q, BadFor (srcS (zs.take cut)) m (2 * d + 1) (isp cut true x) k p q := by
  intro f
  induction f with
  | zero =>
    intro d t c M hf hw _ k m hA hk hc hl hm
    obtain ⟨rfl, rfl⟩ := hw
    rw [szD_nil] at hc
    exact ⟨k, 122, few_bad (fun _ => .inl rfl) (fun _ => by show cut - k < 8; omega)⟩
  | succ f ih =>
    intro d t c M hf hw hT k m hA hk hc hl hm
    cases M with
    | nil =>
      rw [szD_nil] at hc
      exact ⟨k, 122, few_bad (fun _ => .inl rfl) (fun _ => by show cut - k < 8; omega)⟩
    | cons a r =>
      obtain ⟨h0, h1, h2, h3⟩ := hw
      have h1 : itemOk a = true ∧ d + 1 ≤ 4 := h1
      have h2 : wt elemOk itemOk f false (d + 1) 0 a.n.toNat (r.take (goN r a.n.toNat)) := h2
      have hTi : ∀ y ∈ r.take (goN r a.n.toNat), 0 ≤ y.t ∧ y.t < 4294967296 := fun y hy => hT y (List.mem_cons_of_mem _ (List.mem_of_mem_take hy))
      have hTr : ∀ y ∈ r.drop (goN r a.n.toNat), 0 ≤ y.t ∧ y.t < 4294967296 := fun y hy => hT y (List.mem_cons_of_mem _ (List.mem_of_mem_drop hy))
      have hrf : r.length ≤ f := by simp at hf; omega
      have hlen : (r.take (goN r a.n.toNat)).length + (r.drop (goN r a.n.toNat)).length = r.length := by rw [← List.length_append, List.take_append_drop]
      have hm' : m + (r.length + 1) ≤ 4096 := hm
      have hw2 := wt_wf f _ _ _ _ _ h2
      have hl2 := lay_len x hw2 (by omega)
      have hze := szD_even x hw2
      have hh : ∀ n, ((encOf x).ih n).length = 8 := fun n => by cases x <;> exact plL_len _ _
      rw [Enc.layD] at hA
      rw [Enc.szD] at hc hl
      by_cases h8 : cut < k + 8
      · exact ⟨k, 122, few_bad (fun _ => .inl rfl) (fun _ => by show cut - k < 8; omega)⟩
      have hAh : At (zs.take cut) k ((encOf x).ih ((encOf x).szD f false (r.take (goN r a.n.toNat)))) := hA.left.left.pre (by rw [hh]; omega)
      by_cases hz : cut < k + 8 + (encOf x).szD f false (r.take (goN r a.n.toNat))
      · exact ⟨k, 122, item_bad h1.2 hze (by omega) hAh (by omega) hz⟩
      have hAi := (hA.left.right' (hh _)).pre (cut := cut) (by rw [hl2]; omega)
      have hAr := hA.right' (n := 8 + (encOf x).szD f false (r.take (goN r a.n.toNat))) (by rw [List.length_append, hh, hl2])
      have g1 := back_item (x := x) (opn := true) (ys := zs.take cut) (a := a) (k := k) (fin := cut) (m := m) (d := d) (z := (encOf x).szD f false (r.take (goN r a.n.toNat))) (X := (r.take (goN r a.n.toNat)).map (bkN x)) h1.1 h1.2 hze hAh (by omega) hcut (by omega)
        ((back x (zs.take cut) f false (d + 1) 0 _ _ (by omega) h2 hTi (Int.le_refl 0) (k + 8) (k + 8 + (encOf x).szD f false (r.take (goN r a.n.toNat))) (m + 1) false (fun _ => rfl) hAi (Nat.le_refl _) (by omega) (by omega)).1 rfl)
      obtain ⟨p, q, hb⟩ := ih d a.t (c - 1) _ (by omega) h3 hTr (k + 8 + (encOf x).szD f false (r.take (goN r a.n.toNat))) (m + (bkN x a :: (r.take (goN r a.n.toNat)).map (bkN x)).length) (by
        rw [Nat.add_assoc k]
        exact hAr) (by omega) (by omega) (by omega) (by simp only [List.length_cons, List.length_map]; omega)
      exact ⟨p, q, g1.thenBad hb⟩
theorem el_over {S : Src} {m d k fin last : Nat} {x : Bool} {c : Nat} (h8 : k + 8 ≤ fin) (h : isBar (S.tag k) = false) (ht : last < S.tag k) (hh : S.hd x k fin = .inl c) : BadFor S m d (rsp fin false x last) k k c := fun M nd rest _ _ _ => by
  refine .bad ?_
  rw [zs_in (.inr (show k < fin by omega)) (show ¬ fin - k < 8 by omega) (fun e => by have e1 : false = true := e.1; cases e1)]
  show stepE S k M (rsp fin false x last nd) rest = _
  unfold stepE
  rw [if_neg (fun e => by
    rcases e with e | e
    · rw [h] at e; cases e
    · have e : S.tag k ≤ last := e
      omega)]
  show (match S.hd x k fin with
    | .inl c => Res.bad k c
    | .inr h => stepB S k M (rsp fin false x last nd) rest h) = _
  rw [hh]
theorem el_low {S : Src} {m d k fin last : Nat} {x : Bool} (h8 : k + 8 ≤ fin) (ht : S.tag k ≤ last) : BadFor S m d (rsp fin false x last) k k 123 := fun M nd rest _ _ _ => by
  refine .bad ?_
  rw [zs_in (.inr (show k < fin by omega)) (show ¬ fin - k < 8 by omega) (fun e => by have e1 : false = true := e.1; cases e1)]
  show stepE S k M (rsp fin false x last nd) rest = _
  unfold stepE
  rw [if_pos (.inr ht)]
/-- A long head that is cut. -/
theorem hd_cut {zs : List UInt8} {k cut n : Nat} {a : Nd} (ha : elemOk a = true) (h0 : 0 ≤ a.t) (ht : a.t < 4294967296) (hA : At zs k ((encOf true).hd a n)) (h8 : k + 8 ≤ cut) (hc : cut < k + (encOf true).hs a) (m d last : Nat) : ∃ q, BadFor (srcS (zs.take cut)) m d (rsp cut false true last) k k q := by
  obtain ⟨h1, h2⟩ := elem_may ha
  obtain ⟨hv1, hv2, -⟩ := elem_vr ha
  obtain ⟨m1, m2, m3, m4⟩ := may_tag h1
  have hc : cut < k + (if Rp.lo (Rp.vn a.v) = true then 12 else 8) := hc
  have hlo : Rp.lo (Rp.vn a.v) = true := by
    rcases hq : Rp.lo (Rp.vn a.v) with _ | _
    · rw [hq, if_neg (by decide)] at hc; omega
    · rfl
  rw [if_pos hlo] at hc
  have hA : At zs k (if a.v = 29 then plL a.t.toNat n else exL a.t.toNat a.v n) := hA
  rw [if_neg (by omega)] at hA
  unfold exL at hA
  have hB : At (zs.take cut) k (tagL a.t.toNat ++ ltr a.v) := hA.left.pre (by rw [List.length_append, tagL_len, ltr_len ⟨hv1, hv2⟩]; omega)
  have e1 : tagS (zs.take cut) k = a.t.toNat := at_tag hB.left (by omega)
  have e2 := at_vr (hB.right' (tagL_len _)) ⟨hv1, hv2⟩
  by_cases hl : last < a.t.toNat
  · refine ⟨122, el_over h8 (by show isBar (tagS _ k) = false; rw [e1]; exact m1) (by show last < tagS _ k; rw [e1]; exact hl) ?_⟩
    show hdE (zs.take cut) k cut = .inl 122
    unfold hdE
    rw [if_neg (by omega), if_pos ⟨by rw [e2, ← vn_of ⟨hv1, hv2⟩]; exact hlo, by omega⟩]
  · exact ⟨123, el_low h8 (by show tagS _ k ≤ last; rw [e1]; omega)⟩
/-- An element that is cut. -/
theorem elem_cut (x : Bool) (zs : List UInt8) (cut : Nat) (hcut : cut ≤ 1048576) {f d k m last : Nat} {a : Nd} {N : List Nd} (hf : N.length ≤ f) (ha : elemOk a = true) (h0 : 0 ≤ a.t) (ht : a.t < 4294967296) (hw : wt elemOk itemOk f true d 0 a.n.toNat N) (hT : ∀ y ∈ N, 0 ≤ y.t ∧ y.t < 4294967296) (hm : m + (N.length + 1) ≤ 4096)
    (hA : At zs k (if a.v ≠ 18 then (encOf x).hd a ((encOf x).pv a).length else (encOf x).hd a (if (encOf x).und a = true then 4294967295 else (encOf x).szD f true N) ++ (encOf x).layD f true N))
    (hk : k < cut) (hc : cut < k + ((encOf x).hs a + (if a.v ≠ 18 then ((encOf x).pv a).length else if (encOf x).und a = true then 8 else 0) + (if a.v ≠ 18 then 0 else (encOf x).szD f true N))) (hz : a.v = 18 → k + (encOf x).hs a + (encOf x).szD f true N ≤ 1048576) :
    ∃ p q, BadFor (srcS (zs.take cut)) m (2 * d) (rsp cut false x last) k p q := by
  by_cases h8 : cut < k + 8
  · exact ⟨k, 122, few_bad (fun _ => .inr hk) (fun _ => by show cut - k < 8; omega)⟩
  have hhs := hs_even x a
  obtain ⟨hv1, hv2, hsz⟩ := elem_vr ha
  have hh : ∀ n, ((encOf x).hd a n).length = (encOf x).hs a := fun n => hd_len x (.inr ⟨hv1, hv2⟩) n
  by_cases hd12 : cut < k + (encOf x).hs a
  · obtain ⟨n, hAn⟩ : ∃ n, At zs k ((encOf x).hd a n) := by
      by_cases h18 : a.v ≠ 18
      · rw [if_pos h18] at hA; exact ⟨_, hA⟩
      · rw [if_neg h18] at hA; exact ⟨_, hA.left⟩
    cases x with
    | false =>
      have : cut < k + 8 := hd12
      omega
    | true =>
      obtain ⟨q, hb⟩ := hd_cut (m := m) (d := 2 * d) (last := last) ha h0 ht hAn (by omega) hd12
      exact ⟨k, q, hb⟩
  obtain ⟨m1, m2, m3, m4⟩ := may_tag (elem_may ha).1
  have hpl : ((encOf x).pv a).length = a.s.size + a.s.size % 2 := by rw [encOf_pv, pvL_len]
  by_cases h18 : a.v ≠ 18
  · rw [if_pos h18] at hA
    rw [if_pos h18, if_pos h18] at hc
    obtain ⟨-, hu⟩ := (fitX x).el a ha h18
    have hA2 := hA.pre (cut := cut) (by rw [hh]; omega)
    obtain ⟨g, g1, g2, g3, g4, g5, g6⟩ := at_hd (fin := cut) ha ht hA2 (by omega) ⟨fun e => by unfold und at e; omega, fun e => by rw [hu] at e; cases e⟩ (fun _ _ => by omega) (by omega)
    by_cases hl : last < a.t.toNat
    · have he : ElBad (srcS (zs.take cut)) (m + ([] : List Nd).length) (2 * d) cut x k g k 122 := by
        refine ElBad.short ?_ ?_ ?_
        · unfold badLen
          rw [g4, decide_eq_false (show ¬ ((encOf x).pv a).length = und by unfold und; omega), decide_eq_false (show ¬ ((encOf x).pv a).length % 2 = 1 by omega)]
          simp
        · rw [g4]; omega
        · rw [g3, g4]
          exact ⟨by unfold und; omega, by omega⟩
      exact ⟨k, 122, (GoesFor.start (srcS (zs.take cut)) m (2 * d) (rsp cut false x last) k).elemBad (fun M nd rest => step_el (by omega) (by rw [g1]; exact m1) (by rw [g1]; exact hl) g2) he⟩
    · exact ⟨k, 123, el_low (by omega) (by rw [g1]; omega)⟩
  · rw [if_neg h18] at hA
    rw [if_neg h18, if_neg h18] at hc
    have h18 : a.v = 18 := by omega
    have hz := hz h18
    have hze := szD_even x (wt_wf _ _ _ _ _ _ hw)
    have hA2 := hA.left.pre (cut := cut) (by rw [hh]; omega)
    obtain ⟨g, g1, g2, g3, g4, g5, g6⟩ := at_hd (fin := cut) ha ht hA2 (by split <;> omega) ⟨fun e => by
      rcases hq : (encOf x).und a with _ | _
      · rw [hq, if_neg (by simp)] at e; unfold und at e; omega
      · rfl, fun e => by rw [if_pos e]; rfl⟩ (fun hx hlo => by
        rw [h18] at hlo
        have hq : Rp.lo (Rp.vn 18) = true := by decide +kernel
        rw [hq] at hlo
        cases hlo) (by omega)
    have gv : g.v = 18 := by rw [g5, bkN_sq x (.inr h18)]; exact h18
    have gx := g6 h18
    have hbl : ¬ badLen g = true := by
      unfold badLen
      rw [gv, g4]
      split
      · rw [decide_eq_true (show (4294967295 : Nat) = und from rfl)]; simp
      · rw [decide_eq_false (show ¬ (encOf x).szD f true N % 2 = 1 by omega)]; simp
    by_cases hl : last < a.t.toNat
    · have hst := fun (M : List Nd) (nd : Option Nat) (rest : List Sp) => step_el (S := srcS (zs.take cut)) (M := M) (nd := nd) (rest := rest) (x := x) (last := last) (k := k) (fin := cut) (by omega) (by rw [g1]; exact m1) (by rw [g1]; exact hl) g2
      by_cases hu : (encOf x).und a = true
      · rw [if_pos hu] at hc g4
        have gu : g.len = und := g4
        have hAi := hA.right' (hh _)
        obtain ⟨p, q, hb⟩ := seq_cut x zs cut hcut f d 0 _ N hf hw hT (k + (encOf x).hs a) (m + 1) hAi (by omega) (by omega) hz (by omega)
        have he : ElBad (srcS (zs.take cut)) (m + ([] : List Nd).length) (2 * d) cut x k g p q := by
          refine ElBad.seq (fin2 := cut) (opn2 := true) (fun M nd rest opn last hM => ?_) ?_
          · rw [stepB_seq hbl gv (fun e => e.1 gu) (by rw [g1]; exact m2) (by rw [hM]; show m + 0 ≠ 4096; omega), if_pos gu, decide_eq_true gu]
            rfl
          · rw [g3, gx]
            exact hb
        exact ⟨p, q, (GoesFor.start (srcS (zs.take cut)) m (2 * d) (rsp cut false x last) k).elemBad hst he⟩
      · rw [if_neg hu] at hc g4
        have he : ElBad (srcS (zs.take cut)) (m + ([] : List Nd).length) (2 * d) cut x k g k 122 := by
          refine ElBad.short hbl (fun e => e.1 gv) ?_
          rw [g3, g4]
          exact ⟨by unfold und; omega, by omega⟩
        exact ⟨k, 122, (GoesFor.start (srcS (zs.take cut)) m (2 * d) (rsp cut false x last) k).elemBad hst he⟩
    · exact ⟨k, 123, el_low (by omega) (by rw [g1]; omega)⟩

/-- A data set whose bytes are cut within an element of the top level. -/
theorem cut_bad {s : Int} {L : List Nd} (h : errOf s L = none) (hT : TagsOk L) {j cut : Nat} (h1 : (outB s (L.take (goN L j))).length < cut) (h2 : cut < (outB s (L.take (goN L (j + 1)))).length) : ¬ ∃ M, OkD s ((outB s L).take cut) M := by
  obtain ⟨e1, e2, e3⟩ := err_cut h j
  obtain ⟨f1, -, f3⟩ := err_cut h (j + 1)
  obtain ⟨r1, r2, r3, r4⟩ := err_ok h
  obtain ⟨c, hw⟩ := run_wt0 elem_n item_n L.length L 0 0 0 (Nat.le_refl _) r2
  have hll := (res_ok r2).1
  obtain ⟨w1, f', t', ht', w2⟩ := wt_cut L.length 0 0 c L j hw
  have hlen : (outB s L).length ≤ 1048576 := (back_ok h hT).2.1
  have hcl : cut ≤ (outB s L).length := by rw [f3, List.length_append]; omega
  have hyl : ((outB s L).take cut).length = cut := by rw [List.length_take]; omega
  -- ahead
  have wf1 := wt_wf _ _ _ _ _ _ w1
  obtain ⟨s1, s2⟩ := Enc.same (fitX (decide (s = 2))) L.length false _ wf1
  have o1 := (err_ok e1).2.2.2
  have hP : (encOf (decide (s = 2))).layD L.length false (L.take (goN L j)) = outB s (L.take (goN L j)) := by
    rw [s2, o1]
    exact Enc.wrP_fuel _ _ _ _ (by rw [List.length_take]; omega) (Nat.le_refl _)
  have hPl : (encOf (decide (s = 2))).szD L.length false (L.take (goN L j)) = (outB s (L.take (goN L j))).length := by
    rw [s1, out_len e1]
    rfl
  have hA0 : At ((outB s L).take cut) 0 ((encOf (decide (s = 2))).layD L.length false (L.take (goN L j))) := by
    refine At.pre ⟨outB s (L.drop (goN L j)), ?_⟩ (by rw [hP]; omega)
    rw [List.drop_zero, hP, e3]
  have hTt : ∀ y ∈ L.take (goN L j), 0 ≤ y.t ∧ y.t < 4294967296 := fun y hy => hT y (List.mem_of_mem_take hy)
  obtain ⟨t2, hg⟩ := (back (decide (s = 2)) ((outB s L).take cut) L.length false 0 0 _ _ (by rw [List.length_take]; omega) w1 hTt (Int.le_refl 0) 0 cut 0 false (fun _ => rfl) hA0 (by rw [hPl]; omega) (by omega) (by rw [List.length_take]; omega)).1 rfl
  rw [hPl, Nat.zero_add] at hg
  -- the element
  have hD : goN L (j + 1) = goN L j + goN (L.drop (goN L j)) 1 := goN_add L j 1
  have hTd : ∀ y ∈ L.drop (goN L j), 0 ≤ y.t ∧ y.t < 4294967296 := fun y hy => hT y (List.mem_of_mem_drop hy)
  have hld : (L.drop (goN L j)).length + goN L j = L.length := by rw [List.length_drop]; have := goN_le L j; omega
  have hlt : (L.take (goN L j)).length = goN L j := by rw [List.length_take]; have := goN_le L j; omega
  have hAD : At (outB s L) (outB s (L.take (goN L j))).length (outB s (L.drop (goN L j))) := ⟨[], by rw [e3, List.drop_left, List.append_nil]⟩
  have o2 := (err_ok e2).2.2.2
  have ol2 := out_len e2
  have hsum : (outB s (L.take (goN L (j + 1)))).length = (outB s (L.take (goN L j))).length + (encS s).szP ((L.drop (goN L j)).take (goN (L.drop (goN L j)) 1)) := by
    rw [out_len f1, out_len e1, hD, ← List.take_append_drop (goN L j) (L.take (goN L j + goN (L.drop (goN L j)) 1)), List.take_take, Nat.min_eq_left (by omega), List.drop_take, Nat.add_sub_cancel_left]
    rw [(encS s).szP_cut (L.take (goN L j) ++ _) (goN L j), List.take_left' hlt, List.drop_left' hlt]
  generalize L.drop (goN L j) = D at *
  have hwfD := wt_wf _ _ _ _ _ _ w2
  have hrD : (res D).2 = true := (err_ok e2).2.1
  obtain ⟨c2, w3⟩ := run_wt0 elem_n item_n D.length D 0 0 0 (Nat.le_refl _) hrD
  have wf3 := wt_wf _ _ _ _ _ _ w3
  obtain ⟨s3, s4⟩ := Enc.same (fitX (decide (s = 2))) D.length false D wf3
  have hDo : (encOf (decide (s = 2))).layD D.length false D = outB s D := by rw [s4, o2]; rfl
  rw [← hDo] at hAD
  cases D with
  | nil =>
    exfalso
    have : (encS s).szP (([] : List Nd).take (goN ([] : List Nd) 1)) = 0 := by rw [List.take_nil]; rfl
    omega
  | cons a r =>
    have hTa := hTd a List.mem_cons_self
    obtain ⟨-, q1, q2, q3⟩ := w3
    have q1 : elemOk a = true ∧ (0 : Int) < a.t := q1
    have q2 : wt elemOk itemOk r.length true 0 0 a.n.toNat (r.take (goN r a.n.toNat)) := q2
    have hg1 : goN (a :: r) 1 = goN r a.n.toNat + 1 := by
      rw [show (1 : Nat) = 0 + 1 from rfl, goN_cons, Wk.goN_zero]
    have hlr : (r.take (goN r a.n.toNat)).length ≤ r.length := by rw [List.length_take]; omega
    have hwi := wt_wf _ _ _ _ _ _ q2
    obtain ⟨s5, -⟩ := Enc.same (fitX (decide (s = 2))) r.length true _ hwi
    rw [hg1, List.take_succ_cons, Enc.szP, Enc.sz1] at hsum
    have hsP : (encS s).szP (r.take (goN r a.n.toNat)) = (encOf (decide (s = 2))).szD r.length true (r.take (goN r a.n.toNat)) := s5.symm
    rw [hsP] at hsum
    have hsum : (outB s (L.take (goN L (j + 1)))).length = (outB s (L.take (goN L j))).length + ((encOf (decide (s = 2))).hs a + ((encOf (decide (s = 2))).pv a).length + (if (encOf (decide (s = 2))).und a = true then 8 else 0) + (encOf (decide (s = 2))).szD r.length true (r.take (goN r a.n.toNat))) := hsum
    have hout2 : (outB s L).length = (outB s (L.take (goN L (j + 1)))).length + (outB s (L.drop (goN L (j + 1)))).length := by rw [f3, List.length_append]
    have hdl : (a :: r).length = r.length + 1 := rfl
    obtain ⟨p, q, hb⟩ := elem_cut (decide (s = 2)) (outB s L) cut (by omega) (f := r.length) (d := 0) (k := (outB s (L.take (goN L j))).length) (m := 0 + ((L.take (goN L j)).map (bkN (decide (s = 2)))).length) (last := t2) (a := a) (N := r.take (goN r a.n.toNat)) hlr q1.1 hTa.1 hTa.2 q2 (fun y hy => hTd y (List.mem_cons_of_mem _ (List.mem_of_mem_take hy))) (by rw [List.length_map, hlt]; omega) (by
        have hAD : At (outB s L) (outB s (L.take (goN L j))).length ((encOf (decide (s = 2))).layD (r.length + 1) false (a :: r)) := hAD
        by_cases h18 : a.v ≠ 18
        · rw [Enc.layD, if_pos h18] at hAD
          rw [if_pos h18]
          exact hAD.left.left
        · rw [Enc.layD, if_neg h18] at hAD
          rw [if_neg h18]
          exact hAD.left.left) h1 (by
        by_cases h18 : a.v ≠ 18
        · obtain ⟨hn0, hu⟩ := (fitX (decide (s = 2))).el a q1.1 h18
          rw [hu, hn0, show (0 : Int).toNat = 0 from rfl, Wk.goN_zero, List.take_zero, szD_nil] at hsum
          rw [if_pos h18, if_pos h18]
          simp only [Bool.false_eq_true, if_false] at hsum
          omega
        · have hp := (fitX (decide (s = 2))).sq a q1.1 (by omega)
          rw [hp] at hsum
          rw [if_neg h18, if_neg h18]
          simp only [List.length_nil] at hsum
          omega) (fun _ => by omega)
    have hbad := hg.thenBad hb [] none [] rfl (fun i e => nomatch e) rfl
    rintro ⟨M, hM⟩
    have h3 := hM.2.2
    rw [hyl] at h3
    have := hbad.one h3
    cases this
/-- Cut where an element of the top level ends. -/
theorem cut_ok {s : Int} {L : List Nd} (h : errOf s L = none) (hT : TagsOk L) (j : Nat) : OkD s ((outB s L).take (outB s (L.take (goN L j))).length) ((L.take (goN L j)).map (bkN (decide (s = 2)))) := by
  obtain ⟨e1, e2, e3⟩ := err_cut h j
  rw [e3, List.take_left]
  exact back_ok e1 (fun y hy => hT y (List.mem_of_mem_take hy))
end Go.Proofs.YtoikdpjjcnmgeaaGreatDoor
