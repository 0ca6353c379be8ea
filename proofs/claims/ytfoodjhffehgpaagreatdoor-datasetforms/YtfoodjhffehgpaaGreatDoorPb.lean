import Derived.Test.YtfoodjhffehgpaaGreatDoorEc
import Derived.Test.YtfoodjhffehgpaaGreatDoorRL
import Derived.Deep.AppendLies
import Derived.Test.YtfoodjhffehgpaaGreatDoorBn
section
/-
  DERIVED. Levels in memory; a step past a node.
-/
namespace Go.Proofs.YtfoodjhffehgpaaGreatDoor
open Go Go.Proofs Go.RowKit
open Wk (Nd)

/-- Levels as cells, the outermost first. -/
def lvc (st : List Lv) : List Value := st.reverse.flatMap fun x => [.int .i64 x.1, .int .u32 x.2]
theorem lvc_cons (x : Lv) (r : List Lv) : lvc (x :: r) = lvc r ++ [.int .i64 x.1, .int .u32 x.2] := by
  unfold lvc
  rw [List.reverse_cons, List.flatMap_append]
  simp
theorem lvc_len : ∀ st : List Lv, (lvc st).length = st.length * 2
  | [] => rfl
  | x :: r => by
    rw [lvc_cons, List.length_append, lvc_len r]
    simp
    omega
theorem lvc_head (x : Lv) (r : List Lv) : (lvc (x :: r))[r.length * 2]? = some (.int .i64 x.1) ∧ (lvc (x :: r))[r.length * 2 + 1]? = some (.int .u32 x.2) := by
  have h := lvc_len r
  rw [lvc_cons]
  constructor
  · rw [List.getElem?_append_right (by omega), show r.length * 2 - (lvc r).length = 0 by omega]; rfl
  · rw [List.getElem?_append_right (by omega), show r.length * 2 + 1 - (lvc r).length = 1 by omega]; rfl
theorem lvc_set (x y : Lv) (r : List Lv) : ((lvc (x :: r)).set (r.length * 2) (.int .i64 y.1)).set (r.length * 2 + 1) (.int .u32 y.2) = lvc (y :: r) := by
  have h := lvc_len r
  rw [lvc_cons, lvc_cons, ← h, List.set_append_right _ _ (Nat.le_refl _), Nat.sub_self, List.set_append_right _ _ (by omega), show (lvc r).length + 1 - (lvc r).length = 1 by omega]
  rfl
theorem lvc_drop (x : Lv) (r : List Lv) : (lvc (x :: r)).take (r.length * 2) = lvc r := by
  rw [lvc_cons, List.take_left' (lvc_len r)]
theorem info41 : (Tryz.prog.info? 150).map (fun i => (i.zero, i.size, i.bytes)) = some (some (.agg #[.int .i64 0, .int .u32 0]), 2, 16) := by kernel_rfl

/-- Levels in memory of their own. -/
def Lvs (w : World) (base : Nat) (v : Value) (st : List Lv) : Prop := w.ownsRow base 150 2 v st.length (lvc st)
theorem Lvs.head {w : World} {base g cap : Nat} {x : Lv} {r : List Lv} (h : Lvs w base (.slice (some ⟨g, 0, none⟩) (r.length + 1) cap) (x :: r)) : w.cell? ⟨g, r.length * 2, none⟩ = some (.int .i64 x.1) ∧ w.cell? ⟨g, r.length * 2 + 1, none⟩ = some (.int .u32 x.2) := by
  have h1 := World.ownsRow.cellAt (n := r.length + 1) h
  exact ⟨(h1 _ (by omega)).trans (lvc_head x r).1, (h1 _ (by omega)).trans (lvc_head x r).2⟩
theorem Lvs.form {w : World} {base : Nat} {v : Value} {x : Lv} {r : List Lv} (h : Lvs w base v (x :: r)) : ∃ g cap, v = .slice (some ⟨g, 0, none⟩) (r.length + 1) cap ∧ base ≤ g ∧ r.length + 1 ≤ cap := by
  rcases h.2 with ⟨_, h0⟩ | ⟨g, cap, cur, rfl, hb, _, hc, _⟩
  · simp at h0
  · exact ⟨g, cap, rfl, hb, hc⟩
theorem Lvs.pop {w : World} {base g cap : Nat} {x y : Lv} {r : List Lv} (h : Lvs w base (.slice (some ⟨g, 0, none⟩) (r.length + 1 + 1) cap) (x :: y :: r)) : Lvs w base (.slice (some ⟨g, 0, none⟩) (r.length + 1) cap) (y :: r) := by
  rcases h.2 with ⟨_, h0⟩ | ⟨g', cap', cur, hv, hb, hh, hc, hm, hs, ht⟩
  · simp at h0
  · cases hv
    refine ⟨lvc_len _, .inr ⟨g, cap, cur, rfl, hb, hh, by simp only [List.length_cons] at hc ⊢; omega, hm, hs, ?_⟩⟩
    have := lvc_drop x (y :: r)
    rw [← ht, List.take_take] at this
    rw [← this]
    congr 1
    simp
theorem Lvs.set {w : World} {base g cap : Nat} {x : Lv} {r : List Lv} (h : Lvs w base (.slice (some ⟨g, 0, none⟩) (r.length + 1) cap) (x :: r)) (y : Lv) : Lvs ((w.setCell ⟨g, r.length * 2, none⟩ (.int .i64 y.1)).setCell ⟨g, r.length * 2 + 1, none⟩ (.int .u32 y.2)) base (.slice (some ⟨g, 0, none⟩) (r.length + 1) cap) (y :: r) := by
  have h1 := (World.ownsRow.stored (n := r.length + 1) h (r.length * 2) (.int .i64 y.1)).1
  have h2 := (World.ownsRow.stored h1 (r.length * 2 + 1) (.int .u32 y.2)).1
  rw [lvc_set] at h2
  exact h2
theorem Lvs.on {w w' : World} {base : Nat} {v : Value} {st : List Lv} (h : Lvs w base v st) (hb : Below w.heap.size w w') : Lvs w' base v st := Wk.ownsRow_below h hb (Nat.le_refl _)
def lenOf : Value → Nat
  | .slice _ n _ => n
  | _ => 0
theorem app42 {w : World} {ops : Array Oper} {rest : List Oper} {o : Oper} {a : Act} {Q : Exit → Act → World → Prop} (hgd : o.guard = none) (s x : Operand)
    (ho : o.op = .call { callee := .builtin .append, args := #[s, x], argTypes := #[151, 151] }) (base : Nat) (v : Value) (st : List Lv) (hs : a.eval s = v) (hown : Lvs w base v st)
    (ad : Addr) (c : Nat) (y : Lv) (hx : a.eval x = .slice (some ad) 1 c) (hnews : ∀ j u, [Value.int .i64 y.1, .int .u32 y.2][j]? = some u → w.cell? (ad.add j) = some u) (hsm : st.length ≤ 1000) (hbase : base ≤ w.heap.size)
    (h : ∀ g cap w', Lvs w' base (.slice (some ⟨g, 0, none⟩) (st.length + 1) cap) (y :: st) → w.grownBy w' v.ownBlock → g < w'.heap.size → wpList Tryz.prog ops Q rest (a.put o.dst (.slice (some ⟨g, 0, none⟩) (st.length + 1) cap)) w') : wpList Tryz.prog ops Q (o :: rest) a w := by
  obtain ⟨i0, hi, hz0, hz1, hz2⟩ := info_parts info41
  refine wpList_append_lies w hgd s x 151 ho base 150 i0 _ 2 16 Tryz.underlying151 hi hz0 hz1 hz2 rfl (by decide) v st.length (lvc st) hs hown ad 1 c [.int .i64 y.1, .int .u32 y.2] hx rfl hnews (by intro u hu; simp at hu; rcases hu with rfl | rfl <;> rfl) (by decide) (by unfold maxLen; omega) (by omega) hbase _ rfl ?_
  intro g cap w' h1 h2 h3 h4
  refine h g cap w' ?_ h2 h4
  show w'.ownsRow base 150 2 _ _ (lvc (y :: st))
  rw [lvc_cons]
  exact h1

theorem popL_first {y : Lv} {r : List Lv} (hy : y.1 = 0) (hr : r ≠ []) : popL (y :: r) = popL r := by
  rw [popL, if_pos ⟨hy, hr⟩]
/-- While levels that have their number are left. -/
def LI (base : Nat) (w : World) (S : List Lv) (x0 : Value) (wr : World) : Prop := ∃ (y : Lv) (r : List Lv) (G C : Nat), x0 = .slice (some ⟨G, 0, none⟩) (r.length + 1) C ∧ Lvs wr base x0 (y :: r) ∧ popL (y :: r) = popL S ∧ Below base w wr ∧ r.length ≤ 200 ∧ r.length + 1 ≤ C

set_option maxRecDepth 100000 in
set_option maxHeartbeats 4000000 in
theorem step_any (w : World) (base : Nat) (v : Value) (x : Lv) (r : List Lv) (a : Nd) (h : Lvs w base v (x :: r)) (hb : base ≤ w.heap.size) (hr : r.length ≤ 100) (hx : -9223372036854775808 < x.1 ∧ x.1 ≤ 9223372036854775807) :
    Calls Tryz.prog 88 #[v, .agg #[.int .u32 a.t, .int .i64 a.v, .int .i64 a.n, .string a.s]] w fun e w' => ∃ v', e = .returned v' ∧ Hid (Lvs w' base v' (stepL a (x :: r))) ∧ Hid (Below base w w') := by
  obtain ⟨g, cap, rfl, hbg, hcap⟩ := h.form
  obtain ⟨t, vr, n, s⟩ := a
  simp only
  have HL : Hid (Lvs w base (.slice (some ⟨g, 0, none⟩) (r.length + 1) cap) (x :: r)) := h
  obtain ⟨S, hS⟩ : ∃ S, pushL ⟨t, vr, n, s⟩ (x :: r) = S := ⟨_, rfl⟩
  have HS : Hid (pushL ⟨t, vr, n, s⟩ (x :: r) = S) := hS
  have HST : Hid (stepL ⟨t, vr, n, s⟩ (x :: r) = popL S) := by show _ = _; unfold stepL; rw [hS]
  clear hS h
  obtain ⟨k, hk⟩ : ∃ k, r.length = k := ⟨_, rfl⟩
  have HK : Hid (r.length = k) := hk
  rw [hk] at hr hcap ⊢
  clear hk
  obtain ⟨W1, hW1⟩ : ∃ W1, w.alloc (.cells #[.int .u32 t, .int .i64 vr, .int .i64 n, .string s] 48) = W1 := ⟨_, rfl⟩
  have hb1 : Below w.heap.size w W1 := by rw [← hW1]; exact (Below.refl _ _).alloc (Nat.le_refl _) _
  have HN1 : Hid (NC W1 w.heap.size t vr n s) := by rw [← hW1]; exact ⟨by simp, by simp, by simp, by simp⟩
  have HL1 : Hid (Lvs W1 base (.slice (some ⟨g, 0, none⟩) (r.length + 1) cap) (x :: r)) := HL.out.on hb1
  obtain ⟨l0, l1⟩ := HL1.out.head
  have f0 := World.ownsRow.frozenAt (n := r.length + 1) HL1.out (r.length * 2)
  have f1 := World.ownsRow.frozenAt (n := r.length + 1) HL1.out (r.length * 2 + 1)
  rw [HK.out] at l0 l1 f0 f1
  have hgw : g < w.heap.size := (World.ownsRow.lt HL.out g rfl).2
  have hne : g ≠ w.heap.size := by omega
  have hne' : w.heap.size ≠ g := by omega
  obtain ⟨y0, y1, y2, y3⟩ := HN1.out
  go_enter Tryz.func88, Tryz.ntmps88
  go_wp2_with (go_at_call 97; refine StopF.out ?_)
  obtain ⟨W2, hW2⟩ : ∃ W2, (W1.setCell ⟨g, k * 2, none⟩ (.int .i64 (x.1 - 1))).setCell ⟨g, k * 2 + 1, none⟩ (.int .u32 t) = W2 := ⟨_, rfl⟩
  have HL2 : Hid (Lvs W2 base (.slice (some ⟨g, 0, none⟩) (k + 1) cap) ((x.1 - 1, t) :: r)) := by
    have := HL1.out.set (x.1 - 1, t)
    rw [HK.out, hW2] at this
    exact this
  have HN2 : Hid (NC W2 w.heap.size t vr n s) := by
    have e : ∀ (W : World) (i j : Nat) (u : Value) (z : Value), W.cell? ⟨w.heap.size, j, none⟩ = some z → (W.setCell ⟨g, i, none⟩ u).cell? ⟨w.heap.size, j, none⟩ = some z := fun W i j u z hz => by
      rw [← hz]
      apply World.cell?_setCell_other
      simp
    rw [← hW2]
    exact ⟨e _ _ _ _ _ (e _ _ _ _ _ y0), e _ _ _ _ _ (e _ _ _ _ _ y1), e _ _ _ _ _ (e _ _ _ _ _ y2), e _ _ _ _ _ (e _ _ _ _ _ y3)⟩
  have HB2 : Hid (Below base w W2) := by
    rw [← hW2]
    exact ((hb1.mono hb).setCell (p := ⟨g, k * 2, none⟩) hbg _).setCell (p := ⟨g, k * 2 + 1, none⟩) hbg _
  have hsz2 : base ≤ W2.heap.size := Nat.le_trans hb HB2.out.size
  rw [hW2]
  obtain ⟨p0, p1, p2, p3⟩ := HN2.out
  clear y0 y1 y2 y3 l0 l1 f0 f1 hW2 hW1 hb1
  obtain ⟨z, hz⟩ : ∃ z, decide ((k + 1) % 2 = 0) = z := ⟨_, rfl⟩
  refine ⟨Calls.mono (wants_any W2 (some ⟨g, 0, none⟩) (k + 1) cap z hz) ?_⟩
  rintro e W3 ⟨rfl, rfl⟩
  by_cases hp : (k + 1) % 2 = 0 ∨ vr = 18
  · have HS2 : Hid (S = (n, 0) :: (x.1 - 1, t) :: r) := by
      show S = _
      rw [← HS.out]
      show (if (r.length + 1) % 2 = 0 ∨ vr = 18 then (n, 0) :: (x.1 - 1, t) :: r else (x.1 - 1, t) :: r) = _
      rw [HK.out, if_pos hp]
    have hor : z = true ∨ (z = false ∧ (vr == 18) = true) := by
      by_cases h2 : (k + 1) % 2 = 0
      · exact .inl (by rw [← hz]; simpa using h2)
      · exact .inr ⟨by rw [← hz]; simpa using h2, by rw [hp.resolve_left h2]; rfl⟩
    clear hp hz HS
    have hnl : ((x.1 - 1, t) :: r).length = k + 1 := by simp [HK.out]
    have HNL : Hid (((x.1 - 1, t) :: r).length = k + 1) := hnl
    clear hnl
    rcases hor with rfl | ⟨rfl, b18⟩
    all_goals
      go_wp2_with (at_builtin; refine StopF.out ?_)
      refine ⟨app42 rfl (.tmp 30) (.tmp 34) rfl base (.slice (some ⟨g, 0, none⟩) (k + 1) cap) ((x.1 - 1, t) :: r) rfl (HL2.out.on ((Below.refl _ _).alloc (Nat.le_refl _) _)) ⟨W2.heap.size, 0, none⟩ 1 (n, 0) rfl (Wk.news_new rfl _ _) (by rw [HNL.out]; omega) (by simp; omega) ?_⟩
      intro g4 cap4 W4 hl4 hg4 hlt4
      have HLI : Hid (LI base w S (.slice (some ⟨g4, 0, none⟩) (k + 1 + 1) cap4) W4) := by
        rw [HNL.out] at hl4
        refine ⟨(n, 0), (x.1 - 1, t) :: r, g4, cap4, by rw [HNL.out], hl4, by rw [HS2.out], ?_, by rw [HNL.out]; omega, ?_⟩
        · refine (HB2.out.alloc hsz2 _).grown hg4 (by simp; omega) (fun j hj => by cases hj; exact hbg)
        · obtain ⟨g5, c5, e5, -, h5⟩ := hl4.form
          cases e5
          exact h5
      rw [HNL.out]
      clear hl4 hg4
      go_wp2
      go_loopw [0] (fun x0 wr => Hid (LI base w S x0 wr)) (fun x0 _ => lenOf x0)
      case atStart => exact HLI
      case round =>
        obtain ⟨y, r', G, C, rfl, hl, hpop, hbw, hr2, hC⟩ := hrel.out
        obtain ⟨c0, c1⟩ := hl.head
        have HLr : Hid (Lvs wr base (.slice (some ⟨G, 0, none⟩) (r'.length + 1) C) (y :: r')) := hl
        have HPO : Hid (popL (y :: r') = popL S) := hpop
        have HBW : Hid (Below base w wr) := hbw
        clear hl hpop hbw hrel
        cases r' with
        | nil =>
          have HF : Hid (Lvs wr base (.slice (some ⟨G, 0, none⟩) 1 C) (popL S)) := by
            rw [← HPO.out, popL_one]
            exact HLr.out
          clear c0 c1
          go_wp2
          go_ret
          exact ⟨_, rfl, by rw [HST.out]; exact HF, HBW⟩
        | cons y2 r2 =>
          obtain ⟨m, hm⟩ : ∃ m, r2.length = m := ⟨_, rfl⟩
          have HM : Hid (r2.length = m) := hm
          simp only [List.length_cons] at c0 c1 hr2 hC ⊢
          rw [hm] at c0 c1 hr2 hC ⊢
          clear hm
          by_cases hy : y.1 = 0
          · have HN : Hid (LI base w S (.slice (some ⟨G, 0, none⟩) (m + 1) C) wr) := by
              have h1 := HLr.out
              simp only [List.length_cons] at h1
              have h2 := h1.pop
              rw [HM.out] at h2
              refine ⟨y2, r2, G, C, by rw [HM.out], h2, ?_, HBW.out, by rw [HM.out]; omega, by rw [HM.out]; omega⟩
              rw [← HPO.out]
              exact (popL_first hy (by simp)).symm
            have by0 : (y.1 == 0) = true := by rw [hy]; rfl
            clear hy
            go_wp2
            exact ⟨HN, by simp [lenOf]⟩
          · have HF : Hid (Lvs wr base (.slice (some ⟨G, 0, none⟩) (m + 1 + 1) C) (popL S)) := by
              rw [← HPO.out, popL_some _ hy]
              have h1 := HLr.out
              simp only [List.length_cons] at h1
              rw [HM.out] at h1
              exact h1
            have by0 : (y.1 == 0) = false := beq_eq_false_iff_ne.2 hy
            clear hy
            go_wp2
            go_ret
            exact ⟨_, rfl, by rw [HST.out]; exact HF, HBW⟩
  · have HS2 : Hid (S = (x.1 - 1, t) :: r) := by
      show S = _
      rw [← HS.out]
      show (if (r.length + 1) % 2 = 0 ∨ vr = 18 then (n, 0) :: (x.1 - 1, t) :: r else (x.1 - 1, t) :: r) = _
      rw [HK.out, if_neg hp]
    obtain ⟨rfl, b18⟩ : z = false ∧ (vr == 18) = false := ⟨by rw [← hz]; simp; omega, beq_eq_false_iff_ne.2 (fun h => hp (.inr h))⟩
    clear hp hz HS
    have HLI : Hid (LI base w S (.slice (some ⟨g, 0, none⟩) (k + 1) cap) W2) := ⟨(x.1 - 1, t), r, g, cap, by rw [HK.out], HL2.out, by rw [HS2.out], HB2.out, by rw [HK.out]; omega, by rw [HK.out]; omega⟩
    go_wp2
    go_loopw [0] (fun x0 wr => Hid (LI base w S x0 wr)) (fun x0 _ => lenOf x0)
    case atStart => exact HLI
    case round =>
      obtain ⟨y, r', G, C, rfl, hl, hpop, hbw, hr2, hC⟩ := hrel.out
      obtain ⟨c0, c1⟩ := hl.head
      have HLr : Hid (Lvs wr base (.slice (some ⟨G, 0, none⟩) (r'.length + 1) C) (y :: r')) := hl
      have HPO : Hid (popL (y :: r') = popL S) := hpop
      have HBW : Hid (Below base w wr) := hbw
      clear hl hpop hbw hrel
      cases r' with
      | nil =>
        have HF : Hid (Lvs wr base (.slice (some ⟨G, 0, none⟩) 1 C) (popL S)) := by
          rw [← HPO.out, popL_one]
          exact HLr.out
        clear c0 c1
        go_wp2
        go_ret
        exact ⟨_, rfl, by rw [HST.out]; exact HF, HBW⟩
      | cons y2 r2 =>
        obtain ⟨m, hm⟩ : ∃ m, r2.length = m := ⟨_, rfl⟩
        have HM : Hid (r2.length = m) := hm
        simp only [List.length_cons] at c0 c1 hr2 hC ⊢
        rw [hm] at c0 c1 hr2 hC ⊢
        clear hm
        by_cases hy : y.1 = 0
        · have HN : Hid (LI base w S (.slice (some ⟨G, 0, none⟩) (m + 1) C) wr) := by
            have h1 := HLr.out
            simp only [List.length_cons] at h1
            have h2 := h1.pop
            rw [HM.out] at h2
            refine ⟨y2, r2, G, C, by rw [HM.out], h2, ?_, HBW.out, by rw [HM.out]; omega, by rw [HM.out]; omega⟩
            rw [← HPO.out]
            exact (popL_first hy (by simp)).symm
          have by0 : (y.1 == 0) = true := by rw [hy]; rfl
          clear hy
          go_wp2
          exact ⟨HN, by simp [lenOf]⟩
        · have HF : Hid (Lvs wr base (.slice (some ⟨G, 0, none⟩) (m + 1 + 1) C) (popL S)) := by
            rw [← HPO.out, popL_some _ hy]
            have h1 := HLr.out
            simp only [List.length_cons] at h1
            rw [HM.out] at h1
            exact h1
          have by0 : (y.1 == 0) = false := beq_eq_false_iff_ne.2 hy
          clear hy
          go_wp2
          go_ret
          exact ⟨_, rfl, by rw [HST.out]; exact HF, HBW⟩
end Go.Proofs.YtfoodjhffehgpaaGreatDoor
end

section
/-
  DERIVED. Is a list of nodes a data set? The program's answer.
-/
namespace Go.Proofs.YtfoodjhffehgpaaGreatDoor
open Go Go.Proofs Go.RowKit
open Wk (Nd NV)

/-- What goes wrong, and where. -/
def res (L : List Nd) : Nat × Bool := runL elemOk itemOk 0 [(0, 0)] L
/-- The program's error, the document's fault. -/
def PE (w : World) (v : Value) (r : Nat × Bool) : Prop := (r.2 = true ∧ v = .nilIface) ∨ (r.2 = false ∧ ∃ q, v = .iface 75 (.pointer (some ⟨q, 0, none⟩)) ∧ Rp.FaultAt w q (r.1 : Int) 5)
theorem PE.on {w w' : World} {v : Value} {r : Nat × Bool} (h : PE w v r) (hb : Below w.heap.size w w') : PE w' v r := by
  rcases h with h | ⟨h1, q, h2, h3⟩
  · exact .inl h
  · exact .inr ⟨h1, q, h2, h3.next hb⟩
theorem popL_mem : ∀ (st : List Lv) (y : Lv), y ∈ popL st → y ∈ st
  | [], y, h => h
  | x :: r, y, h => by
    rw [popL] at h
    split at h
    · exact List.mem_cons_of_mem _ (popL_mem r y h)
    · exact h
/-- Levels as they may be behind so many nodes. -/
structure LvOk (i : Nat) (st : List Lv) : Prop where
  len : st.length ≤ 10
  num : ∀ y ∈ st, -(i : Int) ≤ y.1 ∧ y.1 ≤ 9223372036854775807
theorem LvOk.step {i : Nat} {x : Lv} {r : List Lv} {a : Nd} (h : LvOk i (x :: r)) (hr : rightL elemOk itemOk a (x :: r) = true) (hn : a.n ≤ 9223372036854775807) : LvOk (i + 1) (stepL a (x :: r)) ∧ stepL a (x :: r) ≠ [] := by
  have hl := h.len
  have h0 : 0 ≤ a.n := by
    unfold rightL at hr
    split at hr
    · simp only [Bool.and_eq_true] at hr; exact item_n a hr.1
    · simp only [Bool.and_eq_true] at hr; exact (elem_n a hr.1).1
  have hlen : r.length ≤ 8 := by
    unfold rightL at hr
    simp only [List.length_cons] at hl hr
    split at hr
    · simp only [Bool.and_eq_true, decide_eq_true_eq] at hr
      omega
    · omega
  have hx := h.num x (by simp)
  have hp : (pushL a (x :: r)).length ≤ 10 ∧ pushL a (x :: r) ≠ [] ∧ ∀ y ∈ pushL a (x :: r), -((i + 1 : Nat) : Int) ≤ y.1 ∧ y.1 ≤ 9223372036854775807 := by
    have hrr : ∀ y ∈ r, -((i + 1 : Nat) : Int) ≤ y.1 ∧ y.1 ≤ 9223372036854775807 := fun y hy => by
      have := h.num y (by simp [hy])
      omega
    show (if (r.length + 1) % 2 = 0 ∨ a.v = 18 then (a.n, (0 : Int)) :: (x.1 - 1, a.t) :: r else (x.1 - 1, a.t) :: r).length ≤ 10 ∧ (if (r.length + 1) % 2 = 0 ∨ a.v = 18 then (a.n, (0 : Int)) :: (x.1 - 1, a.t) :: r else (x.1 - 1, a.t) :: r) ≠ [] ∧ ∀ y ∈ (if (r.length + 1) % 2 = 0 ∨ a.v = 18 then (a.n, (0 : Int)) :: (x.1 - 1, a.t) :: r else (x.1 - 1, a.t) :: r), _
    split
    · refine ⟨by simp; omega, by simp, fun y hy => ?_⟩
      rcases List.mem_cons.1 hy with rfl | hy
      · exact ⟨by simp only; omega, hn⟩
      · rcases List.mem_cons.1 hy with rfl | hy
        · simp only; omega
        · exact hrr y hy
    · refine ⟨by simp; omega, by simp, fun y hy => ?_⟩
      rcases List.mem_cons.1 hy with rfl | hy
      · simp only; omega
      · exact hrr y hy
  exact ⟨⟨Nat.le_trans (popL_len _) hp.1, fun y hy => hp.2.2 y (popL_mem _ y hy)⟩, popL_ne hp.2.1⟩
theorem Lvs.one (w : World) (base : Nat) (hb : base ≤ w.heap.size) : Lvs (w.alloc (.cells #[.int .i64 0, .int .u32 0] 150)) base (.slice (some ⟨w.heap.size, 0, none⟩) 1 1) [(0, 0)] :=
  ⟨rfl, .inr ⟨w.heap.size, 1, _, rfl, hb, World.alloc_heap_new _ _, Nat.le_refl _, by unfold maxLen; decide, rfl, rfl⟩⟩
/-- Between two nodes. -/
def FLI (w : World) (L : List Nd) (i : Nat) (v : Value) (wr : World) : Prop := ∃ (x : Lv) (r : List Lv), Lvs wr w.heap.size v (x :: r) ∧ LvOk i (x :: r) ∧ res L = runL elemOk itemOk i (x :: r) (L.drop i) ∧ Below w.heap.size w wr

set_option maxRecDepth 100000 in
set_option maxHeartbeats 4000000 in
theorem formed_any (w : World) (a : Option Addr) (n cap : Nat) (L : List Nd) (hV : NV w a n cap L) (hT : TagsOk L) :
    Calls Tryz.prog 77 #[.slice a n cap] w fun e w' => ∃ ve, e = .returned ve ∧ Hid (PE w' ve (res L)) ∧ Hid (Below w.heap.size w w') := by
  have HV : Hid (NV w a n cap L) := hV
  have HT : Hid (TagsOk L) := hT
  have HN : Hid (n = L.length) := hV.len
  have hsm := hV.small
  clear hV hT
  obtain ⟨W0, hW0⟩ : ∃ W0, w.alloc (.cells #[.int .i64 0, .int .u32 0] 150) = W0 := ⟨_, rfl⟩
  have HI0 : Hid (FLI w L 0 (.slice (some ⟨w.heap.size, 0, none⟩) 1 1) W0) := by
    refine ⟨(0, 0), [], hW0 ▸ Lvs.one w _ (Nat.le_refl _), ⟨by simp, fun y hy => by simp at hy; subst hy; simp⟩, rfl, hW0 ▸ (Below.refl _ _).alloc (Nat.le_refl _) _⟩
  go_enter Tryz.func77, Tryz.ntmps77
  go_wp2
  clear hW0
  go_loopw [3, 10] (fun x3 x10 wr => ∃ i : Nat, x10 = .int .i64 (i : Int) ∧ i ≤ n ∧ i ≤ 4096 ∧ Hid (FLI w L i x3 wr)) (fun _ x10 _ => n - (intOf x10).toNat)
  case atStart => exact ⟨0, rfl, by omega, by omega, HI0⟩
  case round =>
    obtain ⟨i, rfl, hin, hi4, HI⟩ := hrel
    obtain ⟨x, r, hl, hok, hres, hbw⟩ := HI.out
    obtain ⟨g, gc, rfl, hbg, hgc⟩ := hl.form
    have HL : Hid (Lvs wr w.heap.size (.slice (some ⟨g, 0, none⟩) (r.length + 1) gc) (x :: r)) := hl
    have HO : Hid (LvOk i (x :: r)) := hok
    have HRES : Hid (res L = runL elemOk itemOk i (x :: r) (L.drop i)) := hres
    have HB : Hid (Below w.heap.size w wr) := hbw
    clear hl hok hres hbw HI HI0
    by_cases hlt : i < n
    · have hltI : decide ((i : Int) < (n : Int)) = true := by simp; omega
      obtain ⟨b, off, hlen, rfl, m0, m1, m2, m3⟩ := NV.cells HV.out (j := i) hlt
      have hbl : b < w.heap.size := Tb.cell_lt m0
      replace m0 := (HB.out.cell (p := ⟨b, off + i * 4, none⟩) hbl).trans m0
      replace m1 := (HB.out.cell (p := ⟨b, off + i * 4 + 1, none⟩) hbl).trans m1
      replace m2 := (HB.out.cell (p := ⟨b, off + i * 4 + 2, none⟩) hbl).trans m2
      replace m3 := (HB.out.cell (p := ⟨b, off + i * 4 + 3, none⟩) hbl).trans m3
      have hnr := HV.out.num _ (List.getElem_mem hlen)
      have htg := HT.out _ (List.getElem_mem hlen)
      have HD : Hid (L.drop i = (L[i]'hlen) :: L.drop (i + 1)) := List.drop_eq_getElem_cons hlen
      generalize L[i]'hlen = q at m0 m1 m2 m3 hnr htg HD
      obtain ⟨t, v, z, s⟩ := q
      simp only at *
      obtain ⟨W1, hW1⟩ : ∃ W1, wr.alloc (.cells #[.int .u32 t, .int .i64 v, .int .i64 z, .string s] 48) = W1 := ⟨_, rfl⟩
      have hb1 : Below wr.heap.size wr W1 := by rw [← hW1]; exact (Below.refl _ _).alloc (Nat.le_refl _) _
      have HN1 : Hid (NC W1 wr.heap.size t v z s) := by rw [← hW1]; exact ⟨by simp, by simp, by simp, by simp⟩
      have HL1 : Hid (Lvs W1 w.heap.size (.slice (some ⟨g, 0, none⟩) (r.length + 1) gc) (x :: r)) := HL.out.on hb1
      have HB1 : Hid (Below w.heap.size w W1) := HB.out.trans (hb1.mono HB.out.size)
      obtain ⟨y0, y1, y2, y3⟩ := HN1.out
      by_cases hi40 : i = 4096
      · have HR : Hid (res L = (i, false)) := by
          show _ = _
          rw [HRES.out, HD.out, runL, if_pos (.inl hi40)]
        have b40 : ((i : Int) == 4096) = true := by rw [hi40]; rfl
        clear hi40 HRES
        go_wp2_with (first | (go_at_call 87; refine (Rp.refusal_any _ _ _).mono ?_; rintro e W2 ⟨q, rfl, hf, hb2⟩) | fail)
        go_ret
        exact ⟨_, rfl, .inr ⟨by rw [HR.out], q, rfl, by rw [HR.out]; exact hf⟩, HB1.out.trans (hb2.mono HB1.out.size)⟩
      · have b40 : ((i : Int) == 4096) = false := beq_eq_false_iff_ne.2 (by omega)
        have c11 : Calls Tryz.prog 86 #[.agg #[.int .u32 t, .int .i64 v, .int .i64 z, .string s], .slice (some ⟨g, 0, none⟩) (r.length + 1) gc] W1 fun e w' => e = .returned (.bool (rightL elemOk itemOk ⟨t, v, z, s⟩ (x :: r))) ∧ Below W1.heap.size W1 w' := by
          have hl10 := HO.out.len
          simp only [List.length_cons] at hl10
          by_cases he : (r.length + 1) % 2 = 0
          · have := isRight_item W1 ⟨t, v, z, s⟩ g r.length gc (by omega) he
            unfold rightL
            rw [List.length_cons, if_pos he]
            exact this
          · have := isRight_elem W1 ⟨t, v, z, s⟩ htg.1 htg.2 g r.length gc (by omega) (by omega) x.2 HL1.out.head.2
            unfold rightL
            rw [List.length_cons, if_neg he]
            exact this
        obtain ⟨ok, hok⟩ : ∃ ok, rightL elemOk itemOk ⟨t, v, z, s⟩ (x :: r) = ok := ⟨_, rfl⟩
        rw [hok] at c11
        have HOK : Hid (rightL elemOk itemOk ⟨t, v, z, s⟩ (x :: r) = ok) := hok
        clear hok
        obtain ⟨k, hk⟩ : ∃ k, r.length = k := ⟨_, rfl⟩
        have HK : Hid (r.length = k) := hk
        rw [hk] at c11 hgc ⊢
        clear hk
        cases ok with
        | false =>
          have HR : Hid (res L = (i, false)) := by
            show _ = _
            rw [HRES.out, HD.out, runL, if_pos (.inr HOK.out)]
          clear HRES
          go_wp2_with (first | (go_at_call 86; refine c11.mono ?_; rintro e W2 ⟨rfl, hb2⟩) | (go_at_call 87; refine (Rp.refusal_any _ _ _).mono ?_; rintro e W3 ⟨q, rfl, hf, hb3⟩))
          go_ret
          exact ⟨_, rfl, .inr ⟨by rw [HR.out], q, rfl, by rw [HR.out]; exact hf⟩, HB1.out.trans ((hb2.trans (hb3.mono hb2.size)).mono HB1.out.size)⟩
        | true =>
          have HST := HO.out.step HOK.out hnr.2
          have HR : Hid (res L = runL elemOk itemOk (i + 1) (stepL ⟨t, v, z, s⟩ (x :: r)) (L.drop (i + 1))) := by
            show _ = _
            rw [HRES.out, HD.out, runL, if_neg (by rintro (h | h); exact hi40 h; rw [HOK.out] at h; cases h)]
          have hx := HO.out.num x (by simp)
          have hl10 := HO.out.len
          simp only [List.length_cons] at hl10
          have HSTH : Hid _ := HST
          clear HRES HST
          go_wp2_with (go_at_call 86; refine StopF.out ?_)
          refine ⟨Calls.mono c11 ?_⟩
          rintro e W2 ⟨rfl, hb2⟩
          have HN2 : Hid (NC W2 wr.heap.size t v z s) := HN1.out.on hb2
          have HL2 : Hid (Lvs W2 w.heap.size (.slice (some ⟨g, 0, none⟩) (r.length + 1) gc) (x :: r)) := HL1.out.on hb2
          have HB2 : Hid (Below w.heap.size w W2) := HB1.out.trans (hb2.mono HB1.out.size)
          obtain ⟨q0, q1, q2, q3⟩ := HN2.out
          have c13 := step_any W2 w.heap.size (.slice (some ⟨g, 0, none⟩) (r.length + 1) gc) x r ⟨t, v, z, s⟩ HL2.out HB2.out.size (by rw [HK.out]; rw [HK.out] at hl10; omega) ⟨by omega, hx.2⟩
          rw [HK.out] at c13
          clear hb2 c11 y0 y1 y2 y3 hW1 m0 m1 m2 m3 hx hl10
          go_wp2_with (go_at_call 88; refine StopF.out ?_)
          refine ⟨Calls.mono c13 ?_⟩
          rintro e W3 ⟨v3, rfl, hl3, hb3⟩
          have HI3 : Hid (FLI w L (i + 1) v3 W3) := by
            obtain ⟨h1, h2⟩ := HSTH.out
            have h3 := HR.out
            have h4 := hl3.out
            cases hs : stepL ⟨t, v, z, s⟩ (x :: r) with
            | nil => exact absurd hs h2
            | cons x' r' =>
              rw [hs] at h1 h3 h4
              exact ⟨x', r', h4, h1, h3, HB2.out.trans hb3.out⟩
          clear c13 hl3 hb3 HSTH HR
          go_wp2
          exact ⟨⟨i + 1, by simp, by omega, by omega, HI3⟩, by simp [intOf]; omega⟩
    · have hltI : decide ((i : Int) < (n : Int)) = false := by simp; omega
      have hin2 : i = n := by omega
      have HR : Hid (res L = (i, decide (r = []))) := by
        show _ = _
        rw [HRES.out, List.drop_eq_nil_of_le (by rw [← HN.out]; omega), runL]
        cases r <;> simp
      clear HRES
      cases r with
      | nil =>
        have HR2 : Hid (res L = (i, true)) := by show _ = _; have := HR.out; simpa using this
        clear HR
        go_wp2
        go_ret
        exact ⟨_, rfl, .inl ⟨by rw [HR2.out], rfl⟩, HB⟩
      | cons x2 r2 =>
        have HR2 : Hid (res L = (n, false)) := by show _ = _; have := HR.out; rw [hin2] at this; simpa using this
        clear HR hin2
        simp only [List.length_cons] at *
        obtain ⟨k, hk⟩ : ∃ k, r2.length = k := ⟨_, rfl⟩
        rw [hk]
        clear hk
        go_wp2_with (first | (go_at_call 87; refine (Rp.refusal_any _ _ _).mono ?_; rintro e W2 ⟨q, rfl, hf, hb2⟩) | fail)
        go_ret
        exact ⟨_, rfl, .inr ⟨by rw [HR2.out], q, rfl, by rw [HR2.out]; exact hf⟩, HB.out.trans (hb2.mono HB.out.size)⟩
end Go.Proofs.YtfoodjhffehgpaaGreatDoor
end
