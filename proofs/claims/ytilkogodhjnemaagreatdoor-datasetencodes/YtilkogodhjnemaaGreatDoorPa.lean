import Derived.Test.YtilkogodhjnemaaGreatDoorRK
import Derived.Test.YtilkogodhjnemaaGreatDoorEc
import Derived.Deep.AppendLies
/-
  DERIVED. A VR's letters, read.
-/
namespace Go.Proofs.YtilkogodhjnemaaGreatDoor.Rp
open Go Go.Proofs Go.RowKit

/-- A fault of this layer, as it lies in memory. -/
def FaultAt (w : World) (q : Nat) (a c : Int) : Prop :=
  w.cell? ⟨q, 0, none⟩ = some (.string { data := #[100, 105, 99, 116] }) ∧ w.cell? ⟨q, 1, none⟩ = some (.int .i64 a) ∧ w.cell? ⟨q, 2, none⟩ = some (.iface 57 (.int .i64 c))

theorem FaultAt.next {w w' : World} {q : Nat} {a c : Int} (h : FaultAt w q a c) (hb : Below w.heap.size w w') : FaultAt w' q a c :=
  ⟨(hb.cell (cell_lt h.1)).trans h.1, (hb.cell (cell_lt h.2.1)).trans h.2.1, (hb.cell (cell_lt h.2.2)).trans h.2.2⟩

theorem refusal_any (a c : Int) (w : World) : Calls Tryz.prog 45 #[.int .i64 a, .iface 57 (.int .i64 c)] w fun e w' => ∃ q, e = .returned (.iface 72 (.pointer (some ⟨q, 0, none⟩))) ∧ FaultAt w' q a c ∧ Below w.heap.size w w' := by
  go_enter Tryz.func45, Tryz.ntmps45
  go_wp2
  go_ret
  exact ⟨w.heap.size, rfl, ⟨by simp, by simp, by simp⟩, (Below.refl _ _).alloc (Nat.le_refl _) _⟩

/-- The program's error, or none; the document's fault, or none. -/
def PErr (w : World) (v : Value) (bad : Bool) : Prop := if bad then ∃ q, v = .iface 72 (.pointer (some ⟨q, 0, none⟩)) ∧ FaultAt w q 0 62 else v = .nilIface
def RErr (w : World) (v : Value) (bad : Bool) : Prop := if bad then ∃ g c, v = .agg #[.slice (some ⟨g, 0, none⟩) 1 c, .int .i64 62] ∧ w.cell? ⟨g, 0, none⟩ = some (.string { data := #[100, 105, 99, 116] }) ∧ w.cell? ⟨g, 1, none⟩ = some (.int .i64 0) else v = .agg #[.slice none 0 0, .int .i64 0]

theorem PErr.next {w w' : World} {v : Value} {bad : Bool} (h : PErr w v bad) (hb : Below w.heap.size w w') : PErr w' v bad := by
  unfold PErr at *
  cases bad with
  | true => obtain ⟨q, rfl, hf⟩ := h; exact ⟨q, rfl, hf.next hb⟩
  | false => exact h
theorem RErr.next {w w' : World} {v : Value} {bad : Bool} (h : RErr w v bad) (hb : Below w.heap.size w w') : RErr w' v bad := by
  unfold RErr at *
  cases bad with
  | true => obtain ⟨g, c, rfl, h0, h1⟩ := h; exact ⟨g, c, rfl, (hb.cell (cell_lt h0)).trans h0, (hb.cell (cell_lt h1)).trans h1⟩
  | false => exact h

theorem is_yes {w : World} {ve vf : Value} {bad : Bool} (h1 : PErr w ve bad) (h2 : RErr w vf bad) :
    Calls Tryz.prog 8 #[ve, vf] w fun e w' => e = .returned (.bool true) ∧ Below w.heap.size w w' := by
  cases bad with
  | false =>
    unfold PErr at h1
    unfold RErr at h2
    simp only [Bool.false_eq_true, if_false] at h1 h2
    subst h1 h2
    exact is_nil w
  | true =>
    obtain ⟨q, rfl, hf⟩ := h1
    obtain ⟨g, cg, rfl, g0, g1⟩ := h2
    exact is_one 62 (by decide) q g cg 0 w hf.1 hf.2.1 hf.2.2 g0 g1

/-- Is it this VR's word? -/
def hit (s : ByteArray) (k : Nat) : Bool := (nm k).toList == s.toList

/-- The first VR from k on whose word it is; 0, if there is none. -/
def fnd (s : ByteArray) : Nat → Nat → Nat
  | 0, _ => 0
  | n + 1, k => if hit s k then k else fnd s n (k + 1)

set_option maxRecDepth 100000 in
theorem rvrword_any (w : World) (v : Int) : Calls Tryz.prog 106 #[.int .i64 v] w fun e w' => e = .returned (.string (nm (vn v))) ∧ w = w' := by
  have c33 := fun W => rep_any W v
  by_cases hv : 1 ≤ v ∧ v ≤ 28
  · have hvn : ((vn v : Nat) : Int) = v := by unfold vn; rw [if_pos hv]; omega
    have hok := (all_ok ⟨vn v, vn_lt v⟩).resolve_left (by simp only; omega)
    simp only at hok
    rw [hvn] at hok
    obtain ⟨S, hS⟩ : ∃ S, lineB v = S := ⟨_, rfl⟩
    rw [hS] at hok c33
    unfold okS at hok
    simp only [Bool.and_eq_true, decide_eq_true_eq, List.all_eq_true, beq_iff_eq] at hok
    obtain ⟨h1, h2, h3, h4, h5, h6, h7, h8, h9, h10, h11, h12, h13, h14⟩ := hok
    have e0 : S.extract 0 2 = nm (vn v) := ByteArray.ext (Array.ext' h7)
    rw [← e0]
    have hne : (S.toList == []) = false := by
      rw [ByteArray.toList_eq]
      cases hd : S.data.toList with
      | nil =>
        have : S.size = 0 := by
          show S.data.size = 0
          rw [← Array.length_toList, hd]
          rfl
        omega
      | cons a l => rfl
    have h2i : (2 : Int) ≤ (S.size : Int) := by omega
    clear hS h1 h2 h3 h4 h5 h6 h7 h8 h9 h10 h11 h12 h13 h14 e0 hvn
    go_enter Tryz.func106, Tryz.ntmps106
    go_wp2_with (first | (go_at_call 67; refine (c33 _).mono ?_; rintro e w' ⟨rfl, rfl⟩) | fail)
    go_ret
    exact ⟨rfl, rfl⟩
  · have hvn : vn v = 0 := by unfold vn; rw [if_neg hv]
    have hL : lineB v = ⟨#[]⟩ := by unfold lineB; rw [if_neg hv]
    rw [hvn, show nm 0 = ⟨#[]⟩ from rfl]
    rw [hL] at c33
    clear hvn hL
    go_enter Tryz.func106, Tryz.ntmps106
    go_wp2_with (first | (go_at_call 67; refine (c33 _).mono ?_; rintro e w' ⟨rfl, rfl⟩) | fail)
    go_ret
    exact ⟨rfl, rfl⟩
end Go.Proofs.YtilkogodhjnemaaGreatDoor.Rp

/-
  DERIVED. Levels in memory; a step past a node.
-/
namespace Go.Proofs.YtilkogodhjnemaaGreatDoor
open Go Go.Proofs Go.RowKit
open Wk (Nd)

/-- Levels as cells, the outermost first. -/
def lvc (st : List Lv) : List Value := st.reverse.flatMap fun x => [.int .i64 x.1, .int .u32 x.2]
theorem lvc_cons (x : Lv) (r : List Lv) : lvc (x :: r) = lvc r ++ [.int .i64 x.1, .int .u32 x.2] := by
  unfold lvc
  rw [List.reverse_cons, List.flatMap_append]
  simp
theorem lvc_len : ∀ st : List Lv, (lvc st).length = st.length * 2
  | [] => rfl
  | x :: r => by
    rw [lvc_cons, List.length_append, lvc_len r]
    simp
    omega
theorem lvc_head (x : Lv) (r : List Lv) : (lvc (x :: r))[r.length * 2]? = some (.int .i64 x.1) ∧ (lvc (x :: r))[r.length * 2 + 1]? = some (.int .u32 x.2) := by
  have h := lvc_len r
  rw [lvc_cons]
  constructor
  · rw [List.getElem?_append_right (by omega), show r.length * 2 - (lvc r).length = 0 by omega]; rfl
  · rw [List.getElem?_append_right (by omega), show r.length * 2 + 1 - (lvc r).length = 1 by omega]; rfl
theorem lvc_set (x y : Lv) (r : List Lv) : ((lvc (x :: r)).set (r.length * 2) (.int .i64 y.1)).set (r.length * 2 + 1) (.int .u32 y.2) = lvc (y :: r) := by
  have h := lvc_len r
  rw [lvc_cons, lvc_cons, ← h, List.set_append_right _ _ (Nat.le_refl _), Nat.sub_self, List.set_append_right _ _ (by omega), show (lvc r).length + 1 - (lvc r).length = 1 by omega]
  rfl
theorem lvc_drop (x : Lv) (r : List Lv) : (lvc (x :: r)).take (r.length * 2) = lvc r := by
  rw [lvc_cons, List.take_left' (lvc_len r)]
theorem info41 : (Tryz.prog.info? 95).map (fun i => (i.zero, i.size, i.bytes)) = some (some (.agg #[.int .i64 0, .int .u32 0]), 2, 16) := by kernel_rfl

/-- Levels in memory of their own. -/
def Lvs (w : World) (base : Nat) (v : Value) (st : List Lv) : Prop := w.ownsRow base 95 2 v st.length (lvc st)
theorem Lvs.head {w : World} {base g cap : Nat} {x : Lv} {r : List Lv} (h : Lvs w base (.slice (some ⟨g, 0, none⟩) (r.length + 1) cap) (x :: r)) : w.cell? ⟨g, r.length * 2, none⟩ = some (.int .i64 x.1) ∧ w.cell? ⟨g, r.length * 2 + 1, none⟩ = some (.int .u32 x.2) := by
  have h1 := World.ownsRow.cellAt (n := r.length + 1) h
  exact ⟨(h1 _ (by omega)).trans (lvc_head x r).1, (h1 _ (by omega)).trans (lvc_head x r).2⟩
theorem Lvs.form {w : World} {base : Nat} {v : Value} {x : Lv} {r : List Lv} (h : Lvs w base v (x :: r)) : ∃ g cap, v = .slice (some ⟨g, 0, none⟩) (r.length + 1) cap ∧ base ≤ g ∧ r.length + 1 ≤ cap := by
  rcases h.2 with ⟨_, h0⟩ | ⟨g, cap, cur, rfl, hb, _, hc, _⟩
  · simp at h0
  · exact ⟨g, cap, rfl, hb, hc⟩
theorem Lvs.pop {w : World} {base g cap : Nat} {x y : Lv} {r : List Lv} (h : Lvs w base (.slice (some ⟨g, 0, none⟩) (r.length + 1 + 1) cap) (x :: y :: r)) : Lvs w base (.slice (some ⟨g, 0, none⟩) (r.length + 1) cap) (y :: r) := by
  rcases h.2 with ⟨_, h0⟩ | ⟨g', cap', cur, hv, hb, hh, hc, hm, hs, ht⟩
  · simp at h0
  · cases hv
    refine ⟨lvc_len _, .inr ⟨g, cap, cur, rfl, hb, hh, by simp only [List.length_cons] at hc ⊢; omega, hm, hs, ?_⟩⟩
    have := lvc_drop x (y :: r)
    rw [← ht, List.take_take] at this
    rw [← this]
    congr 1
    simp
theorem Lvs.set {w : World} {base g cap : Nat} {x : Lv} {r : List Lv} (h : Lvs w base (.slice (some ⟨g, 0, none⟩) (r.length + 1) cap) (x :: r)) (y : Lv) : Lvs ((w.setCell ⟨g, r.length * 2, none⟩ (.int .i64 y.1)).setCell ⟨g, r.length * 2 + 1, none⟩ (.int .u32 y.2)) base (.slice (some ⟨g, 0, none⟩) (r.length + 1) cap) (y :: r) := by
  have h1 := (World.ownsRow.stored (n := r.length + 1) h (r.length * 2) (.int .i64 y.1)).1
  have h2 := (World.ownsRow.stored h1 (r.length * 2 + 1) (.int .u32 y.2)).1
  rw [lvc_set] at h2
  exact h2
theorem Lvs.on {w w' : World} {base : Nat} {v : Value} {st : List Lv} (h : Lvs w base v st) (hb : Below w.heap.size w w') : Lvs w' base v st := Wk.ownsRow_below h hb (Nat.le_refl _)
def lenOf : Value → Nat
  | .slice _ n _ => n
  | _ => 0
theorem app42 {w : World} {ops : Array Oper} {rest : List Oper} {o : Oper} {a : Act} {Q : Exit → Act → World → Prop} (hgd : o.guard = none) (s x : Operand)
    (ho : o.op = .call { callee := .builtin .append, args := #[s, x], argTypes := #[96, 96] }) (base : Nat) (v : Value) (st : List Lv) (hs : a.eval s = v) (hown : Lvs w base v st)
    (ad : Addr) (c : Nat) (y : Lv) (hx : a.eval x = .slice (some ad) 1 c) (hnews : ∀ j u, [Value.int .i64 y.1, .int .u32 y.2][j]? = some u → w.cell? (ad.add j) = some u) (hsm : st.length ≤ 1000) (hbase : base ≤ w.heap.size)
    (h : ∀ g cap w', Lvs w' base (.slice (some ⟨g, 0, none⟩) (st.length + 1) cap) (y :: st) → w.grownBy w' v.ownBlock → g < w'.heap.size → wpList Tryz.prog ops Q rest (a.put o.dst (.slice (some ⟨g, 0, none⟩) (st.length + 1) cap)) w') : wpList Tryz.prog ops Q (o :: rest) a w := by
  obtain ⟨i0, hi, hz0, hz1, hz2⟩ := info_parts info41
  refine wpList_append_lies w hgd s x 96 ho base 95 i0 _ 2 16 Tryz.underlying96 hi hz0 hz1 hz2 rfl (by decide) v st.length (lvc st) hs hown ad 1 c [.int .i64 y.1, .int .u32 y.2] hx rfl hnews (by intro u hu; simp at hu; rcases hu with rfl | rfl <;> rfl) (by decide) (by unfold maxLen; omega) (by omega) hbase _ rfl ?_
  intro g cap w' h1 h2 h3 h4
  refine h g cap w' ?_ h2 h4
  show w'.ownsRow base 95 2 _ _ (lvc (y :: st))
  rw [lvc_cons]
  exact h1

theorem popL_first {y : Lv} {r : List Lv} (hy : y.1 = 0) (hr : r ≠ []) : popL (y :: r) = popL r := by
  rw [popL, if_pos ⟨hy, hr⟩]
/-- While levels that have their number are left. -/
def LI (base : Nat) (w : World) (S : List Lv) (x0 : Value) (wr : World) : Prop := ∃ (y : Lv) (r : List Lv) (G C : Nat), x0 = .slice (some ⟨G, 0, none⟩) (r.length + 1) C ∧ Lvs wr base x0 (y :: r) ∧ popL (y :: r) = popL S ∧ Below base w wr ∧ r.length ≤ 200 ∧ r.length + 1 ≤ C

set_option maxRecDepth 100000 in
set_option maxHeartbeats 4000000 in
theorem step_any (w : World) (base : Nat) (v : Value) (x : Lv) (r : List Lv) (a : Nd) (h : Lvs w base v (x :: r)) (hb : base ≤ w.heap.size) (hr : r.length ≤ 100) (hx : -9223372036854775808 < x.1 ∧ x.1 ≤ 9223372036854775807) :
    Calls Tryz.prog 46 #[v, .agg #[.int .u32 a.t, .int .i64 a.v, .int .i64 a.n, .string a.s]] w fun e w' => ∃ v', e = .returned v' ∧ Hid (Lvs w' base v' (stepL a (x :: r))) ∧ Hid (Below base w w') := by
  obtain ⟨g, cap, rfl, hbg, hcap⟩ := h.form
  obtain ⟨t, vr, n, s⟩ := a
  simp only
  have HL : Hid (Lvs w base (.slice (some ⟨g, 0, none⟩) (r.length + 1) cap) (x :: r)) := h
  obtain ⟨S, hS⟩ : ∃ S, pushL ⟨t, vr, n, s⟩ (x :: r) = S := ⟨_, rfl⟩
  have HS : Hid (pushL ⟨t, vr, n, s⟩ (x :: r) = S) := hS
  have HST : Hid (stepL ⟨t, vr, n, s⟩ (x :: r) = popL S) := by show _ = _; unfold stepL; rw [hS]
  clear hS h
  obtain ⟨k, hk⟩ : ∃ k, r.length = k := ⟨_, rfl⟩
  have HK : Hid (r.length = k) := hk
  rw [hk] at hr hcap ⊢
  clear hk
  obtain ⟨W1, hW1⟩ : ∃ W1, w.alloc (.cells #[.int .u32 t, .int .i64 vr, .int .i64 n, .string s] 47) = W1 := ⟨_, rfl⟩
  have hb1 : Below w.heap.size w W1 := by rw [← hW1]; exact (Below.refl _ _).alloc (Nat.le_refl _) _
  have HN1 : Hid (NC W1 w.heap.size t vr n s) := by rw [← hW1]; exact ⟨by simp, by simp, by simp, by simp⟩
  have HL1 : Hid (Lvs W1 base (.slice (some ⟨g, 0, none⟩) (r.length + 1) cap) (x :: r)) := HL.out.on hb1
  obtain ⟨l0, l1⟩ := HL1.out.head
  have f0 := World.ownsRow.frozenAt (n := r.length + 1) HL1.out (r.length * 2)
  have f1 := World.ownsRow.frozenAt (n := r.length + 1) HL1.out (r.length * 2 + 1)
  rw [HK.out] at l0 l1 f0 f1
  have hgw : g < w.heap.size := (World.ownsRow.lt HL.out g rfl).2
  have hne : g ≠ w.heap.size := by omega
  have hne' : w.heap.size ≠ g := by omega
  obtain ⟨y0, y1, y2, y3⟩ := HN1.out
  go_enter Tryz.func46, Tryz.ntmps46
  go_wp2_with (go_at_call 59; refine StopF.out ?_)
  obtain ⟨W2, hW2⟩ : ∃ W2, (W1.setCell ⟨g, k * 2, none⟩ (.int .i64 (x.1 - 1))).setCell ⟨g, k * 2 + 1, none⟩ (.int .u32 t) = W2 := ⟨_, rfl⟩
  have HL2 : Hid (Lvs W2 base (.slice (some ⟨g, 0, none⟩) (k + 1) cap) ((x.1 - 1, t) :: r)) := by
    have := HL1.out.set (x.1 - 1, t)
    rw [HK.out, hW2] at this
    exact this
  have HN2 : Hid (NC W2 w.heap.size t vr n s) := by
    have e : ∀ (W : World) (i j : Nat) (u : Value) (z : Value), W.cell? ⟨w.heap.size, j, none⟩ = some z → (W.setCell ⟨g, i, none⟩ u).cell? ⟨w.heap.size, j, none⟩ = some z := fun W i j u z hz => by
      rw [← hz]
      apply World.cell?_setCell_other
      simp
    rw [← hW2]
    exact ⟨e _ _ _ _ _ (e _ _ _ _ _ y0), e _ _ _ _ _ (e _ _ _ _ _ y1), e _ _ _ _ _ (e _ _ _ _ _ y2), e _ _ _ _ _ (e _ _ _ _ _ y3)⟩
  have HB2 : Hid (Below base w W2) := by
    rw [← hW2]
    exact ((hb1.mono hb).setCell (p := ⟨g, k * 2, none⟩) hbg _).setCell (p := ⟨g, k * 2 + 1, none⟩) hbg _
  have hsz2 : base ≤ W2.heap.size := Nat.le_trans hb HB2.out.size
  rw [hW2]
  obtain ⟨p0, p1, p2, p3⟩ := HN2.out
  clear y0 y1 y2 y3 l0 l1 f0 f1 hW2 hW1 hb1
  obtain ⟨z, hz⟩ : ∃ z, decide ((k + 1) % 2 = 0) = z := ⟨_, rfl⟩
  refine ⟨Calls.mono (wants_any W2 (some ⟨g, 0, none⟩) (k + 1) cap z hz) ?_⟩
  rintro e W3 ⟨rfl, rfl⟩
  by_cases hp : (k + 1) % 2 = 0 ∨ vr = 18
  · have HS2 : Hid (S = (n, 0) :: (x.1 - 1, t) :: r) := by
      show S = _
      rw [← HS.out]
      show (if (r.length + 1) % 2 = 0 ∨ vr = 18 then (n, 0) :: (x.1 - 1, t) :: r else (x.1 - 1, t) :: r) = _
      rw [HK.out, if_pos hp]
    have hor : z = true ∨ (z = false ∧ (vr == 18) = true) := by
      by_cases h2 : (k + 1) % 2 = 0
      · exact .inl (by rw [← hz]; simpa using h2)
      · exact .inr ⟨by rw [← hz]; simpa using h2, by rw [hp.resolve_left h2]; rfl⟩
    clear hp hz HS
    have hnl : ((x.1 - 1, t) :: r).length = k + 1 := by simp [HK.out]
    have HNL : Hid (((x.1 - 1, t) :: r).length = k + 1) := hnl
    clear hnl
    rcases hor with rfl | ⟨rfl, b18⟩
    all_goals
      go_wp2_with (at_builtin; refine StopF.out ?_)
      refine ⟨app42 rfl (.tmp 30) (.tmp 34) rfl base (.slice (some ⟨g, 0, none⟩) (k + 1) cap) ((x.1 - 1, t) :: r) rfl (HL2.out.on ((Below.refl _ _).alloc (Nat.le_refl _) _)) ⟨W2.heap.size, 0, none⟩ 1 (n, 0) rfl (Wk.news_new rfl _ _) (by rw [HNL.out]; omega) (by simp; omega) ?_⟩
      intro g4 cap4 W4 hl4 hg4 hlt4
      have HLI : Hid (LI base w S (.slice (some ⟨g4, 0, none⟩) (k + 1 + 1) cap4) W4) := by
        rw [HNL.out] at hl4
        refine ⟨(n, 0), (x.1 - 1, t) :: r, g4, cap4, by rw [HNL.out], hl4, by rw [HS2.out], ?_, by rw [HNL.out]; omega, ?_⟩
        · refine (HB2.out.alloc hsz2 _).grown hg4 (by simp; omega) (fun j hj => by cases hj; exact hbg)
        · obtain ⟨g5, c5, e5, -, h5⟩ := hl4.form
          cases e5
          exact h5
      rw [HNL.out]
      clear hl4 hg4
      go_wp2
      go_loopw [0] (fun x0 wr => Hid (LI base w S x0 wr)) (fun x0 _ => lenOf x0)
      case atStart => exact HLI
      case round =>
        obtain ⟨y, r', G, C, rfl, hl, hpop, hbw, hr2, hC⟩ := hrel.out
        obtain ⟨c0, c1⟩ := hl.head
        have HLr : Hid (Lvs wr base (.slice (some ⟨G, 0, none⟩) (r'.length + 1) C) (y :: r')) := hl
        have HPO : Hid (popL (y :: r') = popL S) := hpop
        have HBW : Hid (Below base w wr) := hbw
        clear hl hpop hbw hrel
        cases r' with
        | nil =>
          have HF : Hid (Lvs wr base (.slice (some ⟨G, 0, none⟩) 1 C) (popL S)) := by
            rw [← HPO.out, popL_one]
            exact HLr.out
          clear c0 c1
          go_wp2
          go_ret
          exact ⟨_, rfl, by rw [HST.out]; exact HF, HBW⟩
        | cons y2 r2 =>
          obtain ⟨m, hm⟩ : ∃ m, r2.length = m := ⟨_, rfl⟩
          have HM : Hid (r2.length = m) := hm
          simp only [List.length_cons] at c0 c1 hr2 hC ⊢
          rw [hm] at c0 c1 hr2 hC ⊢
          clear hm
          by_cases hy : y.1 = 0
          · have HN : Hid (LI base w S (.slice (some ⟨G, 0, none⟩) (m + 1) C) wr) := by
              have h1 := HLr.out
              simp only [List.length_cons] at h1
              have h2 := h1.pop
              rw [HM.out] at h2
              refine ⟨y2, r2, G, C, by rw [HM.out], h2, ?_, HBW.out, by rw [HM.out]; omega, by rw [HM.out]; omega⟩
              rw [← HPO.out]
              exact (popL_first hy (by simp)).symm
            have by0 : (y.1 == 0) = true := by rw [hy]; rfl
            clear hy
            go_wp2
            exact ⟨HN, by simp [lenOf]⟩
          · have HF : Hid (Lvs wr base (.slice (some ⟨G, 0, none⟩) (m + 1 + 1) C) (popL S)) := by
              rw [← HPO.out, popL_some _ hy]
              have h1 := HLr.out
              simp only [List.length_cons] at h1
              rw [HM.out] at h1
              exact h1
            have by0 : (y.1 == 0) = false := beq_eq_false_iff_ne.2 hy
            clear hy
            go_wp2
            go_ret
            exact ⟨_, rfl, by rw [HST.out]; exact HF, HBW⟩
  · have HS2 : Hid (S = (x.1 - 1, t) :: r) := by
      show S = _
      rw [← HS.out]
      show (if (r.length + 1) % 2 = 0 ∨ vr = 18 then (n, 0) :: (x.1 - 1, t) :: r else (x.1 - 1, t) :: r) = _
      rw [HK.out, if_neg hp]
    obtain ⟨rfl, b18⟩ : z = false ∧ (vr == 18) = false := ⟨by rw [← hz]; simp; omega, beq_eq_false_iff_ne.2 (fun h => hp (.inr h))⟩
    clear hp hz HS
    have HLI : Hid (LI base w S (.slice (some ⟨g, 0, none⟩) (k + 1) cap) W2) := ⟨(x.1 - 1, t), r, g, cap, by rw [HK.out], HL2.out, by rw [HS2.out], HB2.out, by rw [HK.out]; omega, by rw [HK.out]; omega⟩
    go_wp2
    go_loopw [0] (fun x0 wr => Hid (LI base w S x0 wr)) (fun x0 _ => lenOf x0)
    case atStart => exact HLI
    case round =>
      obtain ⟨y, r', G, C, rfl, hl, hpop, hbw, hr2, hC⟩ := hrel.out
      obtain ⟨c0, c1⟩ := hl.head
      have HLr : Hid (Lvs wr base (.slice (some ⟨G, 0, none⟩) (r'.length + 1) C) (y :: r')) := hl
      have HPO : Hid (popL (y :: r') = popL S) := hpop
      have HBW : Hid (Below base w wr) := hbw
      clear hl hpop hbw hrel
      cases r' with
      | nil =>
        have HF : Hid (Lvs wr base (.slice (some ⟨G, 0, none⟩) 1 C) (popL S)) := by
          rw [← HPO.out, popL_one]
          exact HLr.out
        clear c0 c1
        go_wp2
        go_ret
        exact ⟨_, rfl, by rw [HST.out]; exact HF, HBW⟩
      | cons y2 r2 =>
        obtain ⟨m, hm⟩ : ∃ m, r2.length = m := ⟨_, rfl⟩
        have HM : Hid (r2.length = m) := hm
        simp only [List.length_cons] at c0 c1 hr2 hC ⊢
        rw [hm] at c0 c1 hr2 hC ⊢
        clear hm
        by_cases hy : y.1 = 0
        · have HN : Hid (LI base w S (.slice (some ⟨G, 0, none⟩) (m + 1) C) wr) := by
            have h1 := HLr.out
            simp only [List.length_cons] at h1
            have h2 := h1.pop
            rw [HM.out] at h2
            refine ⟨y2, r2, G, C, by rw [HM.out], h2, ?_, HBW.out, by rw [HM.out]; omega, by rw [HM.out]; omega⟩
            rw [← HPO.out]
            exact (popL_first hy (by simp)).symm
          have by0 : (y.1 == 0) = true := by rw [hy]; rfl
          clear hy
          go_wp2
          exact ⟨HN, by simp [lenOf]⟩
        · have HF : Hid (Lvs wr base (.slice (some ⟨G, 0, none⟩) (m + 1 + 1) C) (popL S)) := by
            rw [← HPO.out, popL_some _ hy]
            have h1 := HLr.out
            simp only [List.length_cons] at h1
            rw [HM.out] at h1
            exact h1
          have by0 : (y.1 == 0) = false := beq_eq_false_iff_ne.2 hy
          clear hy
          go_wp2
          go_ret
          exact ⟨_, rfl, by rw [HST.out]; exact HF, HBW⟩
end Go.Proofs.YtilkogodhjnemaaGreatDoor
