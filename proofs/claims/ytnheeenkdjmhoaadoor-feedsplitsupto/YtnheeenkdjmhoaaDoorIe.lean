import Derived.Test.YtnheeenkdjmhoaaDoorId
import Derived.Deep.CutRange
/-
  DERIVED. The document's Split.
-/
namespace Go.Proofs.YtnheeenkdjmhoaaDoor
open Go Go.Proofs Go.RowKit Go.Sort

/-- A fault's place in memory, as it was made. -/
structure ResN (B : Nat) (W : World) : Prop where
  c0 : W.cell? ⟨B, 0, none⟩ = some (.slice none 0 0)
  c1 : W.cell? ⟨B, 1, none⟩ = some (.int .i64 0)
  fr : ∀ j, W.frozen? ⟨B, j, none⟩ = false
  ty : ∃ cs fr, W.heap[B]? = some (.cells cs 44 fr)
theorem ResN.of {B : Nat} {W W' : World} (h : ResN B W) (hh : W'.heap[B]? = W.heap[B]?) : ResN B W' := by
  have e1 : ∀ j, W'.cell? ⟨B, j, none⟩ = W.cell? ⟨B, j, none⟩ := fun j => by simp only [World.cell?, hh]
  have e2 : ∀ j, W'.frozen? ⟨B, j, none⟩ = W.frozen? ⟨B, j, none⟩ := fun j => by simp only [World.frozen?, hh]
  exact ⟨(e1 0).trans h.c0, (e1 1).trans h.c1, fun j => (e2 j).trans (h.fr j), by rw [hh]; exact h.ty⟩
theorem ResN.lt {B : Nat} {W : World} (h : ResN B W) : B < W.heap.size := cell_lt h.c0
theorem ResN.on {B : Nat} {W W' : World} (h : ResN B W) (hb : Below W.heap.size W W') : ResN B W' := h.of (hb.block B h.lt)
theorem ResN.ne {B g : Nat} {W : World} {s : ByteArray} (h : ResN B W) (hg : W.cell? ⟨g, 0, none⟩ = some (.string s)) : B ≠ g := by
  intro e; subst e; rw [h.c0] at hg; cases hg
theorem own_res {W : World} {B b e n : Nat} {v : Value} {xs : List Value} (h : W.ownsRow b e 1 v n xs) (hf : ResN B W) (he : e ≠ 44) (x y : Value) : ((W.setCell ⟨B, 0, none⟩ x).setCell ⟨B, 1, none⟩ y).ownsRow b e 1 v n xs := by
  refine owns_of h fun g hv => ?_
  have hne : g ≠ B := by
    intro e1; subst e1
    obtain ⟨cs, fr, hh⟩ := hf.ty
    rcases h.2 with ⟨h1, _⟩ | ⟨g1, c1, cur1, h1, _, hh1, _⟩
    · rw [h1] at hv; cases hv
    · rw [h1] at hv
      have e1 : g1 = g := by simpa [Value.ownBlock] using hv
      subst e1
      rw [hh1] at hh
      simp at hh
      exact he hh.2.1
  rw [Below.heap_setCell _ _ _ _ hne, Below.heap_setCell _ _ _ _ hne]
theorem SegsAt.res {W : World} {B b : Nat} {v : Value} {L : Segs} (h : SegsAt W b v L) (hf : ResN B W) (x y : Value) : SegsAt ((W.setCell ⟨B, 0, none⟩ x).setCell ⟨B, 1, none⟩ y) b v L := by
  obtain ⟨vals, h1, h2⟩ := h
  exact ⟨vals, own_res h1 hf (by decide) x y, h2.of fun _ _ _ _ h => own_res h hf (by decide) x y⟩

set_option maxRecDepth 100000 in
theorem no_any (a c : Int) (w : World) : Calls Tryd.prog 29 #[.int .i64 c, .int .i64 a] w fun e w' => ∃ v, e = .returned v ∧ RErr w' v (some (a, c)) ∧ Below w.heap.size w w' := by
  obtain ⟨W1, hW1⟩ : ∃ W1, w.alloc (.cells #[.slice none 0 0, .int .i64 0] 44) = W1 := ⟨_, rfl⟩
  have hb1 : Below w.heap.size w W1 := hW1 ▸ (Below.refl _ _).alloc (Nat.le_refl _) _
  have hs1 : w.heap.size < W1.heap.size := by rw [← hW1]; simp
  have a0 : W1.cell? ⟨w.heap.size, 0, none⟩ = some (.slice none 0 0) := by rw [← hW1]; simp
  have a1 : W1.cell? ⟨w.heap.size, 1, none⟩ = some (.int .i64 0) := by rw [← hW1]; simp
  have af : ∀ i, W1.frozen? ⟨w.heap.size, i, none⟩ = false := fun i => by rw [← hW1]; simp
  go_enter Tryd.func29, Tryd.ntmps29
  go_wp2_with (go_at_call 50; refine StopF.out ?_)
  clear hW1
  refine StopF.mk ((new0_any c a _).mono ?_)
  rintro e W2 ⟨rfl, hb2, g0, g1, hlt⟩
  have x0 := (hb2.cell (p := ⟨w.heap.size, 0, none⟩) hs1).trans a0
  have x1 := (hb2.cell (p := ⟨w.heap.size, 1, none⟩) hs1).trans a1
  have xf := fun j => (hb2.frozen (p := ⟨w.heap.size, j, none⟩) hs1).trans (af j)
  go_wp2
  refine bodyPost_ret (v := .agg #[.slice (some ⟨W1.heap.size + 1, 0, none⟩) 1 1, .int .i64 c]) (by simp [results, Tryd.results29, go_sem, x0, x1]) rfl ?_
  refine ⟨_, rfl, ⟨_, _, rfl, ?_, ?_⟩, ((hb1.trans (hb2.mono hb1.size)).setCell (p := ⟨w.heap.size, 0, none⟩) (Nat.le_refl _) _).setCell (p := ⟨w.heap.size, 1, none⟩) (Nat.le_refl _) _⟩
  · exact (cell_set_off (by omega)).trans ((cell_set_off (by omega)).trans g0)
  · exact (cell_set_off (by omega)).trans ((cell_set_off (by omega)).trans g1)
set_option maxRecDepth 100000 in
theorem none_any (w : World) : Calls Tryd.prog 32 #[] w fun e w' => e = .returned (.agg #[.slice none 0 0, .int .i64 0]) ∧ Below w.heap.size w w' := by
  go_enter Tryd.func32, Tryd.ntmps32
  go_wp2
  exact bodyPost_ret (v := .agg #[.slice none 0 0, .int .i64 0]) (by simp [results, Tryd.results32, go_sem]) rfl ⟨rfl, (Below.refl _ _).alloc (Nat.le_refl _) _⟩
/-- A fault laid into its place. -/
theorem RErr.put {B : Nat} {W : World} {o : Option (Int × Int)} {a n p : _} {z : Int} (h : RErr W (.agg #[.slice a n p, .int .i64 z]) o) (hr : ResN B W) (x y : Value) : RErr ((W.setCell ⟨B, 0, none⟩ x).setCell ⟨B, 1, none⟩ y) (.agg #[.slice a n p, .int .i64 z]) o := by
  cases o with
  | none => exact h
  | some q =>
    obtain ⟨g, k, e, h0, h1⟩ := h
    have hne := hr.ne h0
    exact ⟨g, k, e, (cell_set_off hne).trans ((cell_set_off hne).trans h0), (cell_set_off hne).trans ((cell_set_off hne).trans h1)⟩
theorem RErr.form {W : World} {u : Value} {o : Option (Int × Int)} (h : RErr W u o) : ∃ a n p z, u = .agg #[.slice a n p, .int .i64 z] := by
  cases o with
  | none => exact ⟨_, _, _, _, h⟩
  | some z => obtain ⟨g, k, e, _⟩ := h; exact ⟨_, _, _, _, e⟩

/-- What stands between two rounds of the document's Split. -/
structure SrI (w : World) (B gp cp : Nat) (ps : List (List UInt8)) (wr : World) (v6 : Value) (acc : Segs) : Prop where
  bel : Below B w wr
  fl : ResN B wr
  pcs : ∃ b, wr.ownsRow b 9 1 (.slice (some ⟨gp, 0, none⟩) ps.length cp) ps.length (strs ps)
  seg : SegsAt wr (B + 1) v6 acc
theorem SrI.on {w : World} {B gp cp : Nat} {ps : List (List UInt8)} {wr W : World} {v6 : Value} {acc : Segs} (h : SrI w B gp cp ps wr v6 acc) (hb : Below wr.heap.size wr W) : SrI w B gp cp ps W v6 acc :=
  ⟨h.bel.trans (hb.mono (Nat.le_of_lt h.fl.lt)), h.fl.of (hb.block B h.fl.lt), by obtain ⟨b, hp⟩ := h.pcs; exact ⟨b, ownsRow_below hp hb (Nat.le_refl _)⟩, h.seg.on hb⟩
theorem SrI.snoc {w : World} {B gp cp : Nat} {ps : List (List UInt8)} {wr W2 : World} {v6 : Value} {acc : Segs} (h : SrI w B gp cp ps wr v6 acc) {vals : List Value} (hv : wr.ownsRow (B + 1) 38 1 v6 acc.length vals) (hr : SegRows wr vals acc)
    {b : Nat} {u : Value} {fs : List (List UInt8)} (hu : wr.ownsRow b 9 1 u fs.length (strs fs)) {o : Obj} {g cap : Nat} (hown : W2.ownsRow (B + 1) 38 1 (.slice (some ⟨g, 0, none⟩) (acc.length + 1) cap) (acc.length + 1) (vals ++ [u])) (hgr : (wr.alloc o).grownBy W2 v6.ownBlock) :
    SrI w B gp cp ps W2 (.slice (some ⟨g, 0, none⟩) (acc.length + 1) cap) (acc ++ [fs]) := by
  have ha : Below wr.heap.size wr (wr.alloc o) := (Below.refl _ _).alloc (Nat.le_refl _) _
  have hi := h.on ha
  have hv' := ownsRow_below hv ha (Nat.le_refl _)
  have hBlt := hi.fl.lt
  refine ⟨hi.bel.grown hgr (by omega) (fun j hj => by have := (hv'.lt j hj).1; omega), hi.fl.of (hgr.block B hBlt fun hj => by have := (hv'.lt B hj.symm).1; omega), ?_, vals ++ [u], ?_, ?_⟩
  · obtain ⟨b', hp⟩ := hi.pcs; exact ⟨b', own9_grown hp hv' hgr⟩
  · rw [List.length_append]; exact hown
  · refine SegRows.snoc ?_ (own9_grown (ownsRow_below hu ha (Nat.le_refl _)) hv' hgr)
    exact hr.of fun _ _ _ _ hx => own9_grown (ownsRow_below hx ha (Nat.le_refl _)) hv' hgr
def SrRel (w : World) (B gp cp : Nat) (C : List (List UInt8)) (f : UInt8) (v7 i : Value) (wr : World) : Prop :=
  ∃ (k : Nat) (acc : Segs), k ≤ C.length ∧ i = .int .i64 k ∧ SrI w B gp cp C wr v7 acc ∧ docGo f (C.drop k) acc = docGo f C [] ∧ acc.length = k
theorem docGo_cons (f : UInt8) (p : List UInt8) (r : List (List UInt8)) (acc : Segs) : docGo f (p :: r) acc = if isSegB f p = false then .inl acc.length else docGo f r (acc ++ [if acc = [] then headR f (cutU f p) else cutU f p]) := rfl
theorem segL_mem {ps : List (List UInt8)} {p : List UInt8} (h : p ∈ segL ps) : ∃ q ∈ ps, p.length ≤ q.length := by
  unfold segL at h
  obtain ⟨h1, _⟩ := List.mem_filter.1 h
  obtain ⟨q, hq, rfl⟩ := List.mem_map.1 h1
  exact ⟨q, hq, trimL_len q⟩
theorem segL_len (ps : List (List UInt8)) : (segL ps).length ≤ ps.length := by
  unfold segL; exact Nat.le_trans (List.length_filter_le _ _) (by simp)
theorem own_pos2 {W : World} {base n : Nat} {e : TypeId} {size : Nat} {ao : Option Addr} {cap : Nat} {xs : List Value} (h : W.ownsRow base e size (.slice ao n cap) n xs) (hn : 0 < n) : ∃ g, ao = some ⟨g, 0, none⟩ := by
  obtain ⟨g, c, hv⟩ := owns_pos h hn
  simp at hv
  exact ⟨g, hv.1⟩

/-- A goal that no look goes into. -/
structure ShutQ (p : Prop) : Prop where
  out : p

theorem sq_skip {P : Program} {ops : Array Oper} {C : World → Prop} {Q : Act → Prop} {a : Act} {o : Oper} {rest : List Oper} (hwant : Region.wanted o (yielded ops a.tmps) = false) (h : ShutQ (wpQuiet P ops C Q rest (a.put o.dst undef))) : ShutQ (wpQuiet P ops C Q (o :: rest) a) := by
  refine ⟨?_⟩
  unfold wpQuiet
  rw [if_neg (by simp [hwant])]
  exact h.out
theorem sq_move {P : Program} {ops : Array Oper} {C : World → Prop} {Q : Act → Prop} {a : Act} {o : Oper} {rest : List Oper} (x : Operand) (ho : o.op = .move x) (hwant : Region.wanted o (yielded ops a.tmps) = true) (h : ShutQ (wpQuiet P ops C Q rest (a.put o.dst (a.eval x)))) : ShutQ (wpQuiet P ops C Q (o :: rest) a) := by
  refine ⟨?_⟩
  unfold wpQuiet
  rw [if_pos hwant]
  refine ⟨a.eval x, fun w hw => ?_, h.out⟩
  unfold Oper.quietAt execOp
  simp only [ho, Sem.run_pure]
  exact ⟨rfl, rfl⟩
theorem sq_pick {P : Program} {ops : Array Oper} {C : World → Prop} {Q : Act → Prop} {a : Act} {o : Oper} {rest : List Oper} (c x y : Operand) (b : Bool) (ho : o.op = .pick c x y) (hc : a.eval c = .bool b) (hwant : Region.wanted o (yielded ops a.tmps) = true) (h : ShutQ (wpQuiet P ops C Q rest (a.put o.dst (if b = true then a.eval x else a.eval y)))) : ShutQ (wpQuiet P ops C Q (o :: rest) a) := by
  refine ⟨?_⟩
  unfold wpQuiet
  rw [if_pos hwant]
  refine ⟨_, fun w hw => ?_, h.out⟩
  unfold Oper.quietAt execOp
  simp only [ho, hc, asBool, Sem.run_bind, Sem.run_pure, Result.andThen_ok]
  exact ⟨rfl, rfl⟩
set_option maxRecDepth 100000 in
set_option maxHeartbeats 8000000 in
theorem splitR_any (w : World) (s : ByteArray) (hl : s.size ≤ 16000000) (o : Option (Int × Int)) (L : Segs) (h : SplO (tl s) o L) :
    Calls Tryd.prog 12 #[.string s] w fun e w' => ∃ v u, e = .returned (.tuple #[v, u]) ∧ SegsAt w' (w.heap.size + 1) v L ∧ RErr w' u o ∧ Below w.heap.size w w' := by
  have hm : Tryd.prog.follows .mixedOrders = true := by kernel_rfl
  obtain ⟨i0, hi, hz0, hz1, hz2⟩ := info_parts info38s
  obtain ⟨B, hB⟩ : ∃ B, w.heap.size = B := ⟨_, rfl⟩
  have HB : Hid (w.heap.size = B) := hB
  obtain ⟨W1, hW1⟩ : ∃ W1, w.alloc (.cells #[.slice none 0 0, .int .i64 0] 44) = W1 := ⟨_, rfl⟩
  have hb1 : Below B w W1 := hB ▸ hW1 ▸ (Below.refl _ _).alloc (Nat.le_refl _) _
  have hr1 : ResN B W1 := by rw [← hW1, ← hB]; exact ⟨by simp, by simp, fun j => by simp, _, _, heap_alloc_new w _⟩
  have HB1 : Hid (Below B w W1) := hb1
  have HR1 : Hid (ResN B W1) := hr1
  clear hb1 hr1
  have hsg := segs_any W1 s hl
  rw [hB]
  go_enter Tryd.func12, Tryd.ntmps12
  go_wp2_with (go_at_call 27; refine StopF.out ?_)
  clear hW1
  refine StopF.mk (hsg.mono ?_)
  rintro e W2 ⟨lv, bl, rfl, hbl, hol, hb2⟩
  clear hsg
  have HR2 : Hid (ResN B W2) := HR1.out.on hb2
  have HB2 : Hid (Below B w W2) := HB1.out.trans (hb2.mono (Nat.le_of_lt HR1.out.lt))
  obtain ⟨ao, cap, rfl⟩ := own_slice hol
  have HOL : Hid (W2.ownsRow bl 9 1 (.slice ao (segL (cutU 13 (tl s))).length cap) (segL (cutU 13 (tl s))).length (strs (segL (cutU 13 (tl s))))) := hol
  clear hb2 hol hbl HR1 HB1 hB
  -- the text without what is let go ahead
  obtain ⟨b, x, hways, hxt, hxf, hxs, htx⟩ : ∃ (b : Bool) (x : ByteArray), ((s.size = 0 ∧ b = false) ∨ (∃ (h0 : 0 < s.size), (s[0]'h0).toNat = 10 ∧ b = true) ∨ (∃ (h0 : 0 < s.size), (((s[0]'h0).toNat : Int) == 10) = false ∧ b = false)) ∧ (b = true → 1 ≤ s.size ∧ x = s.extract 1 s.size) ∧ (b = false → x = s) ∧ x.size ≤ s.size ∧ trimL (tl s) = tl x := by
    cases hq : tl s with
    | nil => 
      have h0 : s.size = 0 := by rw [← tl_len, hq]; rfl
      exact ⟨false, s, .inl ⟨h0, rfl⟩, fun h => by (cases h), fun _ => rfl, Nat.le_refl _, by rw [hq]; rfl⟩
    | cons a r =>
      have h0 : 0 < s.size := by rw [← tl_len, hq]; simp
      have e0 : s[0]'h0 = a := by rw [← tl_getD s 0 h0, hq]; rfl
      by_cases ha : a = 10
      · subst ha
        refine ⟨true, s.extract 1 s.size, .inr (.inl ⟨h0, by rw [e0]; rfl, rfl⟩), fun _ => ⟨h0, rfl⟩, fun h => by (cases h), ?_, ?_⟩
        · rw [size_between s (Nat.le_refl _)]; omega
        · rw [tl_extract, ← tl_len, List.take_length, hq]; rfl
      · refine ⟨false, s, .inr (.inr ⟨h0, ?_, rfl⟩), fun h => by (cases h), fun _ => rfl, Nat.le_refl _, ?_⟩
        · rw [e0]; simp; intro hh
          have h9 : a.toNat = 10 := by omega
          exact ha (UInt8.toNat_inj.1 h9)
        · rw [hq]; unfold trimL; split
          · next hh => simp at hh; exact absurd hh.1 ha
          · rfl
  have HXT : Hid (b = true → 1 ≤ s.size ∧ x = s.extract 1 s.size) := hxt
  have HXF : Hid (b = false → x = s) := hxf
  have HTX : Hid (trimL (tl s) = tl x) := htx
  clear hxt hxf htx
  go_upto_region 3 with fail
  go_cut [20] from 10 (fun s20 wx => s20 = .bool b ∧ wx = W2)
  case first =>
    rcases hways with ⟨h0, rfl⟩ | ⟨h0, h1, rfl⟩ | ⟨h0, h1, rfl⟩
    · go_wp2
      go_meet
      case rel => exact ⟨rfl, rfl⟩
    · have h9 : (((s[0]'h0).toNat : Int) == 10) = true := by rw [h1]; rfl
      have h2 : decide (0 < (s.size : Int)) = true := by simp; omega
      go_wp2
      go_meet
      case rel => exact ⟨rfl, rfl⟩
    · have h2 : decide (0 < (s.size : Int)) = true := by simp; omega
      go_wp2
      go_meet
      case rel => exact ⟨rfl, rfl⟩
  clear hways
  obtain ⟨rfl, hwc⟩ := hcut
  obtain rfl : W2 = wc := hwc.symm
  clear hwc
  go_upto_if 20 with fail
  go_cut [5] from 10 (fun s5 wx => s5 = .string x ∧ wx = W2)
  case first =>
    cases b with
    | true =>
      obtain ⟨h0, rfl⟩ := HXT.out rfl
      clear HXT HXF
      have h2 : (1 : Int) ≤ (s.size : Int) := by omega
      go_wp2
      go_meet
      case rel => exact ⟨rfl, rfl⟩
    | false =>
      obtain rfl : x = s := HXF.out rfl
      clear HXT HXF
      go_wp2
      go_meet
      case rel => exact ⟨rfl, rfl⟩
  obtain ⟨rfl, hwc⟩ := hcut
  obtain rfl : W2 = wc := hwc.symm
  clear hwc
  clear HXT HXF
  go_upto_region 5 with fail
  obtain ⟨bd, hbd⟩ : ∃ bd : Bool, (bd = true ↔ ¬ HdOK (trimL (tl s))) := by
    by_cases hh : HdOK (trimL (tl s))
    · exact ⟨false, by simp [hh]⟩
    · exact ⟨true, by simp [hh]⟩
  have HBD : Hid (bd = true ↔ ¬ HdOK (trimL (tl s))) := hbd
  clear hbd
  go_cut [4, 68] from 10 (fun s4 s68 wx => s4 = .slice ao (segL (cutU 13 (tl s))).length cap ∧ s68 = .bool bd ∧ Hid (Below W2.heap.size W2 wx))
  case first =>
    by_cases hx3 : 3 ≤ x.size
    · have t1 : decide ((x.size : Int) < 3) = false := by simp; omega
      have hx3i : (3 : Int) ≤ (x.size : Int) := by omega
      have e3 : tl (x.extract 0 3) = (tl x).take 3 := by rw [tl_extract]; rfl
      by_cases hM : (tl x).take 3 = [77, 83, 72]
      · have t2 : ((x.extract 0 3).toList == [77, 83, 72]) = true := by rw [ByteArray.toList_eq]; rw [hM] at e3; simpa [tl] using e3
        have hfirst := segs_first (l := tl s) (by rw [HTX.out]; exact hM)
        obtain ⟨s0, r, q, hC, hq1, hq2, hs3⟩ := hfirst
        have hHd := first_hd hq1 hq2
        obtain ⟨z, hz⟩ : ∃ z, bs1 s0 = z := ⟨_, rfl⟩
        have hzt : tl z = s0 := by rw [← hz, tl_bs1]
        have HOL2 := HOL.out
        rw [hC] at HOL2
        obtain ⟨g, cp, hsl⟩ := owns_pos HOL2 (by simp)
        obtain ⟨N, hN⟩ : ∃ N, (segL (cutU 13 (tl s))).length = N := ⟨_, rfl⟩
        have hN1 : 1 ≤ N := by rw [← hN, hC]; simp
        have hsl2 : Value.slice ao N cap = .slice (some ⟨g, 0, none⟩) N cap := by
          rw [← hN, hC]; simp at hsl ⊢; exact hsl.1
        have hc0 : W2.cell? ⟨g, 0, none⟩ = some (.string z) := by
          rw [hsl] at HOL2
          have h1 := HOL2.cellAt 0 (by simp)
          rw [h1]; simp [strs, hz]
        have k0 := cell_regrown hc0
        rw [hN, hsl2]
        have HSL : Hid (Value.slice (some ⟨g, 0, none⟩) N cap = .slice ao (segL (cutU 13 (tl s))).length cap) := by rw [hN]; exact hsl2.symm
        have hN0 : ((N : Int) == 0) = false := by simp; omega
        have hNi : (0 : Int) < (N : Int) := by omega
        have hN2 : 0 < N := hN1
        have HB9 : Hid (bd = true ↔ ¬ HdOK s0) := by have := HBD.out; rw [hHd] at this; exact this
        have HS3 : Hid (s0.take 3 = [77, 83, 72]) := hs3
        have HZT : Hid (tl z = s0) := hzt
        have HT2 : Hid (((x.extract 0 3).toList == [77, 83, 72]) = true) := t2
        have hz3 : 3 ≤ z.size := by
          have := congrArg List.length hs3
          rw [List.length_take, ← hzt, tl_len] at this; simp at this; omega
        have t3 : ((z.extract 0 3).toList == [77, 83, 72]) = true := by
          have e4 : tl (z.extract 0 3) = (tl z).take 3 := by rw [tl_extract]; rfl
          rw [hzt, hs3] at e4
          rw [ByteArray.toList_eq]; simpa [tl] using e4
        have hz3i : (3 : Int) ≤ (z.size : Int) := by omega
        clear hN hsl2 hsl HOL2 hC hq1 hq2 hHd hs3 hzt hz hc0 HTX HBD e3 hM
        by_cases hz9 : 9 ≤ z.size
        · have t4 : decide ((z.size : Int) < 9) = false := by simp; omega
          have hz9i : (8 : Int) < (z.size : Int) := by omega
          have hz9n : 8 < z.size := hz9
          have hz3n : 3 < z.size := by omega
          have hz3j : (3 : Int) < (z.size : Int) := by omega
          have e5 : tl (z.extract 3 8) = ((tl z).drop 3).take 5 := by rw [tl_extract, List.drop_take]
          obtain ⟨mk, hmk⟩ : ∃ mk, z.extract 3 8 = mk := ⟨_, rfl⟩
          rw [hmk, HZT.out] at e5
          obtain ⟨a8, ha⟩ : ∃ a, (z[8]'(by omega)).toNat = a := ⟨_, rfl⟩
          obtain ⟨a3, hb⟩ : ∃ b, (z[3]'(by omega)).toNat = b := ⟨_, rfl⟩
          have hab : a8 = a3 ↔ s0.getD 8 0 = s0.getD 3 0 := by
            rw [← ha, ← hb, ← tl_getD z 8 (by omega), ← tl_getD z 3 (by omega), HZT.out]; exact UInt8.toNat_inj
          have HAB : Hid (a8 = a3 ↔ s0.getD 8 0 = s0.getD 3 0) := hab
          have HE5 : Hid (tl mk = (s0.drop 3).take 5) := e5
          have hz8i : (8 : Int) ≤ (z.size : Int) := by omega
          clear hab e5
          by_cases hK : MarksOK (tl mk)
          · have c28 : ∀ d os, Calls Tryd.prog 28 #[.string mk] (grow (redrawn W2 d) os) fun x w'' => x = .returned (.bool true) ∧ ∃ p : Regrown, w'' = grow (redrawn W2 p.d) p.os := fun d os => Calls.regrown_of ((marksR_any _ mk).mono fun e w' ⟨b, h1, h2, h3⟩ => ⟨by rw [h1, h2.2 hK], h3⟩)
            have HK : Hid (MarksOK (tl mk)) := hK
            clear hK
            obtain rfl : bd = !((a8 : Int) == (a3 : Int)) := by
              have h1 := HB9.out
              have h9 : 9 ≤ s0.length := by rw [← HZT.out, tl_len]; exact hz9
              have h2 : HdOK s0 ↔ a8 = a3 := ⟨fun h => HAB.out.2 h.2.2.2, fun h => ⟨h9, HS3.out, HE5.out ▸ HK.out, HAB.out.1 h⟩⟩
              rw [h2] at h1
              by_cases he : a8 = a3
              · have : bd = false := by cases bd with
                  | false => rfl
                  | true => exact absurd he (h1.1 rfl)
                rw [this, he]; simp
              · rw [h1.2 he]; symm; simp; omega
            clear HB9
            refine wp_region_quiet_below hm (by kernel_rfl) ?_
            repeat (quiet_step (first | exact c28 _ _))
            refine wpQuiet_nil ?_
            intro _ hw'
            obtain ⟨⟨dq, osq⟩, hw''⟩ := hw'
            subst hw''
            have hBW := below_regrown W2 dq osq
            try go_simp
            go_wp2
            go_meet
            case rel => exact ⟨HSL.out, rfl, hBW⟩
          · have c28 : ∀ d os, Calls Tryd.prog 28 #[.string mk] (grow (redrawn W2 d) os) fun x w'' => x = .returned (.bool false) ∧ ∃ p : Regrown, w'' = grow (redrawn W2 p.d) p.os := fun d os => Calls.regrown_of ((marksR_any _ mk).mono fun e w' ⟨b, h1, h2, h3⟩ => ⟨by rw [h1]; cases b with
              | false => rfl
              | true => exact absurd (h2.1 rfl) hK, h3⟩)
            obtain rfl : bd = true := HB9.out.2 (fun hh => hK (HE5.out ▸ hh.2.2.1))
            clear hK HB9
            refine wp_region_quiet_below hm (by kernel_rfl) ?_
            iterate 35 (quiet_step (first | exact c28 _ _))
            refine ShutQ.out ?_
            refine sq_move (.tmp 57) rfl (by kernel_rfl) ?_
            iterate 9 (refine sq_skip (by kernel_rfl) ?_)
            refine sq_pick (.tmp 58) (.const (.bool true)) (.tmp 67) true rfl (by kernel_rfl) (by kernel_rfl) ?_
            refine ⟨?_⟩
            refine wpQuiet_nil ?_
            intro _ hw'
            obtain ⟨⟨dq, osq⟩, hw''⟩ := hw'
            subst hw''
            have hBW := below_regrown W2 dq osq
            try go_simp
            go_wp2
            go_meet
            case rel => exact ⟨HSL.out, rfl, hBW⟩
        · have t4 : decide ((z.size : Int) < 9) = true := by simp; omega
          obtain rfl : bd = true := HB9.out.2 (fun hh => by have := hh.1; rw [← HZT.out, tl_len] at this; exact hz9 this)
          clear HB9
          refine wp_region_quiet_below hm (by kernel_rfl) ?_
          iterate 20 (quiet_step (fail))
          refine ShutQ.out ?_
          refine sq_move (.tmp 42) rfl (by kernel_rfl) ?_
          iterate 5 (refine sq_skip (by kernel_rfl) ?_)
          refine sq_pick (.tmp 43) (.const (.bool true)) (.tmp 48) true rfl (by kernel_rfl) (by kernel_rfl) ?_
          refine sq_move (.tmp 49) rfl (by kernel_rfl) ?_
          iterate 6 (refine sq_skip (by kernel_rfl) ?_)
          refine sq_pick (.tmp 50) (.const (.bool true)) (.tmp 56) true rfl (by kernel_rfl) (by kernel_rfl) ?_
          refine sq_move (.tmp 57) rfl (by kernel_rfl) ?_
          iterate 9 (refine sq_skip (by kernel_rfl) ?_)
          refine sq_pick (.tmp 58) (.const (.bool true)) (.tmp 67) true rfl (by kernel_rfl) (by kernel_rfl) ?_
          refine ⟨?_⟩
          refine wpQuiet_nil ?_
          intro _ hw'
          obtain ⟨⟨dq, osq⟩, hw''⟩ := hw'
          subst hw''
          have hBW := below_regrown W2 dq osq
          try go_simp
          go_wp2
          go_meet
          case rel => exact ⟨HSL.out, rfl, hBW⟩
      · obtain rfl : bd = true := HBD.out.2 (by rw [HTX.out]; intro hh; exact hM hh.2.1)
        have t2 : ((x.extract 0 3).toList == [77, 83, 72]) = false := by
          rw [ByteArray.toList_eq]
          simp only [beq_eq_false_iff_ne]
          intro hh
          exact hM (e3.symm.trans hh)
        clear e3 hM
        refine wp_region_quiet_below hm (by kernel_rfl) ?_
        iterate 8 (quiet_step (fail))
        refine ShutQ.out ?_
        refine sq_move (.tmp 30) rfl (by kernel_rfl) ?_
        iterate 3 (refine sq_skip (by kernel_rfl) ?_)
        refine sq_pick (.tmp 31) (.const (.bool true)) (.tmp 34) true rfl (by kernel_rfl) (by kernel_rfl) ?_
        refine sq_move (.tmp 35) rfl (by kernel_rfl) ?_
        iterate 5 (refine sq_skip (by kernel_rfl) ?_)
        refine sq_pick (.tmp 36) (.const (.bool true)) (.tmp 41) true rfl (by kernel_rfl) (by kernel_rfl) ?_
        refine sq_move (.tmp 42) rfl (by kernel_rfl) ?_
        iterate 5 (refine sq_skip (by kernel_rfl) ?_)
        refine sq_pick (.tmp 43) (.const (.bool true)) (.tmp 48) true rfl (by kernel_rfl) (by kernel_rfl) ?_
        refine sq_move (.tmp 49) rfl (by kernel_rfl) ?_
        iterate 6 (refine sq_skip (by kernel_rfl) ?_)
        refine sq_pick (.tmp 50) (.const (.bool true)) (.tmp 56) true rfl (by kernel_rfl) (by kernel_rfl) ?_
        refine sq_move (.tmp 57) rfl (by kernel_rfl) ?_
        iterate 9 (refine sq_skip (by kernel_rfl) ?_)
        refine sq_pick (.tmp 58) (.const (.bool true)) (.tmp 67) true rfl (by kernel_rfl) (by kernel_rfl) ?_
        refine ⟨?_⟩
        refine wpQuiet_nil ?_
        intro _ hw'
        obtain ⟨⟨dq, osq⟩, hw''⟩ := hw'
        subst hw''
        have hBW := below_regrown W2 dq osq
        try go_simp
        go_wp2
        go_meet
        case rel => exact ⟨rfl, rfl, hBW⟩
    · obtain rfl : bd = true := HBD.out.2 (by rw [HTX.out]; intro hh; have := hh.1; rw [tl_len] at this; omega)
      have t1 : decide ((x.size : Int) < 3) = true := by simp; omega
      refine wp_region_quiet_below hm (by kernel_rfl) ?_
      iterate 3 (quiet_step (fail))
      refine ShutQ.out ?_
      refine sq_move (.tmp 25) rfl (by kernel_rfl) ?_
      iterate 3 (refine sq_skip (by kernel_rfl) ?_)
      refine sq_pick (.tmp 26) (.const (.bool true)) (.tmp 29) true rfl (by kernel_rfl) (by kernel_rfl) ?_
      refine sq_move (.tmp 30) rfl (by kernel_rfl) ?_
      iterate 3 (refine sq_skip (by kernel_rfl) ?_)
      refine sq_pick (.tmp 31) (.const (.bool true)) (.tmp 34) true rfl (by kernel_rfl) (by kernel_rfl) ?_
      refine sq_move (.tmp 35) rfl (by kernel_rfl) ?_
      iterate 5 (refine sq_skip (by kernel_rfl) ?_)
      refine sq_pick (.tmp 36) (.const (.bool true)) (.tmp 41) true rfl (by kernel_rfl) (by kernel_rfl) ?_
      refine sq_move (.tmp 42) rfl (by kernel_rfl) ?_
      iterate 5 (refine sq_skip (by kernel_rfl) ?_)
      refine sq_pick (.tmp 43) (.const (.bool true)) (.tmp 48) true rfl (by kernel_rfl) (by kernel_rfl) ?_
      refine sq_move (.tmp 49) rfl (by kernel_rfl) ?_
      iterate 6 (refine sq_skip (by kernel_rfl) ?_)
      refine sq_pick (.tmp 50) (.const (.bool true)) (.tmp 56) true rfl (by kernel_rfl) (by kernel_rfl) ?_
      refine sq_move (.tmp 57) rfl (by kernel_rfl) ?_
      iterate 9 (refine sq_skip (by kernel_rfl) ?_)
      refine sq_pick (.tmp 58) (.const (.bool true)) (.tmp 67) true rfl (by kernel_rfl) (by kernel_rfl) ?_
      refine ⟨?_⟩
      refine wpQuiet_nil ?_
      intro _ hw'
      obtain ⟨⟨dq, osq⟩, hw''⟩ := hw'
      subst hw''
      have hBW := below_regrown W2 dq osq
      go_simp
      go_wp2
      go_meet
      case rel => exact ⟨rfl, rfl, hBW⟩
  obtain ⟨rfl, rfl, hBW⟩ := hcut
  have HR3 : Hid (ResN B wc) := HR2.out.on hBW.out
  have HB3 : Hid (Below B w wc) := HB2.out.trans (hBW.out.mono (Nat.le_of_lt HR2.out.lt))
  have HOL3 : Hid (wc.ownsRow bl 9 1 (.slice ao (segL (cutU 13 (tl s))).length cap) (segL (cutU 13 (tl s))).length (strs (segL (cutU 13 (tl s))))) := ownsRow_below HOL.out hBW.out (Nat.le_refl _)
  clear hBW HR2 HB2 HOL HTX hxs
  cases bd with
  | true =>
    have hn := HBD.out.1 rfl
    obtain ⟨rfl, rfl⟩ : o = some (0, 220) ∧ L = [] := by
      cases h with
      | hd _ => exact ⟨rfl, rfl⟩
      | seg n hh _ => exact absurd hh hn
      | good L hh _ => exact absurd hh hn
    clear h HBD hn HOL3
    go_wp2_with (go_at_call 29; refine StopF.out ?_)
    refine StopF.mk ((no_any 0 220 wc).mono ?_)
    rintro e W4 ⟨u, rfl, hu, hb4⟩
    obtain ⟨ua, un, up, uz, rfl⟩ := hu.form
    have hr4 := HR3.out.on hb4
    have HU : Hid (RErr W4 (.agg #[.slice ua un up, .int .i64 uz]) (some (0, 220))) := hu
    have HB4 : Hid (Below B w W4) := HB3.out.trans (hb4.mono (Nat.le_of_lt HR3.out.lt))
    have HR4 : Hid (ResN B W4) := hr4
    obtain ⟨x0, x1, xf, xt⟩ := hr4
    clear hu hb4 HR3 HB3
    go_wp2
    refine bodyPost_ret (v := .tuple #[.slice none 0 0, .agg #[.slice ua un up, .int .i64 uz]]) (by simp [results, Tryd.results12, go_sem, x0, x1]) rfl ?_
    exact ⟨_, _, rfl, ⟨[], World.ownsRow_nil _ _ _ _, rfl, fun i hi => by simp at hi⟩, HU.out.put HR4.out _ _, (HB4.out.setCell (p := ⟨B, 0, none⟩) (Nat.le_refl _) _).setCell (p := ⟨B, 1, none⟩) (Nat.le_refl _) _⟩
  | false =>
    have hH : HdOK (trimL (tl s)) := Classical.byContradiction fun hn => by have := HBD.out.2 hn; cases this
    obtain ⟨s0, r, q, hC, hq1, hq2, hs3⟩ := segs_first hH.2.1
    have hH0 : HdOK s0 := (first_hd hq1 hq2).1 hH
    have hf : fOf (tl s) = s0.getD 3 0 := by
      unfold fOf; rw [hq1, List.getD_eq_getElem?_getD, List.getD_eq_getElem?_getD, List.getElem?_append_left (by have := hH0.1; omega)]
    have hmk : mkOf (tl s) = (s0.drop 3).take 5 := by
      unfold mkOf; rw [hq1, List.drop_append_of_le_length (by have := hH0.1; omega), List.take_append_of_le_length (by rw [List.length_drop]; have := hH0.1; omega)]
    have hda := doc_all (fOf (tl s)) (mkOf (tl s)) (cutU 13 (tl s)) (by
      intro a b hab; rw [hC] at hab; obtain ⟨rfl, rfl⟩ := List.cons.inj hab; rw [hf, hmk]; exact head_same hH0)
    have hpl : (segL (cutU 13 (tl s))).length ≤ s.size + 1 := by have := cutU_len 13 (tl s); rw [tl_len] at this; exact Nat.le_trans (segL_len _) this
    have hpm : ∀ p ∈ segL (cutU 13 (tl s)), p.length ≤ s.size := fun p hp => by
      obtain ⟨q, hq, hle⟩ := segL_mem hp
      have := cutU_mem 13 (tl s) q hq; rw [tl_len] at this; omega
    have h0f : s0.getD 3 0 = fOf (tl s) := hf.symm
    obtain ⟨f, hff⟩ : ∃ f, fOf (tl s) = f := ⟨_, rfl⟩
    have HR : Hid (∀ R, docGo f (segL (cutU 13 (tl s))) [] = R → (∃ n, R = .inl n ∧ o = some ((n : Int), 226) ∧ L = []) ∨ (R = .inr L ∧ o = none)) := by
      intro R hR
      rw [← hff, ← hda] at hR
      cases h with
      | hd hn => exact absurd hH hn
      | seg n _ hs => exact .inl ⟨n, by rw [← hR, hs], rfl, rfl⟩
      | good L _ hs => exact .inr ⟨by rw [← hR, hs], rfl⟩
    rw [hff] at h0f
    obtain ⟨C, hCC⟩ : ∃ C, segL (cutU 13 (tl s)) = C := ⟨_, rfl⟩
    rw [hCC] at HR hpl hpm HOL3 hC
    rw [hCC]
    have hpos : 0 < C.length := by rw [hC]; simp
    have h9 : 9 ≤ s0.length := hH0.1
    obtain ⟨gp, rfl⟩ := own_pos2 HOL3.out hpos
    have HC : Hid (C = s0 :: r) := hC
    have hc0 : wc.cell? ⟨gp, 0, none⟩ = some (.string (bs1 s0)) := by
      have h1 := HOL3.out.cellAt 0 (by omega)
      rw [h1]; simp [strs, hC]
    obtain ⟨z0, hz⟩ : ∃ z, bs1 s0 = z := ⟨_, rfl⟩
    have hzt : tl z0 = s0 := by rw [← hz, tl_bs1]
    have hz9 : 3 < z0.size := by rw [← tl_len, hzt]; omega
    have hz9i : (3 : Int) < (z0.size : Int) := by omega
    obtain ⟨y, hy⟩ : ∃ y, f.toNat = y := ⟨_, rfl⟩
    have hzy : (z0[3]'hz9).toNat = y := by rw [← tl_getD z0 3 hz9, hzt, h0f]; exact hy
    rw [hz] at hc0
    have HY : Hid (f.toNat = y) := hy
    have HPM : Hid (∀ p ∈ C, p.length ≤ s.size) := hpm
    have HS : Hid (SrI w B gp cap C wc (.slice none 0 0) []) := ⟨HB3.out, HR3.out, ⟨_, HOL3.out⟩, [], World.ownsRow_nil _ _ _ _, rfl, fun i hi => by simp at hi⟩
    have hCn : C.length ≤ 16000001 := by omega
    clear h HBD hH hq1 hq2 hs3 hH0 hf hmk hda hff hCC hC hpm h0f hz hzt hy h9 HB3 HR3 HOL3
    go_wp2
    clear hc0 hz9 hz9i hzy
    go_loopw [7, 8] (fun v7 i wr => SrRel w B gp cap C f v7 i wr) (fun _ i _ => C.length - (intOf i).toNat)
    case atStart => exact ⟨0, [], Nat.zero_le _, rfl, HS.out, rfl, rfl⟩
    case round =>
      obtain ⟨k, acc, hk, rfl, hI, hgo, hak⟩ := hrel
      clear HS
      subst hak
      obtain ⟨vals, hv, hr⟩ := hI.seg
      obtain ⟨ao, cp9, rfl⟩ := own_slice hv
      have HI : Hid (SrI w B gp cap C wr (.slice ao acc.length cp9) acc) := hI
      have HV : Hid (wr.ownsRow (B + 1) 38 1 (.slice ao acc.length cp9) acc.length vals) := hv
      have HRr : Hid (SegRows wr vals acc) := hr
      have HGO : Hid (docGo f (C.drop acc.length) acc = docGo f C []) := hgo
      clear hI hv hr hgo
      by_cases hkn : acc.length < C.length
      · obtain ⟨p, hp⟩ : ∃ p, C[acc.length] = p := ⟨_, rfl⟩
        have hcell : wr.cell? ⟨gp, acc.length, none⟩ = some (.string (bs1 p)) := by
          obtain ⟨b, hpc⟩ := HI.out.pcs
          have h1 := hpc.cellAt acc.length (by omega)
          rw [h1]
          simp [strs, hkn, hp]
        have hdr : C.drop acc.length = p :: C.drop (acc.length + 1) := by rw [← hp]; exact List.drop_eq_getElem_cons hkn
        have hpm : p.length ≤ s.size := HPM.out p (by rw [← hp]; exact List.getElem_mem _)
        have hG := HGO.out
        rw [hdr, docGo_cons] at hG
        obtain ⟨z, hz⟩ : ∃ z, bs1 p = z := ⟨_, rfl⟩
        have hzt : tl z = p := by rw [← hz, tl_bs1]
        have hzp : z.size = p.length := by rw [← tl_len, hzt]
        rw [hz] at hcell
        clear hdr hp hz
        obtain ⟨sb, hsb⟩ : ∃ sb, isSegB f p = sb := ⟨_, rfl⟩
        have HSB : Hid (isSegB f p = sb) := hsb
        have HZT : Hid (tl z = p) := hzt
        have HZP : Hid (z.size = p.length) := hzp
        clear hzt hzp hsb
        go_upto_region 12 with fail
        go_cut [102] from 74 to 119 (fun s102 wx => s102 = .bool (!sb) ∧ wx = wr)
        case first =>
          have hsb := HSB.out
          unfold isSegB at hsb
          by_cases h3 : z.size < 3
          · obtain rfl : sb = false := by rw [← hsb, ← HZP.out]; have : ¬ 3 ≤ z.size := by omega
                                          simp [this]
            have d1 : decide ((z.size : Int) < 3) = true := by simp; omega
            clear hsb
            go_wp2
            go_meet
            case rel => exact ⟨rfl, rfl⟩
          · have d1 : decide ((z.size : Int) < 3) = false := by simp; omega
            have g3 : 3 ≤ p.length := by rw [← HZP.out]; omega
            by_cases h4 : z.size = 3
            · obtain rfl : sb = true := by rw [← hsb, ← HZP.out]; simp [h4]
              have d2 : decide ((3 : Int) < (z.size : Int)) = false := by simp; omega
              clear hsb h4
              go_wp2
              go_meet
              case rel => exact ⟨rfl, rfl⟩
            · have d2 : decide ((3 : Int) < (z.size : Int)) = true := by simp; omega
              have d3 : (3 : Int) < (z.size : Int) := by omega
              have d4 : 3 < z.size := by omega
              obtain ⟨b3, hb3⟩ : ∃ b3, (z[3]'d4).toNat = b3 := ⟨_, rfl⟩
              obtain rfl : sb = ((b3 : Int) == (y : Int)) := by
                have e1 : p.getD 3 0 = z[3]'d4 := by rw [← HZT.out]; exact tl_getD z 3 d4
                rw [← hsb, e1]
                have h5 : ¬ p.length = 3 := by rw [← HZP.out]; exact h4
                simp only [g3, h5, decide_true, decide_false, Bool.true_and, Bool.false_or]
                by_cases he : z[3]'d4 = f
                · have : b3 = y := by rw [← hb3, he]; exact HY.out
                  rw [he, this]; simp
                · have : ¬ b3 = y := by
                    rw [← hb3, ← HY.out]; exact fun h => he (UInt8.toNat_inj.1 h)
                  have h6 : ((b3 : Int) == (y : Int)) = false := by simp; omega
                  rw [h6]; simp [he]
              clear hsb h4 HSB
              go_wp2
              go_meet
              case rel => exact ⟨rfl, rfl⟩
        obtain ⟨rfl, hwc⟩ := hcut
        obtain rfl : wr = wc := hwc.symm
        clear hwc
        rw [HSB.out] at hG
        cases sb with
        | false =>
          rw [if_pos rfl] at hG
          rcases HR.out _ hG.symm with ⟨n, hn, ho, hL⟩ | ⟨hn, _⟩
          · obtain rfl : acc.length = n := by simpa using hn
            subst hL
            subst ho
            clear hG hn hcell
            go_wp2_with (go_at_call 29; refine StopF.out ?_)
            refine StopF.mk ((no_any (acc.length : Int) 226 wr).mono ?_)
            rintro e W4 ⟨u, rfl, hu, hb4⟩
            obtain ⟨ua, un, up, uz, rfl⟩ := hu.form
            have hr4 := HI.out.fl.on hb4
            have HU : Hid (RErr W4 (.agg #[.slice ua un up, .int .i64 uz]) (some ((acc.length : Int), 226))) := hu
            have HB4 : Hid (Below B w W4) := HI.out.bel.trans (hb4.mono (Nat.le_of_lt HI.out.fl.lt))
            have HR4 : Hid (ResN B W4) := hr4
            obtain ⟨x0, x1, xf, xt⟩ := hr4
            clear hu hb4
            go_wp2
            refine bodyPost_ret (v := .tuple #[.slice none 0 0, .agg #[.slice ua un up, .int .i64 uz]]) (by simp [results, Tryd.results12, go_sem, x0, x1]) rfl ?_
            exact ⟨_, _, rfl, ⟨[], World.ownsRow_nil _ _ _ _, rfl, fun i hi => by simp at hi⟩, HU.out.put HR4.out _ _, (HB4.out.setCell (p := ⟨B, 0, none⟩) (Nat.le_refl _) _).setCell (p := ⟨B, 1, none⟩) (Nat.le_refl _) _⟩
          · cases hn
        | true =>
          rw [if_neg (by simp)] at hG
          have hcu : Calls Tryd.prog 30 #[.string z, .int .u8 (y : Nat)] wr fun e w' => ∃ v, e = .returned v ∧ w'.ownsRow wr.heap.size 9 1 v (cutU f p).length (strs (cutU f p)) ∧ Below wr.heap.size wr w' := by
            have := cutR_any wr z f (by rw [HZP.out]; omega)
            rw [HZT.out, HY.out] at this
            exact this
          by_cases hac : acc = []
          · skip
            rw [if_pos hac] at hG
            subst hac
            have hcell0 : wr.cell? ⟨gp, 0, none⟩ = some (.string z) := hcell
            have hkn0 : 0 < C.length := hkn
            clear hcell
            simp only [List.length_nil]
            have HI : Hid (SrI w B gp cap C wr (.slice ao 0 cp9) []) := HI.out
            have HV : Hid (wr.ownsRow (B + 1) 38 1 (.slice ao 0 cp9) 0 vals) := HV.out
            have hfp1 : 0 < (cutU f p).length := cutU_pos _ _
            have hfl1 : (cutU f p).length ≤ 16000001 := by have := cutU_len f p; omega
            have hfp : 0 < (headR f (cutU f p)).length := by simp [headR]
            obtain ⟨f1, hf1⟩ : ∃ f1, cutU f p = f1 := ⟨_, rfl⟩
            rw [hf1] at hcu hG hfp1 hfl1 hfp
            obtain ⟨fs, hfs⟩ : ∃ fs, headR f f1 = fs := ⟨_, rfl⟩
            rw [hfs] at hG hfp
            have HFS : Hid (headR f f1 = fs) := hfs
            have HG : Hid (docGo f (C.drop 1) [fs] = docGo f C []) := hG
            clear hf1 hfs hG
            go_wp2_with (go_at_call 30; refine StopF.out ?_)
            refine StopF.mk (hcu.mono ?_)
            rintro e W4 ⟨uv, rfl, hou4, hbu4⟩
            clear hcu
            obtain ⟨g4, c4, rfl⟩ := owns_pos hou4 hfp1
            have hhd := headR_any W4 g4 c4 _ f1 f hfp1 hfl1 hou4
            rw [HFS.out, HY.out] at hhd
            have HB4 : Hid (Below wr.heap.size wr W4) := hbu4
            clear hou4 hbu4
            go_wp2_with (go_at_call 31; refine StopF.out ?_)
            refine StopF.mk (hhd.mono ?_)
            rintro e W5 ⟨uv, rfl, hou, hbu⟩
            clear hhd
            obtain ⟨gu, cu, rfl⟩ := owns_pos hou hfp
            have hbW : Below wr.heap.size wr W5 := HB4.out.trans (hbu.mono HB4.out.size)
            have HI5 : Hid (SrI w B gp cap C W5 (.slice ao 0 cp9) []) := HI.out.on hbW
            have HV5 : Hid (W5.ownsRow (B + 1) 38 1 (.slice ao 0 cp9) 0 vals) := ownsRow_below HV.out hbW (Nat.le_refl _)
            have HR5 : Hid (SegRows W5 vals []) := HRr.out.of fun _ _ _ _ hx => ownsRow_below hx hbW (Nat.le_refl _)
            have HU5 : Hid (W5.ownsRow _ 9 1 (.slice (some ⟨gu, 0, none⟩) (fs).length cu) (fs).length (strs (fs))) := hou
            have HL5 : Hid (B < W5.heap.size) := HI5.out.fl.lt
            clear hou hbu hbW
            go_wp2_with (first | (at_builtin; refine wpList_append_lies _ rfl _ _ 35 rfl (B + 1) 38 i0 _ 1 24 Tryd.underlying35 hi hz0 hz1 hz2 rfl (by decide) (.slice ao 0 cp9) 0 vals rfl (World.ownsRow.alloc HV5.out _) ⟨W5.heap.size, 0, none⟩ 1 1 [.slice (some ⟨gu, 0, none⟩) (fs).length cu] rfl rfl (cell_one_new _ _ _) (by intro u hu; simp at hu; subst hu; rfl) (by decide) (by unfold maxLen; omega) (by omega) (by have := HL5.out; simp; omega) (W5.heap.size + 1) (by simp) ?_) | fail)
            intro g cp2 W6 hown6 hgrow6 hat6 hlt6
            have HI6 : Hid (SrI w B gp cap C W6 (.slice (some ⟨g, 0, none⟩) (0 + 1) cp2) ([fs])) := HI5.out.snoc HV5.out HR5.out HU5.out hown6 hgrow6
            clear hown6 hgrow6 hat6 hlt6
            go_wp2
            go_roundw
            case rel => exact ⟨0 + 1, [fs], by omega, by go_num, HI6.out, HG.out, by simp⟩
            case measure => simp [intOf]; omega
          · skip
            rw [if_neg hac] at hG
            have hfp : 0 < (cutU f p).length := cutU_pos _ _
            obtain ⟨fs, hfs⟩ : ∃ fs, cutU f p = fs := ⟨_, rfl⟩
            rw [hfs] at hcu hG hfp
            have HG : Hid (docGo f (C.drop (acc.length + 1)) (acc ++ [fs]) = docGo f C []) := hG
            have hal0 : 0 < acc.length := List.length_pos_iff.2 hac
            have hali : ((acc.length : Int) == 0) = false := by simp [hac]
            clear hfs hG hac
            go_wp2_with (go_at_call 30; refine StopF.out ?_)
            refine StopF.mk (hcu.mono ?_)
            rintro e W5 ⟨uv, rfl, hou, hbu⟩
            clear hcu
            obtain ⟨gu, cu, rfl⟩ := owns_pos hou hfp
            have hbW : Below wr.heap.size wr W5 := hbu
            have HI5 : Hid (SrI w B gp cap C W5 (.slice ao acc.length cp9) acc) := HI.out.on hbW
            have HV5 : Hid (W5.ownsRow (B + 1) 38 1 (.slice ao acc.length cp9) acc.length vals) := ownsRow_below HV.out hbW (Nat.le_refl _)
            have HR5 : Hid (SegRows W5 vals acc) := HRr.out.of fun _ _ _ _ hx => ownsRow_below hx hbW (Nat.le_refl _)
            have HU5 : Hid (W5.ownsRow _ 9 1 (.slice (some ⟨gu, 0, none⟩) (fs).length cu) (fs).length (strs (fs))) := hou
            have HL5 : Hid (B < W5.heap.size) := HI5.out.fl.lt
            clear hou hbu hbW
            go_wp2_with (first | (at_builtin; refine wpList_append_lies _ rfl _ _ 35 rfl (B + 1) 38 i0 _ 1 24 Tryd.underlying35 hi hz0 hz1 hz2 rfl (by decide) (.slice ao acc.length cp9) acc.length vals rfl (World.ownsRow.alloc HV5.out _) ⟨W5.heap.size, 0, none⟩ 1 1 [.slice (some ⟨gu, 0, none⟩) (fs).length cu] rfl rfl (cell_one_new _ _ _) (by intro u hu; simp at hu; subst hu; rfl) (by decide) (by unfold maxLen; omega) (by omega) (by have := HL5.out; simp; omega) (W5.heap.size + 1) (by simp) ?_) | fail)
            intro g cp2 W6 hown6 hgrow6 hat6 hlt6
            have HI6 : Hid (SrI w B gp cap C W6 (.slice (some ⟨g, 0, none⟩) (acc.length + 1) cp2) (acc ++ [fs])) := HI5.out.snoc HV5.out HR5.out HU5.out hown6 hgrow6
            clear hown6 hgrow6 hat6 hlt6
            go_wp2
            go_roundw
            case rel => exact ⟨acc.length + 1, acc ++ [fs], by omega, by go_num, HI6.out, HG.out, by simp⟩
            case measure => simp [intOf]; omega
      · have hke : acc.length = C.length := by omega
        have hG := HGO.out
        rw [hke, List.drop_length] at hG
        have hG' : Sum.inr acc = docGo f C [] := hG
        rcases HR.out _ hG'.symm with ⟨n, hn, _⟩ | ⟨hn, ho⟩
        · cases hn
        · obtain rfl : acc = L := by simpa using hn
          subst ho
          clear hG hG' hn hke
          go_wp2_with (go_at_call 32; refine StopF.out ?_)
          refine StopF.mk ((none_any wr).mono ?_)
          rintro e W4 ⟨rfl, hb4⟩
          have HI4 : Hid (SrI w B gp cap C W4 (.slice ao acc.length cp9) acc) := HI.out.on hb4
          obtain ⟨x0, x1, xf, xt⟩ := HI4.out.fl
          clear hb4
          go_wp2
          refine bodyPost_ret (v := .tuple #[.slice ao acc.length cp9, .agg #[.slice none 0 0, .int .i64 0]]) (by simp [results, Tryd.results12, go_sem, x0, x1]) rfl ?_
          exact ⟨_, _, rfl, HI4.out.seg.res ⟨x0, x1, xf, xt⟩ _ _, rfl, (HI4.out.bel.setCell (p := ⟨B, 0, none⟩) (Nat.le_refl _) _).setCell (p := ⟨B, 1, none⟩) (Nat.le_refl _) _⟩
end Go.Proofs.YtnheeenkdjmhoaaDoor
