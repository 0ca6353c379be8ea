import Derived.Test.YtnheeenkdjmhoaaDoorP
/-
  DERIVED. split of the program.
-/
namespace Go.Proofs.YtnheeenkdjmhoaaDoor
open Go Go.Proofs Go.RowKit

/-- The place of the flaw, as it was made. -/
structure FlawAt (B : Nat) (W : World) : Prop where
  c0 : W.cell? ⟨B, 0, none⟩ = some (.int .i64 0)
  c1 : W.cell? ⟨B, 1, none⟩ = some (.int .i64 0)
  fr : ∀ j, W.frozen? ⟨B, j, none⟩ = false
  ty : ∃ cs fr, W.heap[B]? = some (.cells cs 60 fr)
theorem FlawAt.of {B : Nat} {W W' : World} (h : FlawAt B W) (hh : W'.heap[B]? = W.heap[B]?) : FlawAt B W' := by
  have e1 : ∀ j, W'.cell? ⟨B, j, none⟩ = W.cell? ⟨B, j, none⟩ := fun j => by simp only [World.cell?, hh]
  have e2 : ∀ j, W'.frozen? ⟨B, j, none⟩ = W.frozen? ⟨B, j, none⟩ := fun j => by simp only [World.frozen?, hh]
  exact ⟨(e1 0).trans h.c0, (e1 1).trans h.c1, fun j => (e2 j).trans (h.fr j), by rw [hh]; exact h.ty⟩
theorem FlawAt.lt {B : Nat} {W : World} (h : FlawAt B W) : B < W.heap.size := cell_lt h.c0
theorem own_flaw {W : World} {B b e n : Nat} {v : Value} {xs : List Value} (h : W.ownsRow b e 1 v n xs) (hf : FlawAt B W) (he : e ≠ 60) (x y : Value) : ((W.setCell ⟨B, 0, none⟩ x).setCell ⟨B, 1, none⟩ y).ownsRow b e 1 v n xs := by
  refine owns_of h fun g hv => ?_
  have hne : g ≠ B := by
    intro e1; subst e1
    obtain ⟨cs, fr, hh⟩ := hf.ty
    rcases h.2 with ⟨h1, _⟩ | ⟨g1, c1, cur1, h1, _, hh1, _⟩
    · rw [h1] at hv; cases hv
    · rw [h1] at hv
      have e1 : g1 = g := by simpa [Value.ownBlock] using hv
      subst e1
      rw [hh1] at hh
      simp at hh
      exact he hh.2.1
  rw [Below.heap_setCell _ _ _ _ hne, Below.heap_setCell _ _ _ _ hne]
theorem SegsAt.flaw {W : World} {B b : Nat} {v : Value} {L : Segs} (h : SegsAt W b v L) (hf : FlawAt B W) (x y : Value) : SegsAt ((W.setCell ⟨B, 0, none⟩ x).setCell ⟨B, 1, none⟩ y) b v L := by
  obtain ⟨vals, h1, h2⟩ := h
  exact ⟨vals, own_flaw h1 hf (by decide) x y, h2.of fun _ _ _ _ h => own_flaw h hf (by decide) x y⟩
theorem SegsAt.on {W W' : World} {B : Nat} {v : Value} {L : Segs} (h : SegsAt W B v L) (hb : Below W.heap.size W W') : SegsAt W' B v L := by
  obtain ⟨vals, h1, h2⟩ := h
  exact ⟨vals, ownsRow_below h1 hb (Nat.le_refl _), h2.of fun _ _ _ _ h => ownsRow_below h hb (Nat.le_refl _)⟩
/-- What stands between two rounds of split. -/
structure SpI (w : World) (B gp cp : Nat) (ps : List (List UInt8)) (wr : World) (v6 : Value) (acc : Segs) : Prop where
  bel : Below B w wr
  fl : FlawAt B wr
  pcs : ∃ b, wr.ownsRow b 9 1 (.slice (some ⟨gp, 0, none⟩) ps.length cp) ps.length (strs ps)
  seg : SegsAt wr (B + 1) v6 acc
theorem SpI.on {w : World} {B gp cp : Nat} {ps : List (List UInt8)} {wr W : World} {v6 : Value} {acc : Segs} (h : SpI w B gp cp ps wr v6 acc) (hb : Below wr.heap.size wr W) : SpI w B gp cp ps W v6 acc :=
  ⟨h.bel.trans (hb.mono (Nat.le_of_lt h.fl.lt)), h.fl.of (hb.block B h.fl.lt), by obtain ⟨b, hp⟩ := h.pcs; exact ⟨b, ownsRow_below hp hb (Nat.le_refl _)⟩, h.seg.on hb⟩
theorem SpI.snoc {w : World} {B gp cp : Nat} {ps : List (List UInt8)} {wr W2 : World} {v6 : Value} {acc : Segs} (h : SpI w B gp cp ps wr v6 acc) {vals : List Value} (hv : wr.ownsRow (B + 1) 38 1 v6 acc.length vals) (hr : SegRows wr vals acc)
    {b : Nat} {u : Value} {fs : List (List UInt8)} (hu : wr.ownsRow b 9 1 u fs.length (strs fs)) {o : Obj} {g cap : Nat} (hown : W2.ownsRow (B + 1) 38 1 (.slice (some ⟨g, 0, none⟩) (acc.length + 1) cap) (acc.length + 1) (vals ++ [u])) (hgr : (wr.alloc o).grownBy W2 v6.ownBlock) :
    SpI w B gp cp ps W2 (.slice (some ⟨g, 0, none⟩) (acc.length + 1) cap) (acc ++ [fs]) := by
  have ha : Below wr.heap.size wr (wr.alloc o) := (Below.refl _ _).alloc (Nat.le_refl _) _
  have hi := h.on ha
  have hv' := ownsRow_below hv ha (Nat.le_refl _)
  have hBlt := hi.fl.lt
  refine ⟨hi.bel.grown hgr (by omega) (fun j hj => by have := (hv'.lt j hj).1; omega), hi.fl.of (hgr.block B hBlt fun hj => by have := (hv'.lt B hj.symm).1; omega), ?_, vals ++ [u], ?_, ?_⟩
  · obtain ⟨b', hp⟩ := hi.pcs; exact ⟨b', own9_grown hp hv' hgr⟩
  · rw [List.length_append]; exact hown
  · refine SegRows.snoc ?_ (own9_grown (ownsRow_below hu ha (Nat.le_refl _)) hv' hgr)
    exact hr.of fun _ _ _ _ hx => own9_grown (ownsRow_below hx ha (Nat.le_refl _)) hv' hgr

theorem tl_bs1 (p : List UInt8) : tl (bs1 p) = p := tl_mk p
theorem segGo_cons (f : UInt8) (mk p : List UInt8) (r : List (List UInt8)) (acc : Segs) : segGo f mk (p :: r) acc = if trimL p = [] then segGo f mk r acc else if isSegB f (trimL p) = false then .inl acc.length else segGo f mk r (acc ++ [if acc = [] then headF f mk (trimL p) else cutU f (trimL p)]) := rfl

def SplRel (w : World) (B gp cp : Nat) (ps : List (List UInt8)) (f : UInt8) (mk : List UInt8) (v6 i : Value) (wr : World) : Prop :=
  ∃ (k : Nat) (acc : Segs), k ≤ ps.length ∧ i = .int .i64 k ∧ SpI w B gp cp ps wr v6 acc ∧ segGo f mk (ps.drop k) acc = segGo f mk ps [] ∧ (k = 0 → acc = []) ∧ (0 < k → acc ≠ []) ∧ acc.length ≤ k

set_option maxRecDepth 100000 in
set_option maxHeartbeats 8000000 in
theorem split_any (w : World) (s : ByteArray) (hl : s.size ≤ 16000000) (o : Option (Int × Int)) (L : Segs) (h : SplO (tl s) o L) :
    Calls Tryd.prog 23 #[.string s] w fun e w' => ∃ v, e = .returned (.tuple #[v, .agg #[.int .i64 (o.getD (0, 0)).1, .int .i64 (o.getD (0, 0)).2]]) ∧ SegsAt w' (w.heap.size + 1) v L ∧ Below w.heap.size w w' := by
  obtain ⟨i0, hi, hz0, hz1, hz2⟩ := info_parts info38s
  obtain ⟨B, hB⟩ : ∃ B, w.heap.size = B := ⟨_, rfl⟩
  have HB : Hid (w.heap.size = B) := hB
  obtain ⟨W1, hW1⟩ : ∃ W1, w.alloc (.cells #[.int .i64 0, .int .i64 0] 60) = W1 := ⟨_, rfl⟩
  have hb1 : Below B w W1 := hB ▸ hW1 ▸ (Below.refl _ _).alloc (Nat.le_refl _) _
  have hf1 : FlawAt B W1 := by rw [← hW1, ← hB]; exact ⟨by simp, by simp, fun j => by simp, _, _, heap_alloc_new w _⟩
  have HB1 : Hid (Below B w W1) := hb1
  have HF1 : Hid (FlawAt B W1) := hf1
  clear hb1 hf1
  have hmk := marksOf_any W1 s (by unfold maxLen; omega)
  rw [hB]
  by_cases hH : HdOK (trimL (tl s))
  · obtain ⟨p0, pr, hp0, hp9⟩ := first_long hH
    have hH8 := hH
    have HH : Hid (HdOK (trimL (tl s))) := hH
    clear hH
    go_enter Tryd.func23, Tryd.ntmps23
    go_wp2_with (go_at_call 40; refine StopF.out ?_)
    clear hW1
    refine StopF.mk (hmk.mono ?_)
    rintro e W2 ⟨mk, b, rfl, hb, hm2, hbe2⟩
    obtain rfl : b = true := hb.2 HH.out
    have hm3 : tl mk = mkOf (tl s) := hm2 rfl
    clear hb hm2 hmk
    have hmz : mk.size = 5 := by rw [← tl_len, hm3]; exact hH8.2.2.1.1
    have hf0 : (tl mk).getD 0 0 = fOf (tl s) := by
      rw [hm3]; unfold mkOf fOf
      rw [List.getD_eq_getElem?_getD, List.getElem?_take_of_lt (by omega), List.getElem?_drop, List.getD_eq_getElem?_getD]
    have hflt : (fOf (tl s)).toNat < 128 := by
      have hmem : (tl mk).getD 0 0 ∈ mkOf (tl s) := by
        rw [← hm3, List.getD_eq_getElem?_getD, List.getElem?_eq_getElem (by rw [tl_len]; omega)]; exact List.getElem_mem _
      rw [hf0] at hmem
      exact (mkB_lt (hH8.2.2.1.2.1 _ hmem)).1
    obtain ⟨f, hff⟩ : ∃ f, fOf (tl s) = f := ⟨_, rfl⟩
    rw [hff] at hf0 hflt
    obtain ⟨y, hy⟩ : ∃ y, f.toNat = y := ⟨_, rfl⟩
    have hmy : (mk[0]'(by omega)).toNat = y := by rw [← tl_getD mk 0 (by omega), hf0]; exact hy
    have hct : Calls Tryd.prog 41 #[.string s, .int .u8 13] W2 fun e w' => ∃ v, e = .returned v ∧ w'.ownsRow (W2.heap.size + 1) 9 1 v (cutU 13 (tl s)).length (strs (cutU 13 (tl s))) ∧ Below W2.heap.size W2 w' := cut_any W2 s 13 (by decide) (by omega)
    have hpl : (cutU 13 (tl s)).length ≤ s.size + 1 := by have := cutU_len 13 (tl s); rw [tl_len] at this; exact this
    have hpm : ∀ p ∈ cutU 13 (tl s), p.length ≤ s.size := fun p hp => by have := cutU_mem 13 (tl s) p hp; rw [tl_len] at this; exact this
    obtain ⟨ps, hps⟩ : ∃ ps, cutU 13 (tl s) = ps := ⟨_, rfl⟩
    rw [hps] at hct hpl hpm hp0
    have HPM : Hid (∀ p ∈ ps, p.length ≤ s.size) := hpm
    have HP0 : Hid (ps = p0 :: pr) := hp0
    have HM3 : Hid (tl mk = mkOf (tl s)) := hm3
    have HF0 : Hid ((tl mk).getD 0 0 = f) := hf0
    have HR : Hid (∀ R, segGo f (mkOf (tl s)) ps [] = R → (∃ n, R = .inl n ∧ o = some ((n : Int), 226) ∧ L = []) ∨ (R = .inr L ∧ o = none)) := by
      intro R hR
      rw [← hff, ← hps] at hR
      cases h with
      | hd hn => exact absurd HH.out hn
      | seg n _ hs => exact .inl ⟨n, by rw [← hR, hs], rfl, rfl⟩
      | good L _ hs => exact .inr ⟨by rw [← hR, hs], rfl⟩
    have HY : Hid (f.toNat = y) := hy
    have HFL : Hid (f.toNat < 128) := hflt
    clear h hpm hp0 hm3 hf0 hH8 hy hflt hps hff
    go_wp2_with (go_at_call 41; refine StopF.out ?_)
    refine StopF.mk (hct.mono ?_)
    rintro e W3 ⟨pv, rfl, ho3, hb3⟩
    clear hct
    have hpos : 0 < ps.length := by rw [HP0.out]; simp
    obtain ⟨gp, cp, rfl⟩ := owns_pos ho3 hpos
    have HS : Hid (SpI w B gp cp ps W3 (.slice none 0 0) []) := by
      have hf2 := HF1.out.of (hbe2.block B HF1.out.lt)
      exact ⟨(HB1.out.trans (hbe2.mono (Nat.le_of_lt HF1.out.lt))).trans (hb3.mono (Nat.le_of_lt hf2.lt)), hf2.of (hb3.block B hf2.lt), ⟨_, ho3⟩, [], World.ownsRow_nil _ _ _ _, rfl, fun i hi => by simp at hi⟩
    clear ho3 hb3 hbe2 HB1 HF1
    go_wp2
    go_loopw [6, 20] (fun v6 i wr => SplRel w B gp cp ps f (mkOf (tl s)) v6 i wr) (fun _ i _ => ps.length - (intOf i).toNat)
    case atStart => exact ⟨0, [], Nat.zero_le _, rfl, HS.out, rfl, fun _ => rfl, fun h => absurd h (by omega), Nat.le_refl _⟩
    case round =>
      obtain ⟨k, acc, hk, rfl, hI, hgo, ha0, ha1, hal⟩ := hrel
      clear HS
      obtain ⟨vals, hv, hr⟩ := hI.seg
      obtain ⟨ao, cap, rfl⟩ := own_slice hv
      have HI : Hid (SpI w B gp cp ps wr (.slice ao acc.length cap) acc) := hI
      have HV : Hid (wr.ownsRow (B + 1) 38 1 (.slice ao acc.length cap) acc.length vals) := hv
      have HRr : Hid (SegRows wr vals acc) := hr
      have HGO : Hid (segGo f (mkOf (tl s)) (ps.drop k) acc = segGo f (mkOf (tl s)) ps []) := hgo
      have HA0 : Hid (k = 0 → acc = []) := ha0
      have HA1 : Hid (0 < k → acc ≠ []) := ha1
      clear hI hv hr hgo ha0 ha1
      by_cases hkn : k < ps.length
      · obtain ⟨p, hp⟩ : ∃ p, ps[k] = p := ⟨_, rfl⟩
        have hcell : wr.cell? ⟨gp, k, none⟩ = some (.string (bs1 p)) := by
          obtain ⟨b, hpc⟩ := HI.out.pcs
          have h1 := hpc.cellAt k (by omega)
          rw [h1]
          simp [strs, hkn, hp]
        have hdr : ps.drop k = p :: ps.drop (k + 1) := by rw [← hp]; exact List.drop_eq_getElem_cons hkn
        have hpm : p.length ≤ s.size := HPM.out p (by rw [← hp]; exact List.getElem_mem _)
        have hG := HGO.out
        rw [hdr, segGo_cons] at hG
        have htr := trim_any wr (bs1 p) (by rw [← tl_len, tl_bs1]; unfold maxLen; omega)
        rw [tl_bs1] at htr
        have h00 : k = 0 → p = p0 := by
          intro h; subst h; have := HP0.out; rw [← hp]; simp [this]
        have HK0 : Hid (k = 0 → 9 ≤ (trimL p).length) := fun h => by rw [h00 h]; exact hp9
        clear hdr hp h00
        go_wp2_with (go_at_call 42; refine StopF.out ?_)
        refine StopF.mk (htr.mono ?_)
        rintro e wr' ⟨q, rfl, hq, rfl⟩
        clear htr hcell
        by_cases hem : trimL p = []
        · rw [if_pos hem] at hG
          have HG : Hid (segGo f (mkOf (tl s)) (ps.drop (k + 1)) acc = segGo f (mkOf (tl s)) ps []) := hG
          have hk0 : 0 < k := by
            rcases Nat.eq_zero_or_pos k with h0 | h0
            · have := HK0.out h0; rw [hem] at this; simp at this
            · exact h0
          obtain rfl : q = { data := #[] } := tl_ext (hq.trans hem)
          clear hG hq hem
          go_wp2
          go_roundw
          case rel => exact ⟨k + 1, acc, by omega, by go_num, HI.out, HG.out, fun h => absurd h (by omega), fun _ => HA1.out hk0, by omega⟩
          case measure => simp [intOf]; omega
        · rw [if_neg hem] at hG
          have hqs : q.size ≤ s.size := by rw [← tl_len, hq]; exact Nat.le_trans (trimL_len p) hpm
          have hq0 : (q.toList == []) = false := by
            rw [ByteArray.toList_eq]; simp only [beq_eq_false_iff_ne]; intro hh; exact hem (hq.symm.trans hh)
          have hq1 : q.toList.isEmpty = false := by
            rw [ByteArray.toList_eq]
            cases hc : q.data.toList with
            | nil => exact absurd (hq.symm.trans hc) hem
            | cons a b => rfl
          have hsg := isSeg_any wr q f (by unfold maxLen; omega)
          rw [hq, HY.out] at hsg
          have HQ : Hid (tl q = trimL p) := hq
          clear hq hem
          cases hsb : isSegB f (trimL p) with
          | false =>
            rw [hsb] at hsg hG
            rw [if_pos rfl] at hG
            obtain ⟨x0, x1, xf, xt⟩ := HI.out.fl
            rcases HR.out _ hG.symm with ⟨n, hn, ho, hL⟩ | ⟨hn, _⟩
            · obtain rfl : acc.length = n := by simpa using hn
              subst hL
              subst ho
              clear hG hsb hn
              go_wp2_with (go_at_call 43; refine hsg.mono ?_; rintro e w' ⟨rfl, rfl⟩)
              refine bodyPost_ret (v := .tuple #[.slice none 0 0, .agg #[.int .i64 (acc.length : Nat), .int .i64 226]]) (by simp [results, Tryd.results23, go_sem, x0, x1]) rfl ?_
              exact ⟨_, rfl, ⟨[], World.ownsRow_nil _ _ _ _, rfl, fun i hi => by simp at hi⟩, (HI.out.bel.setCell (p := ⟨B, 0, none⟩) (Nat.le_refl _) _).setCell (p := ⟨B, 1, none⟩) (Nat.le_refl _) _⟩
            · cases hn
          | true =>
            rw [hsb] at hsg hG
            rw [if_neg (by simp)] at hG
            clear hsb
            by_cases hac : acc = []
            · rw [if_pos hac] at hG
              have hk0 : k = 0 := by
                rcases Nat.eq_zero_or_pos k with h0 | h0
                · exact h0
                · exact absurd hac (HA1.out h0)
              have hq9 : 9 ≤ q.size := by rw [← tl_len, HQ.out]; exact HK0.out hk0
              have hhd := head_any wr q mk f hq9 (by omega) hmz HF0.out HFL.out
              rw [HQ.out, HM3.out] at hhd
              have hfp : 0 < (headF f (mkOf (tl s)) (trimL p)).length := by simp [headF]
              obtain ⟨fs, hfs⟩ : ∃ fs, headF f (mkOf (tl s)) (trimL p) = fs := ⟨_, rfl⟩
              rw [hfs] at hhd hG hfp
              subst hac
              have HG : Hid (segGo f (mkOf (tl s)) (ps.drop (k + 1)) [fs] = segGo f (mkOf (tl s)) ps []) := hG
              have HI : Hid (SpI w B gp cp ps wr (.slice ao 0 cap) []) := HI.out
              have HV : Hid (wr.ownsRow (B + 1) 38 1 (.slice ao 0 cap) 0 vals) := HV.out
              clear hfs hG hk0
              go_wp2_with (first | (go_at_call 43; refine hsg.mono ?_; rintro e w' ⟨rfl, rfl⟩) | (go_at_call 44; refine StopF.out ?_))
              refine StopF.mk (hhd.mono ?_)
              rintro e W5 ⟨uv, rfl, hou, hbu⟩
              clear hhd hsg
              obtain ⟨gu, cu, rfl⟩ := owns_pos hou (hfp)
              have hbW : Below wr.heap.size wr W5 := hbu
              have HI5 : Hid (SpI w B gp cp ps W5 (.slice ao 0 cap) []) := HI.out.on hbW
              have HV5 : Hid (W5.ownsRow (B + 1) 38 1 (.slice ao 0 cap) 0 vals) := ownsRow_below HV.out hbW (Nat.le_refl _)
              have HR5 : Hid (SegRows W5 vals []) := HRr.out.of fun _ _ _ _ hx => ownsRow_below hx hbW (Nat.le_refl _)
              have HU5 : Hid (W5.ownsRow _ 9 1 (.slice (some ⟨gu, 0, none⟩) (fs).length cu) (fs).length (strs (fs))) := hou
              have HL5 : Hid (B < W5.heap.size) := HI5.out.fl.lt
              clear hou hbu hbW
              go_wp2_with (first | (at_builtin; refine wpList_append_lies _ rfl _ _ 35 rfl (B + 1) 38 i0 _ 1 24 Tryd.underlying35 hi hz0 hz1 hz2 rfl (by decide) (.slice ao 0 cap) 0 vals rfl (World.ownsRow.alloc HV5.out _) ⟨W5.heap.size, 0, none⟩ 1 1 [.slice (some ⟨gu, 0, none⟩) (fs).length cu] rfl rfl (cell_one_new _ _ _) (by intro u hu; simp at hu; subst hu; rfl) (by decide) (by unfold maxLen; omega) (by omega) (by have := HL5.out; simp; omega) (W5.heap.size + 1) (by simp) ?_) | fail)
              intro g cp2 W6 hown6 hgrow6 hat6 hlt6
              have HI6 : Hid (SpI w B gp cp ps W6 (.slice (some ⟨g, 0, none⟩) (0 + 1) cp2) ([fs])) := HI5.out.snoc HV5.out HR5.out HU5.out hown6 hgrow6
              clear hown6 hgrow6 hat6 hlt6
              go_wp2
              go_roundw
              case rel => exact ⟨k + 1, [fs], by omega, by go_num, HI6.out, HG.out, fun h => absurd h (by omega), fun _ => by simp, by simp⟩
              case measure => simp [intOf]; omega
            · rw [if_neg hac] at hG
              have hcu : Calls Tryd.prog 41 #[.string q, .int .u8 (y : Nat)] wr fun e w' => ∃ v, e = .returned v ∧ w'.ownsRow (wr.heap.size + 1) 9 1 v (cutU f (trimL p)).length (strs (cutU f (trimL p))) ∧ Below wr.heap.size wr w' := by
                have := cut_any wr q f HFL.out (by omega)
                rw [HQ.out, HY.out] at this
                exact this
              have hfp : 0 < (cutU f (trimL p)).length := cutU_pos _ _
              obtain ⟨fs, hfs⟩ : ∃ fs, cutU f (trimL p) = fs := ⟨_, rfl⟩
              rw [hfs] at hcu hG hfp
              have HG : Hid (segGo f (mkOf (tl s)) (ps.drop (k + 1)) (acc ++ [fs]) = segGo f (mkOf (tl s)) ps []) := hG
              have hal0 : 0 < acc.length := List.length_pos_iff.2 hac
              have hali : ((acc.length : Int) == 0) = false := by simp [hac]
              clear hfs hG hac
              go_wp2_with (first | (go_at_call 43; refine hsg.mono ?_; rintro e w' ⟨rfl, rfl⟩) | (go_at_call 41; refine StopF.out ?_))
              refine StopF.mk (hcu.mono ?_)
              rintro e W5 ⟨uv, rfl, hou, hbu⟩
              clear hcu hsg
              obtain ⟨gu, cu, rfl⟩ := owns_pos hou (hfp)
              have hbW : Below wr.heap.size wr W5 := hbu
              have HI5 : Hid (SpI w B gp cp ps W5 (.slice ao acc.length cap) acc) := HI.out.on hbW
              have HV5 : Hid (W5.ownsRow (B + 1) 38 1 (.slice ao acc.length cap) acc.length vals) := ownsRow_below HV.out hbW (Nat.le_refl _)
              have HR5 : Hid (SegRows W5 vals acc) := HRr.out.of fun _ _ _ _ hx => ownsRow_below hx hbW (Nat.le_refl _)
              have HU5 : Hid (W5.ownsRow _ 9 1 (.slice (some ⟨gu, 0, none⟩) (fs).length cu) (fs).length (strs (fs))) := hou
              have HL5 : Hid (B < W5.heap.size) := HI5.out.fl.lt
              clear hou hbu hbW
              go_wp2_with (first | (at_builtin; refine wpList_append_lies _ rfl _ _ 35 rfl (B + 1) 38 i0 _ 1 24 Tryd.underlying35 hi hz0 hz1 hz2 rfl (by decide) (.slice ao acc.length cap) acc.length vals rfl (World.ownsRow.alloc HV5.out _) ⟨W5.heap.size, 0, none⟩ 1 1 [.slice (some ⟨gu, 0, none⟩) (fs).length cu] rfl rfl (cell_one_new _ _ _) (by intro u hu; simp at hu; subst hu; rfl) (by decide) (by unfold maxLen; omega) (by omega) (by have := HL5.out; simp; omega) (W5.heap.size + 1) (by simp) ?_) | fail)
              intro g cp2 W6 hown6 hgrow6 hat6 hlt6
              have HI6 : Hid (SpI w B gp cp ps W6 (.slice (some ⟨g, 0, none⟩) (acc.length + 1) cp2) (acc ++ [fs])) := HI5.out.snoc HV5.out HR5.out HU5.out hown6 hgrow6
              clear hown6 hgrow6 hat6 hlt6
              go_wp2
              go_roundw
              case rel => exact ⟨k + 1, acc ++ [fs], by omega, by go_num, HI6.out, HG.out, fun h => absurd h (by omega), fun _ => by simp, by simp; omega⟩
              case measure => simp [intOf]; omega
      · have hke : k = ps.length := by omega
        have hG := HGO.out
        rw [hke, List.drop_length] at hG
        have hG' : Sum.inr acc = segGo f (mkOf (tl s)) ps [] := hG
        obtain ⟨x0, x1, xf, xt⟩ := HI.out.fl
        rcases HR.out _ hG'.symm with ⟨n, hn, _⟩ | ⟨hn, ho⟩
        · cases hn
        · obtain rfl : acc = L := by simpa using hn
          subst ho
          clear hG hG' hn hke
          go_wp2
          refine bodyPost_ret (v := .tuple #[.slice ao acc.length cap, .agg #[.int .i64 0, .int .i64 0]]) (by simp [results, Tryd.results23, go_sem, x0, x1]) rfl ?_
          exact ⟨_, rfl, HI.out.seg.flaw ⟨x0, x1, xf, xt⟩ _ _, (HI.out.bel.setCell (p := ⟨B, 0, none⟩) (Nat.le_refl _) _).setCell (p := ⟨B, 1, none⟩) (Nat.le_refl _) _⟩
  · go_enter Tryd.func23, Tryd.ntmps23
    go_wp2_with (go_at_call 40; refine StopF.out ?_)
    clear hW1
    refine StopF.mk (hmk.mono ?_)
    rintro e W2 ⟨mk, b, rfl, hb, hm2, hbe2⟩
    obtain rfl : b = false := by
      cases b with
      | false => rfl
      | true => exact absurd (hb.1 rfl) hH
    have hf2 := HF1.out.of (hbe2.block B HF1.out.lt)
    have hbb := HB1.out.trans (hbe2.mono (Nat.le_of_lt HF1.out.lt))
    obtain ⟨x0, x1, xf, xt⟩ := hf2
    cases h with
    | hd hn =>
      clear hb hm2 hmk hn hbe2
      go_wp2
      refine bodyPost_ret (v := .tuple #[.slice none 0 0, .agg #[.int .i64 0, .int .i64 220]]) (by simp [results, Tryd.results23, go_sem, x0, x1]) rfl ?_
      exact ⟨_, rfl, ⟨[], World.ownsRow_nil _ _ _ _, rfl, fun i hi => by simp at hi⟩, (hbb.setCell (p := ⟨B, 0, none⟩) (Nat.le_refl _) _).setCell (p := ⟨B, 1, none⟩) (Nat.le_refl _) _⟩
    | seg n hn _ => exact absurd hn hH
    | good L hn _ => exact absurd hn hH

set_option maxRecDepth 100000 in
set_option maxHeartbeats 1000000 in
theorem Split_any (w : World) (s : ByteArray) (hl : s.size ≤ 16000000) (o : Option (Int × Int)) (L : Segs) (h : SplO (tl s) o L) :
    Calls Tryd.prog 10 #[.string s] w fun e w' => ∃ v u, e = .returned (.tuple #[v, u]) ∧ SegsAt w' (w.heap.size + 1) v L ∧ PErr w' u o ∧ Below w.heap.size w w' := by
  have h0 : (o = none ∧ o.getD (0, 0) = (0, 0)) ∨ ∃ a c, o = some (a, c) ∧ ((c == 0) = false) ∧ L = [] := by
    cases h with
    | hd _ => exact .inr ⟨_, _, rfl, rfl, rfl⟩
    | seg n _ _ => exact .inr ⟨_, _, rfl, rfl, rfl⟩
    | good L _ _ => exact .inl ⟨rfl, rfl⟩
  have hs := split_any w s hl o L h
  go_enter Tryd.func10, Tryd.ntmps10
  rcases h0 with ⟨rfl, h1⟩ | ⟨a, c, rfl, h1, rfl⟩
  · go_wp2_with (go_at_call 23; refine StopF.out ?_)
    refine StopF.mk (hs.mono ?_)
    rintro e W1 ⟨v, rfl, hv, hb⟩
    have HV : Hid (SegsAt W1 (w.heap.size + 1) v L) := hv
    have HB : Hid (Below w.heap.size w W1) := hb
    clear hv hb hs
    go_wp2
    refine bodyPost_ret (v := .tuple #[v, .nilIface]) (by simp [results, Tryd.results10, go_sem]) rfl ?_
    have hb9 : Below W1.heap.size W1 ((W1.alloc (Obj.cells #[Value.int IntKind.i64 0, Value.int IntKind.i64 0] 60)).alloc (Obj.cells #[Value.int IntKind.i64 0, Value.int IntKind.i64 0] 60)) := ((Below.refl _ _).alloc (Nat.le_refl _) _).alloc (by simp) _
    exact ⟨_, _, rfl, HV.out.on hb9, rfl, HB.out.trans (hb9.mono HB.out.size)⟩
  · go_wp2_with (go_at_call 23; refine StopF.out ?_)
    refine StopF.mk (hs.mono ?_)
    rintro e W1 ⟨v, rfl, hv, hb⟩
    have HV : Hid (SegsAt W1 (w.heap.size + 1) v []) := hv
    have HB : Hid (Below w.heap.size w W1) := hb
    clear hv hb hs
    simp only [Option.getD_some]
    go_wp2_with (first | (go_at_call 17; refine StopF.out ?_) | go_in)
    refine StopF.mk ((refusal_any a c _).mono ?_)
    rintro e W2 ⟨u, rfl, hu, hb2⟩
    have HB2 : Hid (Below _ _ W2) := hb2
    have HU : Hid (PErr W2 u (some (a, c))) := hu
    clear hb2 hu
    go_wp2
    refine bodyPost_ret (v := .tuple #[.slice none 0 0, u]) (by simp [results, Tryd.results10, go_sem]) rfl ?_
    have hb9 : Below W1.heap.size W1 ((W1.alloc (Obj.cells #[Value.int IntKind.i64 a, Value.int IntKind.i64 c] 60)).alloc (Obj.cells #[Value.int IntKind.i64 a, Value.int IntKind.i64 c] 60)) := ((Below.refl _ _).alloc (Nat.le_refl _) _).alloc (by simp) _
    exact ⟨_, _, rfl, ⟨[], World.ownsRow_nil _ _ _ _, rfl, fun i hi => by simp at hi⟩, HU.out, (HB.out.trans (hb9.mono HB.out.size)).trans (HB2.out.mono (Nat.le_trans HB.out.size hb9.size))⟩
end Go.Proofs.YtnheeenkdjmhoaaDoor
