import Derived.Test.YtdggplhkeekdjaaGreatDoorRJ
import Derived.Deep.RegionLawGrows
import Derived.WideMake
import Derived.Test.YtdggplhkeekdjaaGreatDoorWA
import Derived.Deep.AppendLies
/-
  DERIVED. Errors in chains, told.
-/
namespace Go.Proofs.YtdggplhkeekdjaaGreatDoor
open Go Go.Proofs Go.RowKit

theorem infoLk : (Tryz.prog.info? 134).map (fun i => (i.zero, i.size, i.bytes)) = some (some (.agg #[.string { data := #[] }, .int .i64 0]), 2, 24) := by kernel_rfl
/-- A link: the layer, the place. -/
abbrev Lk := ByteArray × Int
def lkc (l : List Lk) : List Value := l.flatMap fun x => [.string x.1, .int .i64 x.2]
theorem lkc_len : ∀ l : List Lk, (lkc l).length = l.length * 2
  | [] => rfl
  | x :: r => by
    show ([Value.string x.1, .int .i64 x.2] ++ lkc r).length = _
    rw [List.length_append, lkc_len r]
    simp
    omega
theorem lkc_snoc (l : List Lk) (x : Lk) : lkc (l ++ [x]) = lkc l ++ [.string x.1, .int .i64 x.2] := by
  unfold lkc
  rw [List.flatMap_append]
  simp
theorem lkc_get : ∀ (l : List Lk) (i : Nat) (h : i < l.length), (lkc l)[i * 2]? = some (.string (l[i]'h).1) ∧ (lkc l)[i * 2 + 1]? = some (.int .i64 (l[i]'h).2)
  | x :: r, 0, h => ⟨rfl, rfl⟩
  | x :: r, i + 1, h => by
    have ih := lkc_get r i (by simpa using h)
    have e : lkc (x :: r) = [Value.string x.1, .int .i64 x.2] ++ lkc r := rfl
    rw [e]
    constructor
    · rw [List.getElem?_append_right (by simp; omega), show (i + 1) * 2 - [Value.string x.1, .int .i64 x.2].length = i * 2 by simp; omega]; exact ih.1
    · rw [List.getElem?_append_right (by simp; omega), show (i + 1) * 2 + 1 - [Value.string x.1, .int .i64 x.2].length = i * 2 + 1 by simp; omega]; exact ih.2
/-- Faults behind one another, a number at the end. -/
def Chain (w : World) : List Lk → Int → Value → Prop
  | [], c, v => v = .iface 94 (.int .i64 c)
  | x :: r, c, v => ∃ q u, v = .iface 115 (.pointer (some ⟨q, 0, none⟩)) ∧ w.cell? ⟨q, 0, none⟩ = some (.string x.1) ∧ w.cell? ⟨q, 1, none⟩ = some (.int .i64 x.2) ∧ w.cell? ⟨q, 2, none⟩ = some u ∧ Chain w r c u
theorem Chain.on {w w' : World} (hb : Below w.heap.size w w') : ∀ {l : List Lk} {c : Int} {v : Value}, Chain w l c v → Chain w' l c v
  | [], _, _, h => h
  | _ :: _, _, _, ⟨q, u, h1, h2, h3, h4, h5⟩ => ⟨q, u, h1, (hb.cell (Rp.cell_lt h2)).trans h2, (hb.cell (Rp.cell_lt h3)).trans h3, (hb.cell (Rp.cell_lt h4)).trans h4, Chain.on hb h5⟩
theorem Chain.low {w w' : World} {B : Nat} (hb : Below B w w') (hB : w.heap.size ≤ B) : ∀ {l : List Lk} {c : Int} {v : Value}, Chain w l c v → Chain w' l c v := Chain.on (hb.mono hB)

/-- While an error is told. -/
structure TI (w wr : World) (R F : Nat) (done : List Lk) : Prop where
  r0 : wr.cell? ⟨R, 0, none⟩ = some (.slice none 0 0)
  r1 : wr.cell? ⟨R, 1, none⟩ = some (.int .i64 0)
  rf : ∀ i, wr.frozen? ⟨R, i, none⟩ = false
  f : ∃ ao cp, wr.cell? ⟨F, 0, none⟩ = some (.slice ao done.length cp) ∧ wr.ownsRow (F + 1) 134 2 (.slice ao done.length cp) done.length (lkc done)
  f1 : wr.cell? ⟨F, 1, none⟩ = some (.int .i64 0)
  ff : ∀ i, wr.frozen? ⟨F, i, none⟩ = false
  be : Below w.heap.size w wr
  sz : F < wr.heap.size

theorem TI.next {w wr W4 : World} {R F : Nat} {done : List Lk} {v : Value} {x : Lk} {g4 c4 : Nat} {o : Obj} (h : TI w wr R F done) (hR : R = w.heap.size) (hF : F = R + 1) (hvb : ∀ k, v.ownBlock = some k → F + 1 ≤ k)
    (ho : W4.ownsRow (F + 1) 134 2 (.slice (some ⟨g4, 0, none⟩) (done.length + 1) c4) (done.length + 1) (lkc done ++ [.string x.1, .int .i64 x.2])) (hg : (wr.alloc o).grownBy W4 v.ownBlock) :
    (∀ k, k < F + 1 → W4.heap[k]? = wr.heap[k]?) ∧ TI w (W4.setCell ⟨F, 0, none⟩ (.slice (some ⟨g4, 0, none⟩) (done.length + 1) c4)) R F (done ++ [x]) := by
  have hsz := h.sz
  have hk : ∀ k, k < F + 1 → W4.heap[k]? = wr.heap[k]? := fun k hk => (hg.block k (by simp; omega) (fun e => by have := hvb k e.symm; omega)).trans (Below.heap_alloc wr _ k (by omega))
  refine ⟨hk, ?_⟩
  have cR : ∀ i, (W4.setCell ⟨F, 0, none⟩ (.slice (some ⟨g4, 0, none⟩) (done.length + 1) c4)).cell? ⟨R, i, none⟩ = wr.cell? ⟨R, i, none⟩ := fun i => (Rp.cell_set_off (by omega)).trans (World.cell?_of_block (hk R (by omega)))
  have cF : ∀ i, W4.cell? ⟨F, i, none⟩ = wr.cell? ⟨F, i, none⟩ := fun i => World.cell?_of_block (hk F (by omega))
  obtain ⟨ao, cp, f0, -⟩ := h.f
  have hgb := ho.lt g4 rfl
  refine ⟨(cR 0).trans h.r0, (cR 1).trans h.r1, fun i => ?_, ⟨some ⟨g4, 0, none⟩, c4, ?_, ?_⟩, (Rp.cell_set_ne (by decide)).trans ((cF 1).trans h.f1), fun i => ?_, ?_, ?_⟩
  · rw [World.frozen?_setCell]; exact (World.frozen?_of_block (a := ⟨R, i, none⟩) (hk R (by omega))).trans (h.rf i)
  · rw [List.length_append]; exact Rp.cell_set_eq ((cF 0).trans f0)
  · rw [List.length_append, lkc_snoc]
    refine ⟨ho.1, ?_⟩
    rcases ho.2 with ⟨hv, _⟩ | ⟨g, cap, cur, hv, hb, hh, r⟩
    · cases hv
    · cases hv
      exact .inr ⟨g4, c4, cur, rfl, hb, (Below.heap_setCell _ _ _ g4 (by show g4 ≠ F; omega)).trans hh, r⟩
  · rw [World.frozen?_setCell]; exact (World.frozen?_of_block (a := ⟨F, i, none⟩) (hk F (by omega))).trans (h.ff i)
  · have hb4 : Below w.heap.size w W4 := ⟨hg.os.trans h.be.os, hg.tape.trans h.be.tape, hg.output.trans h.be.output, by have := hg.size; have := h.be.size; simp at *; omega, fun k hk' => (hk k (by omega)).trans (h.be.block k hk')⟩
    exact hb4.setCell (p := ⟨F, 0, none⟩) (by show w.heap.size ≤ F; omega) _
  · have := hg.size
    simp at this ⊢
    omega

set_option maxRecDepth 100000 in
set_option maxHeartbeats 4000000 in
theorem told_any (w : World) (ls : List Lk) (c : Int) (v : Value) (h : Chain w ls c v) (hc : c ≠ 0) (h1 : 0 < ls.length) (h11 : ls.length ≤ 11) :
    Calls Tryz.prog 28 #[v] w fun e w' => ∃ g cap, e = .returned (.tuple #[.agg #[.slice (some ⟨g, 0, none⟩) ls.length cap, .int .i64 c], .bool true]) ∧ Hid (Below w.heap.size w w') ∧ Hid (w'.ownsRow w.heap.size 134 2 (.slice (some ⟨g, 0, none⟩) ls.length cap) ls.length (lkc ls)) := by
  have ta : ∀ (w : World) (v : Value), (Instr.typeAssert (.iface 115 v) 40 115 true).run Tryz.prog w = .ok (.tuple #[v, .bool true]) w := fun _ _ => by kernel_rfl
  have tb : ∀ (w : World) (v : Value), (Instr.typeAssert (.iface 94 v) 40 115 true).run Tryz.prog w = .ok (.tuple #[.pointer none, .bool false]) w := fun _ _ => by kernel_rfl
  have tc : ∀ (w : World) (v : Value), (Instr.typeAssert (.iface 94 v) 40 94 true).run Tryz.prog w = .ok (.tuple #[v, .bool true]) w := fun _ _ => by kernel_rfl
  obtain ⟨i0, hi, hz0, hz1, hz2⟩ := info_parts infoLk
  have HC : Hid (Chain w ls c v) := h
  have HL : Hid (0 < ls.length ∧ ls.length ≤ 11) := ⟨h1, h11⟩
  have hcb : (c != 0) = true := bne_iff_ne.2 hc
  clear h h1 h11 hc
  go_enter Tryz.func28, Tryz.ntmps28
  go_wp2
  obtain ⟨W1, hW1⟩ : ∃ W1, (w.alloc (.cells #[.slice none 0 0, .int .i64 0] 45)).alloc (.cells #[.slice none 0 0, .int .i64 0] 45) = W1 := ⟨_, rfl⟩
  have HT0 : Hid (TI w W1 w.heap.size (w.heap.size + 1) []) := by
    rw [← hW1]
    exact ⟨by simp, by simp, fun i => by simp, ⟨none, 0, by simp, World.ownsRow_nil _ _ _ _⟩, by simp, fun i => by simp, ((Below.refl _ _).alloc (Nat.le_refl _) _).alloc (by simp) _, by simp⟩
  rw [hW1]
  clear hW1
  go_loopw [0, 5] (fun x0 x5 wr => ∃ (i : Nat) (done rest : List Lk), x5 = .int .i64 (i : Int) ∧ i < 12 ∧ Hid (i = done.length ∧ done ++ rest = ls ∧ Chain w rest c x0 ∧ TI w wr w.heap.size (w.heap.size + 1) done)) (fun _ x5 _ => 20 - (intOf x5).toNat)
  case atStart => exact ⟨0, [], ls, rfl, by omega, rfl, rfl, HC.out, HT0.out⟩
  case round =>
    obtain ⟨i, done, rest, rfl, hi12, HH⟩ := hrel
    obtain ⟨hid, hdr, hch, hti⟩ := HH.out
    cases rest with
    | nil =>
      obtain rfl : u0 = .iface 94 (.int .i64 c) := hch
      have hls : done = ls := by simpa using hdr
      subst hls
      have HTI : Hid (TI w wr w.heap.size (w.heap.size + 1) done) := hti
      obtain ⟨ao, cp, f0, hown⟩ := hti.f
      obtain ⟨r0, r1, rf, -, f1, ff, -, hsz⟩ := hti
      have HO : Hid (wr.ownsRow (w.heap.size + 1 + 1) 134 2 (.slice ao done.length cp) done.length (lkc done)) := hown
      obtain ⟨g, rfl⟩ : ∃ g, ao = some ⟨g, 0, none⟩ := by
        rcases hown.2 with ⟨_, h0⟩ | ⟨g, cap, cur, hv, _⟩
        · have := HL.out.1; omega
        · cases hv; exact ⟨g, rfl⟩
      have hgb := (hown.lt g rfl).1
      have hl0 := HL.out.1
      obtain ⟨m, hm⟩ : ∃ m, done.length = m := ⟨_, rfl⟩
      have HM : Hid (done.length = m) := hm
      rw [hm] at f0 hl0
      clear hid hdr hown hm HH HC HT0 HL
      have hne : w.heap.size ≠ w.heap.size + 1 := by omega
      have hne' : w.heap.size + 1 ≠ w.heap.size := by omega
      have hm0 : (0 : Int) < (m : Int) := by omega
      go_wp2
      obtain ⟨U, hU⟩ : ∃ U, wr.setCell ⟨w.heap.size + 1, 1, none⟩ (.int .i64 c) = U := ⟨_, rfl⟩
      have u0 : U.cell? ⟨w.heap.size + 1, 0, none⟩ = some (.slice (some ⟨g, 0, none⟩) m cp) := by rw [← hU]; exact (Rp.cell_set_ne (by decide)).trans f0
      have u1 : U.cell? ⟨w.heap.size + 1, 1, none⟩ = some (.int .i64 c) := by rw [← hU]; exact Rp.cell_set_eq f1
      have v0 : U.cell? ⟨w.heap.size, 0, none⟩ = some (.slice none 0 0) := by rw [← hU]; exact (Rp.cell_set_off (by omega)).trans r0
      have v1 : U.cell? ⟨w.heap.size, 1, none⟩ = some (.int .i64 0) := by rw [← hU]; exact (Rp.cell_set_off (by omega)).trans r1
      have vf : ∀ j, U.frozen? ⟨w.heap.size, j, none⟩ = false := fun j => by rw [← hU, World.frozen?_setCell]; exact rf j
      have HBU : Hid (Below w.heap.size w U) := by rw [← hU]; exact HTI.out.be.setCell (p := ⟨w.heap.size + 1, 1, none⟩) (by simp) _
      have HOU : Hid (U.ownsRow w.heap.size 134 2 (.slice (some ⟨g, 0, none⟩) m cp) m (lkc done)) := by
        have h1 := HO.out
        rw [HM.out] at h1
        rw [← hU]
        refine ⟨h1.1, ?_⟩
        rcases h1.2 with ⟨hv, _⟩ | ⟨g', cap, cur, hv, hb, hh, r⟩
        · cases hv
        · cases hv
          exact .inr ⟨g, cp, cur, rfl, by omega, (Below.heap_setCell _ _ _ g (by show g ≠ w.heap.size + 1; omega)).trans hh, r⟩
      rw [hU]
      clear hU f0 f1 ff r0 r1 rf ta tb tc HTI HO
      go_region
      all_goals
        go_wp2
        refine bodyPost_ret (v := .tuple #[.agg #[.slice (some ⟨g, 0, none⟩) m cp, .int .i64 c], .bool true]) (by simp [results, Tryz.results28, go_sem, v0, v1]) rfl ?_
        rw [HM.out]
        refine ⟨g, cp, rfl, ((HBU.out.setCell (p := ⟨w.heap.size, 0, none⟩) (Nat.le_refl _) _).setCell (p := ⟨w.heap.size, 1, none⟩) (Nat.le_refl _) _).drew, ?_⟩
        have h1 := HOU.out
        refine ⟨h1.1, ?_⟩
        rcases h1.2 with ⟨hv, _⟩ | ⟨g', cap, cur, hv, hb, hh, r⟩
        · cases hv
        · cases hv
          exact .inr ⟨g, cp, cur, rfl, hb, (Below.heap_setCell _ _ _ g (by show g ≠ w.heap.size; omega)).trans ((Below.heap_setCell _ _ _ g (by show g ≠ w.heap.size; omega)).trans hh), r⟩
    | cons x r =>
      obtain ⟨q, u, rfl, g0, g1, g2, hch2⟩ := hch
      have HTI : Hid (TI w wr w.heap.size (w.heap.size + 1) done) := hti
      have HC2 : Hid (Chain w r c u) := hch2
      have HD : Hid (i = done.length ∧ done ++ x :: r = ls) := ⟨hid, hdr⟩
      have hq := Rp.cell_lt g0
      replace g0 := (hti.be.cell (p := ⟨q, 0, none⟩) hq).trans g0
      replace g1 := (hti.be.cell (p := ⟨q, 1, none⟩) hq).trans g1
      replace g2 := (hti.be.cell (p := ⟨q, 2, none⟩) hq).trans g2
      obtain ⟨ao, cp, f0, hown⟩ := hti.f
      have ff := hti.ff
      have hsz := hti.sz
      obtain ⟨m, hm⟩ : ∃ m, done.length = m := ⟨_, rfl⟩
      have HM : Hid (done.length = m) := hm
      rw [hm] at f0 hown
      have HO : Hid (wr.ownsRow (w.heap.size + 1 + 1) 134 2 (.slice ao m cp) m (lkc done)) := hown
      have hm12 : m ≤ 12 := by omega
      clear hid hdr hch2 hti hown hm HH HC HT0
      obtain ⟨x1, x2⟩ := x
      simp only at g0 g1
      go_wp2
      have hqF : q ≠ w.heap.size + 1 := by have : q < w.heap.size := hq; omega
      have H63 : m + 1 ≤ maxLen := by unfold maxLen; omega
      have HBY : (m + 1) * 24 ≤ 140737488355328 := by omega
      have HBS : ∀ o, w.heap.size + 1 + 1 ≤ (wr.alloc o).heap.size := fun o => by simp; omega
      have HNX := fun (W4 : World) (g4 c4 : Nat) (o : Obj) (ho : W4.ownsRow (w.heap.size + 1 + 1) 134 2 (.slice (some ⟨g4, 0, none⟩) (m + 1) c4) (m + 1) (lkc done ++ [.string x1, .int .i64 x2])) (hg : (wr.alloc o).drew.grownBy W4 (Value.slice ao m cp).ownBlock) => HTI.out.next (o := o) (v := Value.slice ao m cp) (x := (x1, x2)) rfl rfl (fun k hk => (HO.out.lt k hk).1) (by rw [HM.out]; exact ho) ⟨hg.os, hg.tape, hg.output, hg.size, hg.block⟩
      have HNXH : Hid _ := HNX
      clear HNX
      have H1C : ∀ u ∈ ([.string x1, .int .i64 x2] : List Value), u.oneCell' = true := by intro u hu; simp at hu; rcases hu with rfl | rfl <;> rfl
      have HNW : ∀ j u, ([.string x1, .int .i64 x2] : List Value)[j]? = some u → (wr.alloc (.cells #[.string x1, .int .i64 x2] 134)).drew.cell? ((⟨wr.heap.size, 0, none⟩ : Addr).add j) = some u := fun j u hu => World.news_of_block (Wk.heap_new wr (.cells #[.string x1, .int .i64 x2] 134)) j u hu
      have HOA : (wr.alloc (.cells #[.string x1, .int .i64 x2] 134)).drew.ownsRow (w.heap.size + 1 + 1) 134 2 (.slice ao m cp) m (lkc done) := World.ownsRow.alloc HO.out _
      have HBS1 : w.heap.size + 1 + 1 ≤ (wr.alloc (.cells #[.string x1, .int .i64 x2] 134)).drew.heap.size := HBS _
      have HK1 : Hid _ := H1C
      have HK2 : Hid _ := HNW
      have HK3 : Hid _ := HOA
      have HK4 : Hid _ := HBS1
      clear H1C HNW HOA HBS1 HBS
      go_region_law (go_loud (refine step_append_lies _ rfl (.tmp 30) (.tmp 40) 43 rfl (w.heap.size + 1 + 1) 134 i0 _ 2 24 Tryz.underlying43 hi hz0 hz1 hz2 rfl (by decide) (.slice ao m cp) m (lkc done) (by simp [Act.eval]) HK3.out ⟨wr.heap.size, 0, none⟩ 1 1 [.string x1, .int .i64 x2] (by simp [Act.eval]) rfl HK2.out HK1.out (by decide) H63 HBY HK4.out _ rfl ?_); intro g4 c4 W4 ho4 hg4 hd4 hl4; have hx4 := HNXH.out W4 g4 c4 _ ho4 hg4; have z0 := (World.cell?_of_block (a := ⟨w.heap.size + 1, 0, none⟩) (hx4.1 (w.heap.size + 1) (Nat.lt_succ_self _))).trans f0; have zf := fun j => (World.frozen?_of_block (a := ⟨w.heap.size + 1, j, none⟩) (hx4.1 (w.heap.size + 1) (Nat.lt_succ_self _))).trans (ff j))
      all_goals
        have y2 := (World.cell?_of_block (a := ⟨q, 2, none⟩) (hx4.1 q (by have : q < w.heap.size := hq; omega))).trans g2
        have HT4 : Hid _ := hx4.2
        clear hx4 ho4 hg4 hd4 hl4 zf z0 g0 g1 g2 f0 ff
        have hqF' : w.heap.size + 1 ≠ q := fun h => hqF h.symm
        go_wp2
        refine ⟨⟨i + 1, done ++ [(x1, x2)], r, by simp, ?_, ?_⟩, by simp [intOf]; omega⟩
        · have h1 := HD.out.1
          have h2 := congrArg List.length HD.out.2
          simp at h2
          have := HL.out.2
          omega
        · refine ⟨by rw [List.length_append, ← HD.out.1]; rfl, by rw [← HD.out.2]; simp, HC2.out, ?_⟩
          have := HT4.out
          rw [HM.out] at this
          exact this
end Go.Proofs.YtdggplhkeekdjaaGreatDoor
