import Derived.Test.YtgdemlebohlolaaGreatDoorRK
import Derived.Deep.RegionLawGrows
import Derived.WideMake
import Derived.Test.YtgdemlebohlolaaGreatDoorWA
import Derived.Deep.AppendLies
/-
  DERIVED. Errors in chains, told.
-/
namespace Go.Proofs.YtgdemlebohlolaaGreatDoor
open Go Go.Proofs Go.RowKit

theorem infoLk : (Tryz.prog.info? 48).map (fun i => (i.zero, i.size, i.bytes)) = some (some (.agg #[.string { data := #[] }, .int .i64 0]), 2, 24) := by kernel_rfl
/-- A link: the layer, the place. -/
abbrev Lk := ByteArray × Int
def lkc (l : List Lk) : List Value := l.flatMap fun x => [.string x.1, .int .i64 x.2]
theorem lkc_len : ∀ l : List Lk, (lkc l).length = l.length * 2
  | [] => rfl
  | x :: r => by
    show ([Value.string x.1, .int .i64 x.2] ++ lkc r).length = _
    rw [List.length_append, lkc_len r]
    simp
    omega
theorem lkc_snoc (l : List Lk) (x : Lk) : lkc (l ++ [x]) = lkc l ++ [.string x.1, .int .i64 x.2] := by
  unfold lkc
  rw [List.flatMap_append]
  simp
theorem lkc_get : ∀ (l : List Lk) (i : Nat) (h : i < l.length), (lkc l)[i * 2]? = some (.string (l[i]'h).1) ∧ (lkc l)[i * 2 + 1]? = some (.int .i64 (l[i]'h).2)
  | x :: r, 0, h => ⟨rfl, rfl⟩
  | x :: r, i + 1, h => by
    have ih := lkc_get r i (by simpa using h)
    have e : lkc (x :: r) = [Value.string x.1, .int .i64 x.2] ++ lkc r := rfl
    rw [e]
    constructor
    · rw [List.getElem?_append_right (by simp; omega), show (i + 1) * 2 - [Value.string x.1, .int .i64 x.2].length = i * 2 by simp; omega]; exact ih.1
    · rw [List.getElem?_append_right (by simp; omega), show (i + 1) * 2 + 1 - [Value.string x.1, .int .i64 x.2].length = i * 2 + 1 by simp; omega]; exact ih.2
/-- Faults behind one another, a number at the end. -/
def Chain (w : World) : List Lk → Int → Value → Prop
  | [], c, v => v = .iface 40 (.int .i64 c)
  | x :: r, c, v => ∃ q u, v = .iface 44 (.pointer (some ⟨q, 0, none⟩)) ∧ w.cell? ⟨q, 0, none⟩ = some (.string x.1) ∧ w.cell? ⟨q, 1, none⟩ = some (.int .i64 x.2) ∧ w.cell? ⟨q, 2, none⟩ = some u ∧ Chain w r c u
theorem Chain.on {w w' : World} (hb : Below w.heap.size w w') : ∀ {l : List Lk} {c : Int} {v : Value}, Chain w l c v → Chain w' l c v
  | [], _, _, h => h
  | _ :: _, _, _, ⟨q, u, h1, h2, h3, h4, h5⟩ => ⟨q, u, h1, (hb.cell (Rp.cell_lt h2)).trans h2, (hb.cell (Rp.cell_lt h3)).trans h3, (hb.cell (Rp.cell_lt h4)).trans h4, Chain.on hb h5⟩
theorem Chain.low {w w' : World} {B : Nat} (hb : Below B w w') (hB : w.heap.size ≤ B) : ∀ {l : List Lk} {c : Int} {v : Value}, Chain w l c v → Chain w' l c v := Chain.on (hb.mono hB)

/-- While an error is told. -/
structure TI (w wr : World) (R F : Nat) (done : List Lk) : Prop where
  r0 : wr.cell? ⟨R, 0, none⟩ = some (.slice none 0 0)
  r1 : wr.cell? ⟨R, 1, none⟩ = some (.int .i64 0)
  rf : ∀ i, wr.frozen? ⟨R, i, none⟩ = false
  f : ∃ ao cp, wr.cell? ⟨F, 0, none⟩ = some (.slice ao done.length cp) ∧ wr.ownsRow (F + 1) 48 2 (.slice ao done.length cp) done.length (lkc done)
  f1 : wr.cell? ⟨F, 1, none⟩ = some (.int .i64 0)
  ff : ∀ i, wr.frozen? ⟨F, i, none⟩ = false
  be : Below w.heap.size w wr
  sz : F < wr.heap.size

theorem TI.next {w wr W4 : World} {R F : Nat} {done : List Lk} {v : Value} {x : Lk} {g4 c4 : Nat} {o : Obj} (h : TI w wr R F done) (hR : R = w.heap.size) (hF : F = R + 1) (hvb : ∀ k, v.ownBlock = some k → F + 1 ≤ k)
    (ho : W4.ownsRow (F + 1) 48 2 (.slice (some ⟨g4, 0, none⟩) (done.length + 1) c4) (done.length + 1) (lkc done ++ [.string x.1, .int .i64 x.2])) (hg : (wr.alloc o).grownBy W4 v.ownBlock) :
    (∀ k, k < F + 1 → W4.heap[k]? = wr.heap[k]?) ∧ TI w (W4.setCell ⟨F, 0, none⟩ (.slice (some ⟨g4, 0, none⟩) (done.length + 1) c4)) R F (done ++ [x]) := by
  have hsz := h.sz
  have hk : ∀ k, k < F + 1 → W4.heap[k]? = wr.heap[k]? := fun k hk => (hg.block k (by simp; omega) (fun e => by have := hvb k e.symm; omega)).trans (Below.heap_alloc wr _ k (by omega))
  refine ⟨hk, ?_⟩
  have cR : ∀ i, (W4.setCell ⟨F, 0, none⟩ (.slice (some ⟨g4, 0, none⟩) (done.length + 1) c4)).cell? ⟨R, i, none⟩ = wr.cell? ⟨R, i, none⟩ := fun i => (Rp.cell_set_off (by omega)).trans (World.cell?_of_block (hk R (by omega)))
  have cF : ∀ i, W4.cell? ⟨F, i, none⟩ = wr.cell? ⟨F, i, none⟩ := fun i => World.cell?_of_block (hk F (by omega))
  obtain ⟨ao, cp, f0, -⟩ := h.f
  have hgb := ho.lt g4 rfl
  refine ⟨(cR 0).trans h.r0, (cR 1).trans h.r1, fun i => ?_, ⟨some ⟨g4, 0, none⟩, c4, ?_, ?_⟩, (Rp.cell_set_ne (by decide)).trans ((cF 1).trans h.f1), fun i => ?_, ?_, ?_⟩
  · rw [World.frozen?_setCell]; exact (World.frozen?_of_block (a := ⟨R, i, none⟩) (hk R (by omega))).trans (h.rf i)
  · rw [List.length_append]; exact Rp.cell_set_eq ((cF 0).trans f0)
  · rw [List.length_append, lkc_snoc]
    refine ⟨ho.1, ?_⟩
    rcases ho.2 with ⟨hv, _⟩ | ⟨g, cap, cur, hv, hb, hh, r⟩
    · cases hv
    · cases hv
      exact .inr ⟨g4, c4, cur, rfl, hb, (Below.heap_setCell _ _ _ g4 (by show g4 ≠ F; omega)).trans hh, r⟩
  · rw [World.frozen?_setCell]; exact (World.frozen?_of_block (a := ⟨F, i, none⟩) (hk F (by omega))).trans (h.ff i)
  · have hb4 : Below w.heap.size w W4 := ⟨hg.os.trans h.be.os, hg.tape.trans h.be.tape, hg.output.trans h.be.output, by have := hg.size; have := h.be.size; simp at *; omega, fun k hk' => (hk k (by omega)).trans (h.be.block k hk')⟩
    exact hb4.setCell (p := ⟨F, 0, none⟩) (by show w.heap.size ≤ F; omega) _
  · have := hg.size
    simp at this ⊢
    omega

set_option maxRecDepth 100000 in
set_option maxHeartbeats 4000000 in
theorem told_any (w : World) (ls : List Lk) (c : Int) (v : Value) (h : Chain w ls c v) (hc : c ≠ 0) (h1 : 0 < ls.length) (h11 : ls.length ≤ 11) :
    Calls Tryz.prog 7 #[v] w fun e w' => ∃ g cap, e = .returned (.tuple #[.agg #[.slice (some ⟨g, 0, none⟩) ls.length cap, .int .i64 c], .bool true]) ∧ Hid (Below w.heap.size w w') ∧ Hid (w'.ownsRow w.heap.size 48 2 (.slice (some ⟨g, 0, none⟩) ls.length cap) ls.length (lkc ls)) := by
  have ta : ∀ (w : World) (v : Value), (Instr.typeAssert (.iface 44 v) 26 44 true).run Tryz.prog w = .ok (.tuple #[v, .bool true]) w := fun _ _ => by kernel_rfl
  have tb : ∀ (w : World) (v : Value), (Instr.typeAssert (.iface 40 v) 26 44 true).run Tryz.prog w = .ok (.tuple #[.pointer none, .bool false]) w := fun _ _ => by kernel_rfl
  have tc : ∀ (w : World) (v : Value), (Instr.typeAssert (.iface 40 v) 26 40 true).run Tryz.prog w = .ok (.tuple #[v, .bool true]) w := fun _ _ => by kernel_rfl
  obtain ⟨i0, hi, hz0, hz1, hz2⟩ := info_parts infoLk
  have HC : Hid (Chain w ls c v) := h
  have HL : Hid (0 < ls.length ∧ ls.length ≤ 11) := ⟨h1, h11⟩
  have hcb : (c != 0) = true := bne_iff_ne.2 hc
  clear h h1 h11 hc
  go_enter Tryz.func7, Tryz.ntmps7
  go_wp2
  obtain ⟨W1, hW1⟩ : ∃ W1, (w.alloc (.cells #[.slice none 0 0, .int .i64 0] 30)).alloc (.cells #[.slice none 0 0, .int .i64 0] 30) = W1 := ⟨_, rfl⟩
  have HT0 : Hid (TI w W1 w.heap.size (w.heap.size + 1) []) := by
    rw [← hW1]
    exact ⟨by simp, by simp, fun i => by simp, ⟨none, 0, by simp, World.ownsRow_nil _ _ _ _⟩, by simp, fun i => by simp, ((Below.refl _ _).alloc (Nat.le_refl _) _).alloc (by simp) _, by simp⟩
  rw [hW1]
  clear hW1
  go_loopw [0, 5] (fun x0 x5 wr => ∃ (i : Nat) (done rest : List Lk), x5 = .int .i64 (i : Int) ∧ i < 12 ∧ Hid (i = done.length ∧ done ++ rest = ls ∧ Chain w rest c x0 ∧ TI w wr w.heap.size (w.heap.size + 1) done)) (fun _ x5 _ => 20 - (intOf x5).toNat)
  case atStart => exact ⟨0, [], ls, rfl, by omega, rfl, rfl, HC.out, HT0.out⟩
  case round =>
    obtain ⟨i, done, rest, rfl, hi12, HH⟩ := hrel
    obtain ⟨hid, hdr, hch, hti⟩ := HH.out
    cases rest with
    | nil =>
      obtain rfl : u0 = .iface 40 (.int .i64 c) := hch
      have hls : done = ls := by simpa using hdr
      subst hls
      have HTI : Hid (TI w wr w.heap.size (w.heap.size + 1) done) := hti
      obtain ⟨ao, cp, f0, hown⟩ := hti.f
      obtain ⟨r0, r1, rf, -, f1, ff, -, hsz⟩ := hti
      have HO : Hid (wr.ownsRow (w.heap.size + 1 + 1) 48 2 (.slice ao done.length cp) done.length (lkc done)) := hown
      obtain ⟨g, rfl⟩ : ∃ g, ao = some ⟨g, 0, none⟩ := by
        rcases hown.2 with ⟨_, h0⟩ | ⟨g, cap, cur, hv, _⟩
        · have := HL.out.1; omega
        · cases hv; exact ⟨g, rfl⟩
      have hgb := (hown.lt g rfl).1
      have hl0 := HL.out.1
      obtain ⟨m, hm⟩ : ∃ m, done.length = m := ⟨_, rfl⟩
      have HM : Hid (done.length = m) := hm
      rw [hm] at f0 hl0
      clear hid hdr hown hm HH HC HT0 HL
      have hne : w.heap.size ≠ w.heap.size + 1 := by omega
      have hne' : w.heap.size + 1 ≠ w.heap.size := by omega
      have hm0 : (0 : Int) < (m : Int) := by omega
      go_wp2
      obtain ⟨U, hU⟩ : ∃ U, wr.setCell ⟨w.heap.size + 1, 1, none⟩ (.int .i64 c) = U := ⟨_, rfl⟩
      have u0 : U.cell? ⟨w.heap.size + 1, 0, none⟩ = some (.slice (some ⟨g, 0, none⟩) m cp) := by rw [← hU]; exact (Rp.cell_set_ne (by decide)).trans f0
      have u1 : U.cell? ⟨w.heap.size + 1, 1, none⟩ = some (.int .i64 c) := by rw [← hU]; exact Rp.cell_set_eq f1
      have v0 : U.cell? ⟨w.heap.size, 0, none⟩ = some (.slice none 0 0) := by rw [← hU]; exact (Rp.cell_set_off (by omega)).trans r0
      have v1 : U.cell? ⟨w.heap.size, 1, none⟩ = some (.int .i64 0) := by rw [← hU]; exact (Rp.cell_set_off (by omega)).trans r1
      have vf : ∀ j, U.frozen? ⟨w.heap.size, j, none⟩ = false := fun j => by rw [← hU, World.frozen?_setCell]; exact rf j
      have HBU : Hid (Below w.heap.size w U) := by rw [← hU]; exact HTI.out.be.setCell (p := ⟨w.heap.size + 1, 1, none⟩) (by simp) _
      have HOU : Hid (U.ownsRow w.heap.size 48 2 (.slice (some ⟨g, 0, none⟩) m cp) m (lkc done)) := by
        have h1 := HO.out
        rw [HM.out] at h1
        rw [← hU]
        refine ⟨h1.1, ?_⟩
        rcases h1.2 with ⟨hv, _⟩ | ⟨g', cap, cur, hv, hb, hh, r⟩
        · cases hv
        · cases hv
          exact .inr ⟨g, cp, cur, rfl, by omega, (Below.heap_setCell _ _ _ g (by show g ≠ w.heap.size + 1; omega)).trans hh, r⟩
      rw [hU]
      clear hU f0 f1 ff r0 r1 rf ta tb tc HTI HO
      go_region
      all_goals
        go_wp2
        refine bodyPost_ret (v := .tuple #[.agg #[.slice (some ⟨g, 0, none⟩) m cp, .int .i64 c], .bool true]) (by simp [results, Tryz.results7, go_sem, v0, v1]) rfl ?_
        rw [HM.out]
        refine ⟨g, cp, rfl, ((HBU.out.setCell (p := ⟨w.heap.size, 0, none⟩) (Nat.le_refl _) _).setCell (p := ⟨w.heap.size, 1, none⟩) (Nat.le_refl _) _).drew, ?_⟩
        have h1 := HOU.out
        refine ⟨h1.1, ?_⟩
        rcases h1.2 with ⟨hv, _⟩ | ⟨g', cap, cur, hv, hb, hh, r⟩
        · cases hv
        · cases hv
          exact .inr ⟨g, cp, cur, rfl, hb, (Below.heap_setCell _ _ _ g (by show g ≠ w.heap.size; omega)).trans ((Below.heap_setCell _ _ _ g (by show g ≠ w.heap.size; omega)).trans hh), r⟩
    | cons x r =>
      obtain ⟨q, u, rfl, g0, g1, g2, hch2⟩ := hch
      have HTI : Hid (TI w wr w.heap.size (w.heap.size + 1) done) := hti
      have HC2 : Hid (Chain w r c u) := hch2
      have HD : Hid (i = done.length ∧ done ++ x :: r = ls) := ⟨hid, hdr⟩
      have hq := Rp.cell_lt g0
      replace g0 := (hti.be.cell (p := ⟨q, 0, none⟩) hq).trans g0
      replace g1 := (hti.be.cell (p := ⟨q, 1, none⟩) hq).trans g1
      replace g2 := (hti.be.cell (p := ⟨q, 2, none⟩) hq).trans g2
      obtain ⟨ao, cp, f0, hown⟩ := hti.f
      have ff := hti.ff
      have hsz := hti.sz
      obtain ⟨m, hm⟩ : ∃ m, done.length = m := ⟨_, rfl⟩
      have HM : Hid (done.length = m) := hm
      rw [hm] at f0 hown
      have HO : Hid (wr.ownsRow (w.heap.size + 1 + 1) 48 2 (.slice ao m cp) m (lkc done)) := hown
      have hm12 : m ≤ 12 := by omega
      clear hid hdr hch2 hti hown hm HH HC HT0
      obtain ⟨x1, x2⟩ := x
      simp only at g0 g1
      go_wp2
      have hqF : q ≠ w.heap.size + 1 := by have : q < w.heap.size := hq; omega
      have H63 : m + 1 ≤ maxLen := by unfold maxLen; omega
      have HBY : (m + 1) * 24 ≤ 140737488355328 := by omega
      have HBS : ∀ o, w.heap.size + 1 + 1 ≤ (wr.alloc o).heap.size := fun o => by simp; omega
      have HNX := fun (W4 : World) (g4 c4 : Nat) (o : Obj) (ho : W4.ownsRow (w.heap.size + 1 + 1) 48 2 (.slice (some ⟨g4, 0, none⟩) (m + 1) c4) (m + 1) (lkc done ++ [.string x1, .int .i64 x2])) (hg : (wr.alloc o).drew.grownBy W4 (Value.slice ao m cp).ownBlock) => HTI.out.next (o := o) (v := Value.slice ao m cp) (x := (x1, x2)) rfl rfl (fun k hk => (HO.out.lt k hk).1) (by rw [HM.out]; exact ho) ⟨hg.os, hg.tape, hg.output, hg.size, hg.block⟩
      have HNXH : Hid _ := HNX
      clear HNX
      have H1C : ∀ u ∈ ([.string x1, .int .i64 x2] : List Value), u.oneCell' = true := by intro u hu; simp at hu; rcases hu with rfl | rfl <;> rfl
      have HNW : ∀ j u, ([.string x1, .int .i64 x2] : List Value)[j]? = some u → (wr.alloc (.cells #[.string x1, .int .i64 x2] 48)).drew.cell? ((⟨wr.heap.size, 0, none⟩ : Addr).add j) = some u := fun j u hu => World.news_of_block (Wk.heap_new wr (.cells #[.string x1, .int .i64 x2] 48)) j u hu
      have HOA : (wr.alloc (.cells #[.string x1, .int .i64 x2] 48)).drew.ownsRow (w.heap.size + 1 + 1) 48 2 (.slice ao m cp) m (lkc done) := World.ownsRow.alloc HO.out _
      have HBS1 : w.heap.size + 1 + 1 ≤ (wr.alloc (.cells #[.string x1, .int .i64 x2] 48)).drew.heap.size := HBS _
      have HK1 : Hid _ := H1C
      have HK2 : Hid _ := HNW
      have HK3 : Hid _ := HOA
      have HK4 : Hid _ := HBS1
      clear H1C HNW HOA HBS1 HBS
      go_region_law (go_loud (refine step_append_lies _ rfl (.tmp 30) (.tmp 40) 28 rfl (w.heap.size + 1 + 1) 48 i0 _ 2 24 Tryz.underlying28 hi hz0 hz1 hz2 rfl (by decide) (.slice ao m cp) m (lkc done) (by simp [Act.eval]) HK3.out ⟨wr.heap.size, 0, none⟩ 1 1 [.string x1, .int .i64 x2] (by simp [Act.eval]) rfl HK2.out HK1.out (by decide) H63 HBY HK4.out _ rfl ?_); intro g4 c4 W4 ho4 hg4 hd4 hl4; have hx4 := HNXH.out W4 g4 c4 _ ho4 hg4; have z0 := (World.cell?_of_block (a := ⟨w.heap.size + 1, 0, none⟩) (hx4.1 (w.heap.size + 1) (Nat.lt_succ_self _))).trans f0; have zf := fun j => (World.frozen?_of_block (a := ⟨w.heap.size + 1, j, none⟩) (hx4.1 (w.heap.size + 1) (Nat.lt_succ_self _))).trans (ff j))
      all_goals
        have y2 := (World.cell?_of_block (a := ⟨q, 2, none⟩) (hx4.1 q (by have : q < w.heap.size := hq; omega))).trans g2
        have HT4 : Hid _ := hx4.2
        clear hx4 ho4 hg4 hd4 hl4 zf z0 g0 g1 g2 f0 ff
        have hqF' : w.heap.size + 1 ≠ q := fun h => hqF h.symm
        go_wp2
        refine ⟨⟨i + 1, done ++ [(x1, x2)], r, by simp, ?_, ?_⟩, by simp [intOf]; omega⟩
        · have h1 := HD.out.1
          have h2 := congrArg List.length HD.out.2
          simp at h2
          have := HL.out.2
          omega
        · refine ⟨by rw [List.length_append, ← HD.out.1]; rfl, by rw [← HD.out.2]; simp, HC2.out, ?_⟩
          have := HT4.out
          rw [HM.out] at this
          exact this
end Go.Proofs.YtgdemlebohlolaaGreatDoor

/-
  DERIVED. Faults in chains, held against each other.
-/
namespace Go.Proofs.YtgdemlebohlolaaGreatDoor
open Go Go.Proofs Go.RowKit

structure StopF (p : Prop) : Prop where
  out : p
/-- Links lie there. -/
def LkAt (w : World) (g : Nat) (ls : List Lk) : Prop := ∀ i (h : i < ls.length), w.cell? ⟨g, i * 2, none⟩ = some (.string (ls[i]'h).1) ∧ w.cell? ⟨g, i * 2 + 1, none⟩ = some (.int .i64 (ls[i]'h).2)
theorem LkAt.on {w w' : World} {g : Nat} {ls : List Lk} (h : LkAt w g ls) (hb : Below w.heap.size w w') : LkAt w' g ls := fun i hi => ⟨(hb.cell (Rp.cell_lt (h i hi).1)).trans (h i hi).1, (hb.cell (Rp.cell_lt (h i hi).2)).trans (h i hi).2⟩
theorem lk_own {w : World} {base g n cap : Nat} {ls : List Lk} (h : w.ownsRow base 48 2 (.slice (some ⟨g, 0, none⟩) n cap) n (lkc ls)) (hn : n = ls.length) : LkAt w g ls := fun i hi => by
  have h1 := World.ownsRow.cellAt h
  exact ⟨(h1 (i * 2) (by omega)).trans (lkc_get ls i hi).1, (h1 (i * 2 + 1) (by omega)).trans (lkc_get ls i hi).2⟩

set_option maxRecDepth 100000 in
set_option maxHeartbeats 2000000 in
theorem same_chain (w : World) (ls : List Lk) (g h cg ch k : Nat) (c : Int) (hk : k = ls.length) (hs : k ≤ 100) (hg : LkAt w g ls) (hh : LkAt w h ls) :
    Calls Tryz.prog 8 #[.agg #[.slice (some ⟨g, 0, none⟩) k cg, .int .i64 c], .agg #[.slice (some ⟨h, 0, none⟩) k ch, .int .i64 c]] w fun e w' => e = .returned (.bool true) ∧ Hid (Below w.heap.size w w') := by
  have HG : Hid (LkAt w g ls) := hg
  have HH : Hid (LkAt w h ls) := hh
  have HK : Hid (k = ls.length) := hk
  clear hg hh hk
  obtain ⟨W1, hW1⟩ : ∃ W1, (w.alloc (.cells #[.slice (some ⟨g, 0, none⟩) k cg, .int .i64 c] 30)).alloc (.cells #[.slice (some ⟨h, 0, none⟩) k ch, .int .i64 c] 30) = W1 := ⟨_, rfl⟩
  have HB1 : Hid (Below w.heap.size w W1) := by rw [← hW1]; exact ((Below.refl _ _).alloc (Nat.le_refl _) _).alloc (by simp) _
  have a0 : W1.cell? ⟨w.heap.size, 0, none⟩ = some (.slice (some ⟨g, 0, none⟩) k cg) := by rw [← hW1]; simp
  have a1 : W1.cell? ⟨w.heap.size, 1, none⟩ = some (.int .i64 c) := by rw [← hW1]; simp
  have b0 : W1.cell? ⟨w.heap.size + 1, 0, none⟩ = some (.slice (some ⟨h, 0, none⟩) k ch) := by rw [← hW1]; simp
  have b1 : W1.cell? ⟨w.heap.size + 1, 1, none⟩ = some (.int .i64 c) := by rw [← hW1]; simp
  go_enter Tryz.func8, Tryz.ntmps8
  go_wp2
  clear hW1
  go_loopw [5] (fun x5 wr => ∃ i : Nat, x5 = .int .i64 (i : Int) ∧ i ≤ k ∧ ∃ m, wr = W1.drewN m) (fun x5 _ => 200 - (intOf x5).toNat)
  case atStart => exact ⟨0, rfl, by omega, 0, rfl⟩
  case round =>
    obtain ⟨i, rfl, hi, m, rfl⟩ := hrel
    by_cases hlt : i < k
    · have hltI : (i : Int) < (k : Int) := by omega
      have hil : i < ls.length := by rw [← HK.out]; exact hlt
      obtain ⟨x0, x1⟩ := HG.out.on HB1.out i hil
      obtain ⟨y0, y1⟩ := HH.out.on HB1.out i hil
      generalize ls[i]'hil = q at x0 x1 y0 y1
      go_wp2
      go_quiet (fail)
      go_wp2
      go_roundw
      case rel => exact ⟨i + 1, by go_num, by omega, _, rfl⟩
      case measure => simp [intOf]; omega
    · have hltI : ¬ (i : Int) < (k : Int) := by omega
      go_wp2
      go_ret
      exact ⟨rfl, Wk.below_drw HB1.out _⟩

set_option maxRecDepth 100000 in
set_option maxHeartbeats 2000000 in
theorem is_chain (w : World) (ls : List Lk) (c : Int) (v : Value) (g cg k : Nat) (h : Chain w ls c v) (hc : c ≠ 0) (hk : k = ls.length) (h1 : 0 < k) (h11 : k ≤ 11) (hg : LkAt w g ls) :
    Calls Tryz.prog 4 #[v, .agg #[.slice (some ⟨g, 0, none⟩) k cg, .int .i64 c]] w fun e w' => e = .returned (.bool true) ∧ Below w.heap.size w w' := by
  obtain ⟨W1, hW1⟩ : ∃ W1, w.alloc (.cells #[.slice (some ⟨g, 0, none⟩) k cg, .int .i64 c] 30) = W1 := ⟨_, rfl⟩
  have hb1 : Below w.heap.size w W1 := hW1 ▸ (Below.refl _ _).alloc (Nat.le_refl _) _
  have hs1 : w.heap.size < W1.heap.size := by rw [← hW1]; simp
  have a0 : W1.cell? ⟨w.heap.size, 0, none⟩ = some (.slice (some ⟨g, 0, none⟩) k cg) := by rw [← hW1]; simp
  have a1 : W1.cell? ⟨w.heap.size, 1, none⟩ = some (.int .i64 c) := by rw [← hW1]; simp
  have ht := told_any W1 ls c v (h.on hb1) hc (by omega) (by omega)
  rw [← hk] at ht
  have HG1 : Hid (LkAt W1 g ls) := hg.on hb1
  have HB1 : Hid (Below w.heap.size w W1) := hb1
  have HK : Hid (k = ls.length) := hk
  clear h hg hk hb1 hc
  go_enter Tryz.func4, Tryz.ntmps4
  go_wp2_with (go_at_call 7; refine StopF.out ?_)
  refine ⟨Calls.mono ht ?_⟩
  rintro e W2 ⟨g4, cap4, rfl, hb2, ho2⟩
  have e0 := (hb2.out.cell (p := ⟨w.heap.size, 0, none⟩) hs1).trans a0
  have e1 := (hb2.out.cell (p := ⟨w.heap.size, 1, none⟩) hs1).trans a1
  have hs2 : w.heap.size < W2.heap.size := Nat.lt_of_lt_of_le hs1 hb2.out.size
  have HG2 : Hid (LkAt W2 g ls) := HG1.out.on hb2.out
  have HL2 : Hid (LkAt W2 g4 ls) := lk_own ho2.out HK.out
  have HB2 : Hid (Below w.heap.size w W2) := HB1.out.trans (hb2.out.mono HB1.out.size)
  clear ht hb2 ho2 a0 a1 hW1
  have hb3 : Below W2.heap.size W2 (W2.alloc (.cells #[.slice (some ⟨g4, 0, none⟩) k cap4, .int .i64 c] 30)) := (Below.refl _ _).alloc (Nat.le_refl _) _
  have c27 := same_chain (W2.alloc (.cells #[.slice (some ⟨g4, 0, none⟩) k cap4, .int .i64 c] 30)) ls g g4 cg cap4 k c HK.out (by omega) (HG2.out.on hb3) (HL2.out.on hb3)
  go_wp2_with (go_at_call 8; refine StopF.out ?_)
  refine ⟨Calls.mono c27 ?_⟩
  rintro e W3 ⟨rfl, hb4⟩
  go_wp2
  go_ret
  exact ⟨rfl, HB2.out.trans ((hb3.trans (hb4.out.mono hb3.size)).mono HB2.out.size)⟩
end Go.Proofs.YtgdemlebohlolaaGreatDoor
