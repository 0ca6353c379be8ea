import Derived.Test.YtfoodjhffehgpaaGreatDoorBo
import Derived.Test.YtfoodjhffehgpaaGreatDoorVk
import Derived.Test.YtfoodjhffehgpaaGreatDoorDc
/-
  DERIVED. The size of a data set: the document's.
-/
namespace Go.Proofs.YtfoodjhffehgpaaGreatDoor
open Go Go.Proofs Go.RowKit
open Wk (Nd NV goN nxt)

/-- The document's refusal. -/
def RErr2 (w : World) (v : Value) (o : Option (List Lk × Int)) : Prop := (o = none ∧ v = .agg #[.slice none 0 0, .int .i64 0]) ∨ ∃ (ls : List Lk) (c : Int) (g cg : Nat), o = some (ls, c) ∧ v = .agg #[.slice (some ⟨g, 0, none⟩) ls.length cg, .int .i64 c] ∧ LkAt w g ls
theorem RErr2.on {w w' : World} {v : Value} {o : Option (List Lk × Int)} (h : RErr2 w v o) (hb : Below w.heap.size w w') : RErr2 w' v o := by
  rcases h with h | ⟨ls, c, g, cg, h1, h2, h3⟩
  · exact .inl h
  · exact .inr ⟨ls, c, g, cg, h1, h2, h3.on hb⟩
theorem LkAt.offB {w : World} {g r : Nat} {ls : List Lk} (h : LkAt w g ls) (hr : r ≠ g) (x y : Value) : LkAt ((w.setCell ⟨r, 0, none⟩ x).setCell ⟨r, 1, none⟩ y) g ls := fun i hi =>
  ⟨(Rp.cell_set_off hr).trans ((Rp.cell_set_off hr).trans (h i hi).1), (Rp.cell_set_off hr).trans ((Rp.cell_set_off hr).trans (h i hi).2)⟩
set_option maxHeartbeats 400000 in
theorem newB_any (c at' : Int) (w : World) : Calls Tryz.prog 34 #[.string { data := #[100, 97, 116, 97, 115, 101, 116] }, .int .i64 at', .int .i64 c] w fun e w' => e = .returned (.agg #[.slice (some ⟨w.heap.size + 1, 0, none⟩) 1 1, .int .i64 c]) ∧ Hid (Below w.heap.size w w') ∧ Hid (LkAt w' (w.heap.size + 1) [(dsB, at')]) := by
  go_enter Tryz.func34, Tryz.ntmps34
  go_wp2
  refine bodyPost_ret (v := .agg #[.slice (some ⟨w.heap.size + 1, 0, none⟩) 1 1, .int .i64 c]) (by simp [results, Tryz.results34, go_sem]) rfl ⟨rfl, ((Below.refl _ _).alloc (Nat.le_refl _) _).alloc (by simp) _, fun i hi => ?_⟩
  obtain rfl : i = 0 := by simp at hi; omega
  exact ⟨by simp [dsB], by simp⟩
set_option maxRecDepth 100000 in
theorem synI_any (w : World) : Calls Tryz.prog 33 #[.int .i64 1] w fun e w' => e = .returned (.bool true) ∧ w = w' := by
  go_enter Tryz.func33, Tryz.ntmps33
  go_wp2
  go_ret
  exact ⟨rfl, rfl⟩
set_option maxRecDepth 100000 in
theorem synE_any (w : World) : Calls Tryz.prog 33 #[.int .i64 2] w fun e w' => e = .returned (.bool true) ∧ w = w' := by
  go_enter Tryz.func33, Tryz.ntmps33
  go_wp2
  go_ret
  exact ⟨rfl, rfl⟩
set_option maxRecDepth 100000 in
theorem synN_any (w : World) (s : Int) (h : s ≠ 1 ∧ s ≠ 2) : Calls Tryz.prog 33 #[.int .i64 s] w fun e w' => e = .returned (.bool false) ∧ w = w' := by
  have b1 : (s == 1) = false := beq_eq_false_iff_ne.2 h.1
  have b2 : (s == 2) = false := beq_eq_false_iff_ne.2 h.2
  clear h
  go_enter Tryz.func33, Tryz.ntmps33
  go_wp2
  go_ret
  exact ⟨rfl, rfl⟩
/-- What the document's Size tells. -/
def SzR (w : World) (s : Int) (L : List Nd) (e : Ending) (w' : World) : Prop := ∃ vf, e = .returned (.tuple #[.int .i64 (siz s L : Int), vf]) ∧ RErr2 w' vf (errOf s L) ∧ Below w.heap.size w w'

set_option maxRecDepth 100000 in
set_option maxHeartbeats 1000000 in
theorem rsize_no (w : World) (a : Option Addr) (n cap : Nat) (L : List Nd) (s : Int) (h : s ≠ 1 ∧ s ≠ 2) : Calls Tryz.prog 11 #[.slice a n cap, .int .i64 s] w (SzR w s L) := by
  obtain ⟨W0, hW0⟩ : ∃ W0, w.alloc (.cells #[.slice none 0 0, .int .i64 0] 35) = W0 := ⟨_, rfl⟩
  have hb0 : Below w.heap.size w W0 := by rw [← hW0]; exact (Below.refl _ _).alloc (Nat.le_refl _) _
  have hf0 : Tb.Fc W0 w.heap.size := by rw [← hW0]; exact ⟨by simp, by simp, fun i => by simp⟩
  have hs0 : W0.heap.size = w.heap.size + 1 := by rw [← hW0]; simp
  have HB : Hid (Below w.heap.size w W0 ∧ W0.heap.size = w.heap.size + 1) := ⟨hb0, hs0⟩
  have c := synN_any W0 s h
  have c2 := newB_any 120 0 W0
  have HS : Hid (siz s L = 0 ∧ errOf s L = some ([(dsB, 0)], 120)) := ⟨by unfold siz; rw [err_bad h]; rfl, err_bad h⟩
  have HF0 : Hid _ := hf0
  clear h hb0 hs0 hf0
  go_enter Tryz.func11, Tryz.ntmps11
  go_wp2_with (first | (go_at_call 33; refine Calls.mono c ?_; rintro e Wx ⟨rfl, rfl⟩) | (go_at_call 34; refine StopB.out ?_))
  refine ⟨Calls.mono c2 ?_⟩
  rintro e W2 ⟨rfl, hb2, hlk⟩
  have hf2 := HF0.out.next hb2.out
  obtain ⟨p0, p1⟩ := Tb.Fc.sets hf2 (.slice (some ⟨W0.heap.size + 1, 0, none⟩) 1 1) (.int .i64 120)
  obtain ⟨f0, f1, ff⟩ := hf2
  have hB2 : Below w.heap.size w W2 := HB.out.1.trans (hb2.out.mono HB.out.1.size)
  have HP : Hid _ := (⟨p0, p1⟩ : _ ∧ _)
  clear hW0 c c2 p0 p1
  go_wp2
  obtain ⟨p0, p1⟩ := HP.out
  refine bodyPost_ret (v := .tuple #[.int .i64 0, .agg #[.slice (some ⟨W0.heap.size + 1, 0, none⟩) 1 1, .int .i64 120]]) (by simp only [results, Tryz.results11]; simp [go_sem, p0, p1]) rfl ⟨_, by rw [HS.out.1]; rfl, ?_, (hB2.setCell (p := ⟨w.heap.size, 0, none⟩) (Nat.le_refl _) _).setCell (p := ⟨w.heap.size, 1, none⟩) (Nat.le_refl _) _⟩
  rw [HS.out.2]
  exact .inr ⟨_, _, _, _, rfl, rfl, hlk.out.offB (by have := HB.out.2; omega) _ _⟩
set_option maxRecDepth 100000 in
set_option maxHeartbeats 4000000 in
theorem rsize_I (hS : SomeC 0) (w : World) (a : Option Addr) (n cap : Nat) (L : List Nd) (hV : NV w a n cap L) (hT : TagsOk L) : Calls Tryz.prog 11 #[.slice a n cap, .int .i64 1] w (SzR w 1 L) := by
  obtain ⟨W0, hW0⟩ : ∃ W0, w.alloc (.cells #[.slice none 0 0, .int .i64 0] 35) = W0 := ⟨_, rfl⟩
  have hb0 : Below w.heap.size w W0 := by rw [← hW0]; exact (Below.refl _ _).alloc (Nat.le_refl _) _
  have hf0 : Tb.Fc W0 w.heap.size := by rw [← hW0]; exact ⟨by simp, by simp, fun i => by simp⟩
  have hs0 : W0.heap.size = w.heap.size + 1 := by rw [← hW0]; simp
  have cx := synI_any W0
  have cf := rformed_any hS W0 a n cap L (hV.on hb0) hT
  have HV : Hid (NV w a n cap L ∧ TagsOk L) := ⟨hV, hT⟩
  have HN : Hid (n = L.length) := hV.len
  have HB0 : Hid (Below w.heap.size w W0) := hb0
  have HF0 : Hid _ := hf0
  have HS0 : Hid _ := hs0
  clear hV hT hb0 hf0 hs0 hS
  go_enter Tryz.func11, Tryz.ntmps11
  go_wp2_with (first | (go_at_call 33; refine Calls.mono cx ?_; rintro e Wx ⟨rfl, rfl⟩) | (go_at_call 21; refine StopB.out ?_))
  refine ⟨Calls.mono cf ?_⟩
  rintro e W2 ⟨vf, rfl, hpd, hb2⟩
  have HF2 : Hid (Tb.Fc W2 w.heap.size) := HF0.out.next hb2.out
  have HB2 : Hid (Below w.heap.size w W2) := HB0.out.trans (hb2.out.mono HB0.out.size)
  have HZ2 : Hid (w.heap.size + 1 ≤ W2.heap.size) := by have := hb2.out.size; have := HS0.out; show _ ≤ _; omega
  clear cf hW0 hb2 cx
  rcases hpd.out with ⟨hr, rfl⟩ | ⟨hr, g, c, rfl, g0, g1⟩
  · obtain ⟨h40, -⟩ := res_ok hr
    have hgd := res_good hr
    have hwf := res_wf hr
    have hn40 : n ≤ 4096 := by rw [HN.out]; exact h40
    have hsd : encI.sD false (sub L 0 L.length) = encI.szP L := by
      rw [sub_all]
      exact (Enc.same fitI _ false _ hwf).1
    have crs := fun X (hX : Below w.heap.size w X) => rs_any n X a n cap L false 0 n (by omega) ⟨HV.out.1.on hX, HV.out.2, hgd, hn40⟩ (Nat.zero_le _) (Nat.le_refl _) (by rw [HN.out]; exact Lev.top L)
    have crs2 : ∀ X, Below w.heap.size w X → Calls Tryz.prog 35 #[.slice a n cap, .int .i64 0, .int .i64 (n : Int), .bool false] X fun r W' => r = .returned (.int .i64 (encI.szP L : Int)) ∧ Below X.heap.size X W' := by
      intro X hX
      have h1 := crs X hX
      rw [show (encOf false).sD false (sub L 0 n) = encI.szP L by rw [HN.out]; exact hsd] at h1
      exact h1
    obtain ⟨k, hk⟩ : ∃ k, encI.szP L = k := ⟨_, rfl⟩
    simp only [hk] at crs2
    have CRS : Hid _ := crs2
    have HK : Hid (encI.szP L = k) := hk
    have HR : Hid ((res L).2 = true) := hr
    clear hpd crs crs2 hsd hwf hgd hr h40
    go_wp2_with (go_at_call 12; refine StopB.out ?_)
    refine ⟨Calls.mono (any_none _) ?_⟩
    rintro e W4 ⟨rfl, hb4'⟩
    have hb4 : Below W2.heap.size W2 W4 := ((Below.refl W2.heap.size W2).alloc (Nat.le_refl _) _).trans (hb4'.mono (by simp))
    clear hb4'
    go_wp2_with (go_at_call 35; refine StopB.out ?_)
    have hB4 : Below w.heap.size w W4 := HB2.out.trans (hb4.mono HB2.out.size)
    refine ⟨Calls.mono (CRS.out W4 hB4) ?_⟩
    rintro e W5 ⟨rfl, hb5⟩
    have HF5 : Hid (Tb.Fc W5 w.heap.size) := (HF2.out.next hb4).next hb5
    have HB5 : Hid (Below w.heap.size w W5) := hB4.trans (hb5.mono hB4.size)
    have HZ5 : Hid (w.heap.size + 1 ≤ W5.heap.size) := Nat.le_trans HZ2.out (Nat.le_trans hb4.size hb5.size)
    clear hb4 hb5 hB4 CRS
    by_cases hkl : 1048576 < k
    · have HS : Hid (siz 1 L = 0 ∧ errOf 1 L = some ([(dsB, 1048576)], 121)) := by
        have e := err_long (s := 1) (L := L) (by decide) HR.out (by rw [show encS 1 = encI from rfl, HK.out]; exact hkl)
        exact ⟨by unfold siz; rw [e]; rfl, e⟩
      have hkI : (1048576 : Int) < (k : Int) := by omega
      go_wp2_with (go_at_call 34; refine StopB.out ?_)
      refine ⟨Calls.mono (newB_any 121 1048576 W5) ?_⟩
      rintro e W6 ⟨rfl, hb6, hlk⟩
      have hf6 := HF5.out.next hb6.out
      obtain ⟨p0, p1⟩ := Tb.Fc.sets hf6 (.slice (some ⟨W5.heap.size + 1, 0, none⟩) 1 1) (.int .i64 121)
      obtain ⟨f0, f1, ff⟩ := hf6
      have hB6 : Below w.heap.size w W6 := HB5.out.trans (hb6.out.mono HB5.out.size)
      have HP : Hid _ := (⟨p0, p1⟩ : _ ∧ _)
      clear p0 p1
      go_wp2
      obtain ⟨p0, p1⟩ := HP.out
      refine bodyPost_ret (v := .tuple #[.int .i64 0, .agg #[.slice (some ⟨W5.heap.size + 1, 0, none⟩) 1 1, .int .i64 121]]) (by simp only [results, Tryz.results11]; simp [go_sem, p0, p1]) rfl ⟨_, by rw [HS.out.1]; rfl, ?_, (hB6.setCell (p := ⟨w.heap.size, 0, none⟩) (Nat.le_refl _) _).setCell (p := ⟨w.heap.size, 1, none⟩) (Nat.le_refl _) _⟩
      rw [HS.out.2]
      exact .inr ⟨_, _, _, _, rfl, rfl, hlk.out.offB (by have := HZ5.out; omega) _ _⟩
    · have HS : Hid (siz 1 L = k ∧ errOf 1 L = none) := by
        have e := err_none (s := 1) (L := L) (by decide) HR.out (by rw [show encS 1 = encI from rfl, HK.out]; exact hkl)
        exact ⟨by unfold siz; rw [e, show encS 1 = encI from rfl, HK.out]; rfl, e⟩
      have hkI : ¬ (1048576 : Int) < (k : Int) := by omega
      go_wp2_with (go_at_call 25; refine StopB.out ?_)
      refine ⟨Calls.mono (Tb.none_any W5) ?_⟩
      rintro e W6 ⟨rfl, hb6⟩
      have hf6 := HF5.out.next hb6
      obtain ⟨p0, p1⟩ := Tb.Fc.sets hf6 (.slice none 0 0) (.int .i64 0)
      obtain ⟨f0, f1, ff⟩ := hf6
      have hB6 : Below w.heap.size w W6 := HB5.out.trans (hb6.mono HB5.out.size)
      have HP : Hid _ := (⟨p0, p1⟩ : _ ∧ _)
      clear p0 p1
      go_wp2
      obtain ⟨p0, p1⟩ := HP.out
      refine bodyPost_ret (v := .tuple #[.int .i64 (k : Int), .agg #[.slice none 0 0, .int .i64 0]]) (by simp only [results, Tryz.results11]; simp [go_sem, p0, p1]) rfl ⟨_, by rw [HS.out.1], ?_, (hB6.setCell (p := ⟨w.heap.size, 0, none⟩) (Nat.le_refl _) _).setCell (p := ⟨w.heap.size, 1, none⟩) (Nat.le_refl _) _⟩
      exact .inl ⟨HS.out.2, rfl⟩
  · have HR : Hid ((res L).2 = false) := hr
    have HS : Hid (siz 1 L = 0 ∧ errOf 1 L = some ([(dsB, ((res L).1 : Int)), (dcB, ((res L).1 : Int))], 5)) := ⟨by unfold siz; rw [err_form (by decide) hr]; rfl, err_form (by decide) hr⟩
    clear hr
    obtain ⟨W3, hW3⟩ : ∃ W3, W2.alloc (.cells #[.slice (some ⟨g, 0, none⟩) 1 c, .int .i64 5] 35) = W3 := ⟨_, rfl⟩
    have hb3 : Below W2.heap.size W2 W3 := by rw [← hW3]; exact (Below.refl _ _).alloc (Nat.le_refl _) _
    have x0 : W3.cell? ⟨W2.heap.size, 0, none⟩ = some (.slice (some ⟨g, 0, none⟩) 1 c) := by rw [← hW3]; simp
    have x1 : W3.cell? ⟨W2.heap.size, 1, none⟩ = some (.int .i64 5) := by rw [← hW3]; simp
    have g0' := (hb3.cell (p := ⟨g, 0, none⟩) (Tb.cell_lt g0)).trans g0
    have g1' := (hb3.cell (p := ⟨g, 1, none⟩) (Tb.cell_lt g1)).trans g1
    have HF3 : Hid (Tb.Fc W3 w.heap.size) := HF2.out.next hb3
    have HB3 : Hid (Below w.heap.size w W3) := HB2.out.trans (hb3.mono HB2.out.size)
    clear hpd hb3 g0 g1
    go_wp2_with (go_at_call 12; refine StopF.out ?_)
    refine ⟨Calls.mono (any_some _ _ _) ?_⟩
    rintro e W4 ⟨rfl, hb4⟩
    have z0 := (hb4.cell (p := ⟨W2.heap.size, 0, none⟩) (Tb.cell_lt x0)).trans x0
    have z1 := (hb4.cell (p := ⟨W2.heap.size, 1, none⟩) (Tb.cell_lt x1)).trans x1
    have y0 := (hb4.cell (p := ⟨g, 0, none⟩) (Tb.cell_lt g0')).trans g0'
    have y1 := (hb4.cell (p := ⟨g, 1, none⟩) (Tb.cell_lt g1')).trans g1'
    have HF4 : Hid (Tb.Fc W4 w.heap.size) := HF3.out.next hb4
    have HB4 : Hid (Below w.heap.size w W4) := HB3.out.trans (hb4.mono HB3.out.size)
    obtain ⟨f0, f1, ff⟩ := HF4.out
    clear hb4 x0 x1 g0' g1' hW3 HF3 HB3 HB2 HF2
    have hn2 : w.heap.size ≠ W2.heap.size := by have := HZ2.out; omega
    have hng : w.heap.size ≠ g := by rintro rfl; rw [f0] at y0; cases y0
    go_wp2
    refine wp_region_noPanic ?_
    go_region_held3 (fun w' => w'.cell? ⟨W2.heap.size, 0, none⟩ = some (.slice (some ⟨g, 0, none⟩) 1 c) ∧ w'.cell? ⟨W2.heap.size, 1, none⟩ = some (.int .i64 5) ∧ w'.cell? ⟨g, 1, none⟩ = some (.int .i64 ((res L).1 : Int))) (first | (go_keep; done) | exact ⟨(Rp.cell_set_off hn2).trans ((Rp.cell_set_off hn2).trans (by assumption)), (Rp.cell_set_off hn2).trans ((Rp.cell_set_off hn2).trans (by assumption)), (Rp.cell_set_off hng).trans ((Rp.cell_set_off hng).trans (by assumption))⟩) (first | (go_at_call 22; refine Calls.mono (wrap_any _ _ _ _ _ _ y0 y1) ?_; rintro e W5 ⟨g2, c2, rfl, hlk, hb5⟩; have v0 : W5.cell? ⟨W2.heap.size, 0, none⟩ = some (.slice (some ⟨g, 0, none⟩) 1 c) := (hb5.out.cell (p := ⟨W2.heap.size, 0, none⟩) (Tb.cell_lt z0)).trans z0; have v1 : W5.cell? ⟨W2.heap.size, 1, none⟩ = some (.int .i64 5) := (hb5.out.cell (p := ⟨W2.heap.size, 1, none⟩) (Tb.cell_lt z1)).trans z1; have v2 : W5.cell? ⟨g, 1, none⟩ = some (.int .i64 ((res L).1 : Int)) := (hb5.out.cell (p := ⟨g, 1, none⟩) (Tb.cell_lt y1)).trans y1; have v3 : W5.cell? ⟨w.heap.size, 0, none⟩ = some (.slice none 0 0) := (hb5.out.cell (p := ⟨w.heap.size, 0, none⟩) (Tb.cell_lt f0)).trans f0; have v4 : W5.cell? ⟨w.heap.size, 1, none⟩ = some (.int .i64 0) := (hb5.out.cell (p := ⟨w.heap.size, 1, none⟩) (Tb.cell_lt f1)).trans f1; have v5 : ∀ i, W5.frozen? ⟨w.heap.size, i, none⟩ = false := fun i => (hb5.out.frozen (p := ⟨w.heap.size, i, none⟩) (show w.heap.size < _ from Tb.cell_lt f0)).trans (ff i)))
    refine NoPanic.normal ?_
    have hg2 : w.heap.size ≠ g2 := by
      rintro rfl
      have := (hlk.out 0 (Nat.zero_lt_succ _)).1
      rw [show 0 * 2 = 0 from rfl, v3] at this
      cases this
    have hb45 : Below w.heap.size w W5 := HB4.out.trans (((Below.refl W4.heap.size W4).drew.trans hb5.out).mono HB4.out.size)
    obtain ⟨p0, p1⟩ := Tb.Fc.sets ⟨v3, v4, v5⟩ (.slice (some ⟨g2, 0, none⟩) 2 c2) (.int .i64 5)
    go_wp2
    refine bodyPost_ret (v := .tuple #[.int .i64 0, .agg #[.slice (some ⟨g2, 0, none⟩) 2 c2, .int .i64 5]]) (by simp only [results, Tryz.results11]; simp [go_sem, p0, p1]) rfl ⟨_, by rw [HS.out.1]; rfl, ?_, (hb45.setCell (p := ⟨w.heap.size, 0, none⟩) (Nat.le_refl _) _).setCell (p := ⟨w.heap.size, 1, none⟩) (Nat.le_refl _) _⟩
    rw [HS.out.2]
    exact .inr ⟨_, _, _, _, rfl, rfl, hlk.out.offB hg2 _ _⟩
set_option maxRecDepth 100000 in
set_option maxHeartbeats 4000000 in
theorem rsize_E (hS : SomeC 0) (w : World) (a : Option Addr) (n cap : Nat) (L : List Nd) (hV : NV w a n cap L) (hT : TagsOk L) : Calls Tryz.prog 11 #[.slice a n cap, .int .i64 2] w (SzR w 2 L) := by
  obtain ⟨W0, hW0⟩ : ∃ W0, w.alloc (.cells #[.slice none 0 0, .int .i64 0] 35) = W0 := ⟨_, rfl⟩
  have hb0 : Below w.heap.size w W0 := by rw [← hW0]; exact (Below.refl _ _).alloc (Nat.le_refl _) _
  have hf0 : Tb.Fc W0 w.heap.size := by rw [← hW0]; exact ⟨by simp, by simp, fun i => by simp⟩
  have hs0 : W0.heap.size = w.heap.size + 1 := by rw [← hW0]; simp
  have cx := synE_any W0
  have cf := rformed_any hS W0 a n cap L (hV.on hb0) hT
  have HV : Hid (NV w a n cap L ∧ TagsOk L) := ⟨hV, hT⟩
  have HN : Hid (n = L.length) := hV.len
  have HB0 : Hid (Below w.heap.size w W0) := hb0
  have HF0 : Hid _ := hf0
  have HS0 : Hid _ := hs0
  clear hV hT hb0 hf0 hs0 hS
  go_enter Tryz.func11, Tryz.ntmps11
  go_wp2_with (first | (go_at_call 33; refine Calls.mono cx ?_; rintro e Wx ⟨rfl, rfl⟩) | (go_at_call 21; refine StopB.out ?_))
  refine ⟨Calls.mono cf ?_⟩
  rintro e W2 ⟨vf, rfl, hpd, hb2⟩
  have HF2 : Hid (Tb.Fc W2 w.heap.size) := HF0.out.next hb2.out
  have HB2 : Hid (Below w.heap.size w W2) := HB0.out.trans (hb2.out.mono HB0.out.size)
  have HZ2 : Hid (w.heap.size + 1 ≤ W2.heap.size) := by have := hb2.out.size; have := HS0.out; show _ ≤ _; omega
  clear cf hW0 hb2 cx
  rcases hpd.out with ⟨hr, rfl⟩ | ⟨hr, g, c, rfl, g0, g1⟩
  · obtain ⟨h40, -⟩ := res_ok hr
    have hgd := res_good hr
    have hwf := res_wf hr
    have hn40 : n ≤ 4096 := by rw [HN.out]; exact h40
    have hsd : encE.sD false (sub L 0 L.length) = encE.szP L := by
      rw [sub_all]
      exact (Enc.same fitE _ false _ hwf).1
    have crs := fun X (hX : Below w.heap.size w X) => rs_any n X a n cap L true 0 n (by omega) ⟨HV.out.1.on hX, HV.out.2, hgd, hn40⟩ (Nat.zero_le _) (Nat.le_refl _) (by rw [HN.out]; exact Lev.top L)
    have crs2 : ∀ X, Below w.heap.size w X → Calls Tryz.prog 35 #[.slice a n cap, .int .i64 0, .int .i64 (n : Int), .bool true] X fun r W' => r = .returned (.int .i64 (encE.szP L : Int)) ∧ Below X.heap.size X W' := by
      intro X hX
      have h1 := crs X hX
      rw [show (encOf true).sD false (sub L 0 n) = encE.szP L by rw [HN.out]; exact hsd] at h1
      exact h1
    obtain ⟨k, hk⟩ : ∃ k, encE.szP L = k := ⟨_, rfl⟩
    simp only [hk] at crs2
    have CRS : Hid _ := crs2
    have HK : Hid (encE.szP L = k) := hk
    have HR : Hid ((res L).2 = true) := hr
    clear hpd crs crs2 hsd hwf hgd hr h40
    go_wp2_with (go_at_call 12; refine StopB.out ?_)
    refine ⟨Calls.mono (any_none _) ?_⟩
    rintro e W4 ⟨rfl, hb4'⟩
    have hb4 : Below W2.heap.size W2 W4 := ((Below.refl W2.heap.size W2).alloc (Nat.le_refl _) _).trans (hb4'.mono (by simp))
    clear hb4'
    go_wp2_with (go_at_call 35; refine StopB.out ?_)
    have hB4 : Below w.heap.size w W4 := HB2.out.trans (hb4.mono HB2.out.size)
    refine ⟨Calls.mono (CRS.out W4 hB4) ?_⟩
    rintro e W5 ⟨rfl, hb5⟩
    have HF5 : Hid (Tb.Fc W5 w.heap.size) := (HF2.out.next hb4).next hb5
    have HB5 : Hid (Below w.heap.size w W5) := hB4.trans (hb5.mono hB4.size)
    have HZ5 : Hid (w.heap.size + 1 ≤ W5.heap.size) := Nat.le_trans HZ2.out (Nat.le_trans hb4.size hb5.size)
    clear hb4 hb5 hB4 CRS
    by_cases hkl : 1048576 < k
    · have HS : Hid (siz 2 L = 0 ∧ errOf 2 L = some ([(dsB, 1048576)], 121)) := by
        have e := err_long (s := 2) (L := L) (by decide) HR.out (by rw [show encS 2 = encE from rfl, HK.out]; exact hkl)
        exact ⟨by unfold siz; rw [e]; rfl, e⟩
      have hkI : (1048576 : Int) < (k : Int) := by omega
      go_wp2_with (go_at_call 34; refine StopB.out ?_)
      refine ⟨Calls.mono (newB_any 121 1048576 W5) ?_⟩
      rintro e W6 ⟨rfl, hb6, hlk⟩
      have hf6 := HF5.out.next hb6.out
      obtain ⟨p0, p1⟩ := Tb.Fc.sets hf6 (.slice (some ⟨W5.heap.size + 1, 0, none⟩) 1 1) (.int .i64 121)
      obtain ⟨f0, f1, ff⟩ := hf6
      have hB6 : Below w.heap.size w W6 := HB5.out.trans (hb6.out.mono HB5.out.size)
      have HP : Hid _ := (⟨p0, p1⟩ : _ ∧ _)
      clear p0 p1
      go_wp2
      obtain ⟨p0, p1⟩ := HP.out
      refine bodyPost_ret (v := .tuple #[.int .i64 0, .agg #[.slice (some ⟨W5.heap.size + 1, 0, none⟩) 1 1, .int .i64 121]]) (by simp only [results, Tryz.results11]; simp [go_sem, p0, p1]) rfl ⟨_, by rw [HS.out.1]; rfl, ?_, (hB6.setCell (p := ⟨w.heap.size, 0, none⟩) (Nat.le_refl _) _).setCell (p := ⟨w.heap.size, 1, none⟩) (Nat.le_refl _) _⟩
      rw [HS.out.2]
      exact .inr ⟨_, _, _, _, rfl, rfl, hlk.out.offB (by have := HZ5.out; omega) _ _⟩
    · have HS : Hid (siz 2 L = k ∧ errOf 2 L = none) := by
        have e := err_none (s := 2) (L := L) (by decide) HR.out (by rw [show encS 2 = encE from rfl, HK.out]; exact hkl)
        exact ⟨by unfold siz; rw [e, show encS 2 = encE from rfl, HK.out]; rfl, e⟩
      have hkI : ¬ (1048576 : Int) < (k : Int) := by omega
      go_wp2_with (go_at_call 25; refine StopB.out ?_)
      refine ⟨Calls.mono (Tb.none_any W5) ?_⟩
      rintro e W6 ⟨rfl, hb6⟩
      have hf6 := HF5.out.next hb6
      obtain ⟨p0, p1⟩ := Tb.Fc.sets hf6 (.slice none 0 0) (.int .i64 0)
      obtain ⟨f0, f1, ff⟩ := hf6
      have hB6 : Below w.heap.size w W6 := HB5.out.trans (hb6.mono HB5.out.size)
      have HP : Hid _ := (⟨p0, p1⟩ : _ ∧ _)
      clear p0 p1
      go_wp2
      obtain ⟨p0, p1⟩ := HP.out
      refine bodyPost_ret (v := .tuple #[.int .i64 (k : Int), .agg #[.slice none 0 0, .int .i64 0]]) (by simp only [results, Tryz.results11]; simp [go_sem, p0, p1]) rfl ⟨_, by rw [HS.out.1], ?_, (hB6.setCell (p := ⟨w.heap.size, 0, none⟩) (Nat.le_refl _) _).setCell (p := ⟨w.heap.size, 1, none⟩) (Nat.le_refl _) _⟩
      exact .inl ⟨HS.out.2, rfl⟩
  · have HR : Hid ((res L).2 = false) := hr
    have HS : Hid (siz 2 L = 0 ∧ errOf 2 L = some ([(dsB, ((res L).1 : Int)), (dcB, ((res L).1 : Int))], 5)) := ⟨by unfold siz; rw [err_form (by decide) hr]; rfl, err_form (by decide) hr⟩
    clear hr
    obtain ⟨W3, hW3⟩ : ∃ W3, W2.alloc (.cells #[.slice (some ⟨g, 0, none⟩) 1 c, .int .i64 5] 35) = W3 := ⟨_, rfl⟩
    have hb3 : Below W2.heap.size W2 W3 := by rw [← hW3]; exact (Below.refl _ _).alloc (Nat.le_refl _) _
    have x0 : W3.cell? ⟨W2.heap.size, 0, none⟩ = some (.slice (some ⟨g, 0, none⟩) 1 c) := by rw [← hW3]; simp
    have x1 : W3.cell? ⟨W2.heap.size, 1, none⟩ = some (.int .i64 5) := by rw [← hW3]; simp
    have g0' := (hb3.cell (p := ⟨g, 0, none⟩) (Tb.cell_lt g0)).trans g0
    have g1' := (hb3.cell (p := ⟨g, 1, none⟩) (Tb.cell_lt g1)).trans g1
    have HF3 : Hid (Tb.Fc W3 w.heap.size) := HF2.out.next hb3
    have HB3 : Hid (Below w.heap.size w W3) := HB2.out.trans (hb3.mono HB2.out.size)
    clear hpd hb3 g0 g1
    go_wp2_with (go_at_call 12; refine StopF.out ?_)
    refine ⟨Calls.mono (any_some _ _ _) ?_⟩
    rintro e W4 ⟨rfl, hb4⟩
    have z0 := (hb4.cell (p := ⟨W2.heap.size, 0, none⟩) (Tb.cell_lt x0)).trans x0
    have z1 := (hb4.cell (p := ⟨W2.heap.size, 1, none⟩) (Tb.cell_lt x1)).trans x1
    have y0 := (hb4.cell (p := ⟨g, 0, none⟩) (Tb.cell_lt g0')).trans g0'
    have y1 := (hb4.cell (p := ⟨g, 1, none⟩) (Tb.cell_lt g1')).trans g1'
    have HF4 : Hid (Tb.Fc W4 w.heap.size) := HF3.out.next hb4
    have HB4 : Hid (Below w.heap.size w W4) := HB3.out.trans (hb4.mono HB3.out.size)
    obtain ⟨f0, f1, ff⟩ := HF4.out
    clear hb4 x0 x1 g0' g1' hW3 HF3 HB3 HB2 HF2
    have hn2 : w.heap.size ≠ W2.heap.size := by have := HZ2.out; omega
    have hng : w.heap.size ≠ g := by rintro rfl; rw [f0] at y0; cases y0
    go_wp2
    refine wp_region_noPanic ?_
    go_region_held3 (fun w' => w'.cell? ⟨W2.heap.size, 0, none⟩ = some (.slice (some ⟨g, 0, none⟩) 1 c) ∧ w'.cell? ⟨W2.heap.size, 1, none⟩ = some (.int .i64 5) ∧ w'.cell? ⟨g, 1, none⟩ = some (.int .i64 ((res L).1 : Int))) (first | (go_keep; done) | exact ⟨(Rp.cell_set_off hn2).trans ((Rp.cell_set_off hn2).trans (by assumption)), (Rp.cell_set_off hn2).trans ((Rp.cell_set_off hn2).trans (by assumption)), (Rp.cell_set_off hng).trans ((Rp.cell_set_off hng).trans (by assumption))⟩) (first | (go_at_call 22; refine Calls.mono (wrap_any _ _ _ _ _ _ y0 y1) ?_; rintro e W5 ⟨g2, c2, rfl, hlk, hb5⟩; have v0 : W5.cell? ⟨W2.heap.size, 0, none⟩ = some (.slice (some ⟨g, 0, none⟩) 1 c) := (hb5.out.cell (p := ⟨W2.heap.size, 0, none⟩) (Tb.cell_lt z0)).trans z0; have v1 : W5.cell? ⟨W2.heap.size, 1, none⟩ = some (.int .i64 5) := (hb5.out.cell (p := ⟨W2.heap.size, 1, none⟩) (Tb.cell_lt z1)).trans z1; have v2 : W5.cell? ⟨g, 1, none⟩ = some (.int .i64 ((res L).1 : Int)) := (hb5.out.cell (p := ⟨g, 1, none⟩) (Tb.cell_lt y1)).trans y1; have v3 : W5.cell? ⟨w.heap.size, 0, none⟩ = some (.slice none 0 0) := (hb5.out.cell (p := ⟨w.heap.size, 0, none⟩) (Tb.cell_lt f0)).trans f0; have v4 : W5.cell? ⟨w.heap.size, 1, none⟩ = some (.int .i64 0) := (hb5.out.cell (p := ⟨w.heap.size, 1, none⟩) (Tb.cell_lt f1)).trans f1; have v5 : ∀ i, W5.frozen? ⟨w.heap.size, i, none⟩ = false := fun i => (hb5.out.frozen (p := ⟨w.heap.size, i, none⟩) (show w.heap.size < _ from Tb.cell_lt f0)).trans (ff i)))
    refine NoPanic.normal ?_
    have hg2 : w.heap.size ≠ g2 := by
      rintro rfl
      have := (hlk.out 0 (Nat.zero_lt_succ _)).1
      rw [show 0 * 2 = 0 from rfl, v3] at this
      cases this
    have hb45 : Below w.heap.size w W5 := HB4.out.trans (((Below.refl W4.heap.size W4).drew.trans hb5.out).mono HB4.out.size)
    obtain ⟨p0, p1⟩ := Tb.Fc.sets ⟨v3, v4, v5⟩ (.slice (some ⟨g2, 0, none⟩) 2 c2) (.int .i64 5)
    go_wp2
    refine bodyPost_ret (v := .tuple #[.int .i64 0, .agg #[.slice (some ⟨g2, 0, none⟩) 2 c2, .int .i64 5]]) (by simp only [results, Tryz.results11]; simp [go_sem, p0, p1]) rfl ⟨_, by rw [HS.out.1]; rfl, ?_, (hb45.setCell (p := ⟨w.heap.size, 0, none⟩) (Nat.le_refl _) _).setCell (p := ⟨w.heap.size, 1, none⟩) (Nat.le_refl _) _⟩
    rw [HS.out.2]
    exact .inr ⟨_, _, _, _, rfl, rfl, hlk.out.offB hg2 _ _⟩
theorem rsize_any (hS : SomeC 0) (w : World) (a : Option Addr) (n cap : Nat) (L : List Nd) (hV : NV w a n cap L) (hT : TagsOk L) (s : Int) : Calls Tryz.prog 11 #[.slice a n cap, .int .i64 s] w (SzR w s L) := by
  by_cases h1 : s = 1
  · subst h1; exact rsize_I hS w a n cap L hV hT
  · by_cases h2 : s = 2
    · subst h2; exact rsize_E hS w a n cap L hV hT
    · exact rsize_no w a n cap L s ⟨h1, h2⟩
end Go.Proofs.YtfoodjhffehgpaaGreatDoor
