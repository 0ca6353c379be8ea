import Derived.Test.YtngmleddlfkecaaDoorZa
namespace Go.Proofs.YtngmleddlfkecaaDoor
open Go Go.Proofs Go.RowKit

theorem RErr.shape {w : World} {v : Value} {bad : Bool} (h : RErr w v bad) : ∃ fa fn fc c, v = .agg #[.slice fa fn fc, .int .i64 c] := by
  unfold RErr at h
  cases bad with
  | true => obtain ⟨g, c, rfl, _⟩ := h; exact ⟨_, _, _, _, rfl⟩
  | false => simp only [Bool.false_eq_true, if_false] at h; exact ⟨_, _, _, _, h⟩

theorem Sc.off {W : World} {p h i : Nat} {G n : Int} {vb vr : Value} (r : Sc W p G vb vr n) (hne : h ≠ p) (v : Value) : Sc (W.setCell ⟨h, i, none⟩ v) p G vb vr n :=
  ⟨(cell_set_off hne).trans r.c0, (cell_set_off hne).trans r.c1, (cell_set_off hne).trans r.c2, (cell_set_off hne).trans r.c3, fun i => by rw [World.frozen?_setCell]; exact r.cf i⟩

theorem turnL_length (d : List Nat) : (turnL d).length = d.length := by simp [turnL]

theorem Lent.turned {w : World} {B g y : Nat} {d : List Nat} (h : Lent w B g d) (hp : 0 < d.length) (hy : y = d.getD (d.length - 1) 0) (hx : y ^^^ 255 < 256) : Lent (w.setCell ⟨g, d.length - 1, none⟩ (.int .u8 ((y ^^^ 255 : Nat) : Int))) B g (turnL d) := by
  have e : (d ++ [160, 161, 162]).set (d.length - 1) (y ^^^ 255) = turnL d ++ [160, 161, 162] := by
    rw [List.set_append_left (h := by omega), turnL, hy]
  unfold Lent
  have h1 : Own w B (.slice (some ⟨g, 0, none⟩) (d ++ [160, 161, 162]).length (d.length + 3)) (d ++ [160, 161, 162]) := by
    simp only [List.length_append, List.length_cons, List.length_nil]
    exact h
  have := h1.store (k := d.length - 1) (x := y ^^^ 255) hx
  rw [e] at this
  rw [turnL_length]
  simpa [turnL_length] using this

theorem Lent.at {w : World} {B g : Nat} {d : List Nat} (h : Lent w B g d) : At w g 0 d :=
  ⟨fun k hk => by have := h.cell k (by omega); rw [Nat.zero_add, this]; simp [List.getD_eq_getElem?_getD, List.getElem?_append_left hk], fun x hx => h.2 x (by simp [hx])⟩

theorem scans_long (w : World) (ao : Option Addr) (l cap : Nat) (h : 400000 < l) :
    Calls Tryd.prog 4 #[.slice ao l cap] w fun e w' => e = .returned (.bool true) ∧ Below w.heap.size w w' := by
  go_enter Tryd.func4, Tryd.ntmps4
  go_wp2_with (first | (go_at_call 6; refine (sum_empty _ none 0).mono ?_; rintro e w' ⟨rfl, rfl⟩) | fail)
  go_ret
  exact ⟨rfl, Below.refl _ _⟩

set_option maxRecDepth 100000 in
set_option maxHeartbeats 2000000 in
theorem scans_short {w : World} {v : Value} {d : List Nat} (h : V w v d) (hT : Tab w) (hl : d.length ≤ 400000) :
    Calls Tryd.prog 4 #[v] w fun e w' => e = .returned (.bool true) ∧ Below w.heap.size w w' := by
  have c13 := lend_any h (by omega)
  obtain ⟨g, hg⟩ : ∃ g, w.heap.size = g := ⟨_, rfl⟩
  have HG : Hid (w.heap.size = g) := hg
  obtain ⟨ao, cap, hv, _, _⟩ := h.form
  obtain ⟨n, hn⟩ : ∃ n, d.length = n := ⟨_, rfl⟩
  have HN : Hid (d.length = n) := hn
  rw [hn] at hv hl c13
  rw [hg] at c13 ⊢
  have HV : Hid (V w (.slice ao n cap) d) := by rw [← hv]; exact h
  have HT : Hid (Tab w) := hT
  subst hv
  clear h hT hn hg
  have hdec : decide ((400000 : Int) < (n : Int)) = false := by simp; omega
  go_enter Tryd.func4, Tryd.ntmps4
  go_wp2_with (go_at_call 13; fail)
  refine c13.mono ?_
  rintro e W1 ⟨rfl, hL, hb1⟩
  have hL : Lent W1 g g d := by
    unfold Lent
    rw [HN.out]
    exact hL
  have hb1w : Below w.heap.size w W1 := by rw [HG.out]; exact hb1
  have hs1 : g < W1.heap.size := by
    have := hL.cell 0 (by omega)
    exact cell_lt this
  have c10 := scan_any (w := W1) (b := g) (off := 0) (l := n) (cap := n + 3) (d := d) ⟨fun k hk => by have := hL.cell k (by omega); rw [Nat.zero_add, this]; simp [List.getD_eq_getElem?_getD, List.getElem?_append_left hk], fun x hx => hL.2 x (by simp [hx])⟩ (HT.out.next hb1w) HN.out (by omega) hl
  have HL1 : Hid (Lent W1 g g d) := hL
  have HB1 : Hid (Below g w W1) := hb1
  have HV1 : Hid (V W1 (.slice ao n cap) d) := HV.out.next hb1w
  have HT1 : Hid (Tab W1) := HT.out.next hb1w
  clear hL hb1 hb1w c13
  go_wp2_with (go_at_call 10; fail)
  refine c10.mono ?_
  rintro e W2 ⟨G, bss, rss, m, bad, v1, v2, ve, HO, rfl, hV1, hV2, hE, hb2⟩
  obtain ⟨x1, y1, rfl, _⟩ := hV1.form
  obtain ⟨x2, y2, rfl, _⟩ := hV2.form
  clear c10
  go_wp2_with (go_at_call 14; fail)
  obtain ⟨p4, hp4⟩ : ∃ p, W2.heap.size = p := ⟨_, rfl⟩
  obtain ⟨W3, hW3⟩ : ∃ W3, W2.alloc (.cells #[.int .u64 (G : Int), (.slice x1 bss.length y1), (.slice x2 rss.length y2), .int .i64 (m : Int)] 34) = W3 := ⟨_, rfl⟩
  rw [hW3]
  rw [hp4]
  have hb3 : Below W2.heap.size W2 W3 := hW3 ▸ (Below.refl _ _).alloc (Nat.le_refl _) _
  have hb13 : Below W1.heap.size W1 W3 := hb2.trans (hb3.mono hb2.size)
  have HS3 : Hid (W3.heap.size = p4 + 1) := by show _ = _; rw [← hW3, ← hp4]; simp
  have HSC : Hid (Sc W3 p4 (G : Int) (.slice x1 bss.length y1) (.slice x2 rss.length y2) (m : Int)) := by
    rw [← hW3, ← hp4]
    exact ⟨by simp, by simp, by simp, by simp, fun i => by simp⟩
  have hgp : g < p4 := by rw [← hp4]; exact Nat.lt_of_lt_of_le hs1 hb2.size
  have HVb : Hid (VV W3 (g + 1) (.slice x1 bss.length y1) bss) := (hV1.base (by omega)).next hb3
  have HVr : Hid (VV W3 (g + 1) (.slice x2 rss.length y2) rss) := (hV2.base (by omega)).next hb3
  have HE3 : Hid (PErr W3 ve bad) := hE.next hb3
  have HL3 : Hid (Lent W3 g g d) := HL1.out.next hb13
  have HB3 : Hid (Below g w W3) := HB1.out.trans (hb13.mono (by omega))
  have HV3 : Hid (V W3 (.slice ao n cap) d) := HV1.out.next hb13
  have HT3 : Hid (Tab W3) := HT1.out.next hb13
  have HOut : Hid (OutP d G bss rss m bad) := HO
  have c14 := rscan_any HV3.out (by rw [HN.out]; exact hl)
  clear hW3 hp4 HO hV1 hV2 hE hb2 hb3 hb13 HL1 HB1 HV1 HT1
  refine c14.mono ?_
  rintro e W4 ⟨G', bss', rss', m', bad', v1', v2', vf, HO', rfl, hV1, hV2, hF, hb4⟩
  obtain ⟨rfl, rfl, rfl, rfl, rfl⟩ := HOut.out.unique HO'
  obtain ⟨x3, y3, rfl, _⟩ := hV1.form
  obtain ⟨x4, y4, rfl, _⟩ := hV2.form
  obtain ⟨fa, fn, fc, fcd, rfl⟩ := hF.shape
  clear c14 HO'
  go_wp2_with (go_at_call 15; fail)
  obtain ⟨p6, hp6⟩ : ∃ p, W4.heap.size = p := ⟨_, rfl⟩
  obtain ⟨W5, hW5⟩ : ∃ W5, (W4.alloc (.cells #[.int .u64 (G : Int), (.slice x3 bss.length y3), (.slice x4 rss.length y4), .int .i64 (m : Int)] 34)).alloc (.cells #[.slice fa fn fc, .int .i64 fcd] 41) = W5 := ⟨_, rfl⟩
  rw [hW5]
  rw [hp6]
  have hb5 : Below W4.heap.size W4 W5 := hW5 ▸ ((Below.refl _ _).alloc (Nat.le_refl _) _).alloc (by simp) _
  have hb35 : Below W3.heap.size W3 W5 := hb4.trans (hb5.mono hb4.size)
  have hs5 : W5.heap.size = p6 + 2 := by rw [← hW5, ← hp6]; simp
  have hp46 : p4 < p6 := by have := hb4.size; rw [HS3.out, hp6] at this; omega
  have HSC6 : Hid (Sc W5 p6 (G : Int) (.slice x3 bss.length y3) (.slice x4 rss.length y4) (m : Int)) := by
    rw [← hW5, ← hp6]
    exact ⟨by simp, by simp, by simp, by simp, fun i => by simp⟩
  have c15 := is_yes (HE3.out.next hb35) (hF.next hb5)
  have HSC5 : Hid (Sc W5 p4 (G : Int) (.slice x1 bss.length y1) (.slice x2 rss.length y2) (m : Int)) := HSC.out.next hb35 (by rw [HS3.out]; omega)
  have HVb5 : Hid (VV W5 (g + 1) (.slice x1 bss.length y1) bss) := HVb.out.next hb35
  have HVr5 : Hid (VV W5 (g + 1) (.slice x2 rss.length y2) rss) := HVr.out.next hb35
  have HVc5 : Hid (VV W5 (g + 1) (.slice x3 bss.length y3) bss) := (hV1.base (by rw [HS3.out]; omega)).next hb5
  have HVs5 : Hid (VV W5 (g + 1) (.slice x4 rss.length y4) rss) := (hV2.base (by rw [HS3.out]; omega)).next hb5
  have HL5 : Hid (Lent W5 g g d) := HL3.out.next hb35
  have HB5 : Hid (Below g w W5) := HB3.out.trans (hb35.mono (by rw [HS3.out]; omega))
  have HV5 : Hid (V W5 (.slice ao n cap) d) := HV3.out.next hb35
  have HT5 : Hid (Tab W5) := HT3.out.next hb35
  clear hW5 hp6 hV1 hV2 hF hb4 hb5 hb35 HSC HVb HVr HE3 HL3 HB3 HV3 HT3 HS3
  refine c15.mono ?_
  rintro e W6 ⟨rfl, hb6⟩
  have hs6 : p6 + 2 ≤ W6.heap.size := by have := hb6.size; omega
  have HSCa : Hid (Sc W6 p4 (G : Int) (.slice x1 bss.length y1) (.slice x2 rss.length y2) (m : Int)) := HSC5.out.next hb6 (by omega)
  have HSCb : Hid (Sc W6 p6 (G : Int) (.slice x3 bss.length y3) (.slice x4 rss.length y4) (m : Int)) := HSC6.out.next hb6 (by omega)
  have HV6 : Hid (V W6 (.slice ao n cap) d) := HV5.out.next hb6
  have HL6 : Hid (Lent W6 g g d) := HL5.out.next hb6
  have HT6 : Hid (Tab W6) := HT5.out.next hb6
  have HVa6 : Hid (VV W6 (g + 1) (.slice x1 bss.length y1) bss) := HVb5.out.next hb6
  have HVb6 : Hid (VV W6 (g + 1) (.slice x2 rss.length y2) rss) := HVr5.out.next hb6
  have HVc6 : Hid (VV W6 (g + 1) (.slice x3 bss.length y3) bss) := HVc5.out.next hb6
  have HVd6 : Hid (VV W6 (g + 1) (.slice x4 rss.length y4) rss) := HVs5.out.next hb6
  have HB6 : Hid (Below g w W6) := HB5.out.trans (hb6.mono (by omega))
  have hsml := HOut.out.small
  rw [HN.out] at hsml
  obtain ⟨hm1, hm2, hm3, hm4, hm5⟩ := hsml
  clear c15 hb6 HSC5 HSC6 HV5 HL5 HT5 HVb5 HVr5 HVc5 HVs5 HB5 hs5
  obtain ⟨t0, t1, t2, t3, tf⟩ := HSCa.out
  obtain ⟨u0, u1, u2, u3, uf⟩ := HSCb.out
  go_wp2_with (go_at_call 16; fail)
  refine (lists_same HVa6.out HVc6.out hm1 (by omega)).mono ?_
  rintro e w' ⟨rfl, j1, rfl⟩
  go_wp2_with (go_at_call 16; fail)
  refine (lists_same (w := W6.drewN j1) HVb6.out HVd6.out hm2 (by omega)).mono ?_
  rintro e w' ⟨rfl, j2, rfl⟩
  go_wp2_with (go_at_call 17; fail)
  have c17 := kept_any (w := W6.drewN (j1 + j2)) HL6.out HV6.out (by rw [HN.out]; omega)
  rw [HN.out] at c17
  refine c17.mono ?_
  rintro e w' ⟨rfl, j3, rfl⟩
  clear c17 t0 t1 t2 t3 tf u0 u1 u2 u3 uf
  have hb67 : Below W6.heap.size W6 ((W6.drewN (j1 + j2)).drewN j3) := below_drewN (below_drewN (Below.refl _ _) _) _
  generalize (W6.drewN (j1 + j2)).drewN j3 = W7 at hb67 ⊢
  have hs7 : p6 + 2 ≤ W7.heap.size := by have := hb67.size; omega
  have HSCa7 : Hid (Sc W7 p4 (G : Int) (.slice x1 bss.length y1) (.slice x2 rss.length y2) (m : Int)) := HSCa.out.next hb67 (by omega)
  have HSCb7 : Hid (Sc W7 p6 (G : Int) (.slice x3 bss.length y3) (.slice x4 rss.length y4) (m : Int)) := HSCb.out.next hb67 (by omega)
  have HV7 : Hid (V W7 (.slice ao n cap) d) := HV6.out.next hb67
  have HL7 : Hid (Lent W7 g g d) := HL6.out.next hb67
  have HT7 : Hid (Tab W7) := HT6.out.next hb67
  have HVa7 : Hid (VV W7 (g + 1) (.slice x1 bss.length y1) bss) := HVa6.out.next hb67
  have HVb7 : Hid (VV W7 (g + 1) (.slice x2 rss.length y2) rss) := HVb6.out.next hb67
  have HVc7 : Hid (VV W7 (g + 1) (.slice x3 bss.length y3) bss) := HVc6.out.next hb67
  have HVd7 : Hid (VV W7 (g + 1) (.slice x4 rss.length y4) rss) := HVd6.out.next hb67
  have HB7 : Hid (Below g w W7) := HB6.out.trans (hb67.mono (by omega))
  clear hb67 hs6 HSCa HSCb HV6 HL6 HT6 HVa6 HVb6 HVc6 HVd6 HB6
  by_cases hn0 : n = 0
  · subst hn0
    go_wp2
    go_ret
    exact ⟨rfl, HB7.out⟩
  · have hn1 : ((n : Int) == 0) = false := by simp; omega
    obtain ⟨y, HY, hcy⟩ : ∃ y, Hid (y = d.getD (n - 1) 0) ∧ W7.cell? ⟨g, n - 1, none⟩ = some (.int .u8 (y : Int)) := by
      refine ⟨_, rfl, ?_⟩
      rw [HL7.out.cell (n - 1) (by rw [HN.out]; omega)]
      simp [List.getD_eq_getElem?_getD, List.getElem?_append_left (show n - 1 < d.length by rw [HN.out]; omega)]
    have hfz : W7.frozen? ⟨g, n - 1, none⟩ = false := by
      have h1 := HL7.out.1
      simp only [List.length_append, List.length_cons, List.length_nil] at h1
      exact h1.frozenAt _
    have hyl : y < 256 := by
      rw [HY.out]
      exact getD_lt (fun x hx => HL7.out.2 x (by simp [hx])) _
    obtain ⟨hx1, hx2⟩ := xor255 y hyl
    have HX2 : Hid (y ^^^ 255 < 256) := hx2
    clear hx2 hyl
    go_wp2_with (go_at_call 18; fail)
    obtain ⟨W8, hW8⟩ : ∃ W8, W7.setCell ⟨g, n - 1, none⟩ (.int .u8 ((y ^^^ 255 : Nat) : Int)) = W8 := ⟨_, rfl⟩
    rw [hW8]
    have hs8 : p6 + 2 ≤ W8.heap.size := by rw [← hW8]; simpa using hs7
    have HSCa8 : Hid (Sc W8 p4 (G : Int) (.slice x1 bss.length y1) (.slice x2 rss.length y2) (m : Int)) := by rw [← hW8]; exact HSCa7.out.off (by omega) _
    have HSCb8 : Hid (Sc W8 p6 (G : Int) (.slice x3 bss.length y3) (.slice x4 rss.length y4) (m : Int)) := by rw [← hW8]; exact HSCb7.out.off (by omega) _
    have HVa8 : Hid (VV W8 (g + 1) (.slice x1 bss.length y1) bss) := by rw [← hW8]; exact HVa7.out.set (by omega) _
    have HVb8 : Hid (VV W8 (g + 1) (.slice x2 rss.length y2) rss) := by rw [← hW8]; exact HVb7.out.set (by omega) _
    have HVc8 : Hid (VV W8 (g + 1) (.slice x3 bss.length y3) bss) := by rw [← hW8]; exact HVc7.out.set (by omega) _
    have HVd8 : Hid (VV W8 (g + 1) (.slice x4 rss.length y4) rss) := by rw [← hW8]; exact HVd7.out.set (by omega) _
    have HL8 : Hid (Lent W8 g g (turnL d)) := by
      rw [← hW8]
      have := HL7.out.turned (y := y) (by rw [HN.out]; omega) (by rw [HN.out]; exact HY.out) HX2.out
      rw [HN.out] at this
      exact this
    have HB8 : Hid (Below g w W8) := by rw [← hW8]; exact HB7.out.setCell (p := ⟨g, n - 1, none⟩) (Nat.le_refl _) _
    have hbw8 : Below w.heap.size w W8 := by rw [HG.out]; exact HB8.out
    have c18 := turned_any (HV.out.next hbw8) (by rw [HN.out]; omega)
    clear hW8 hs7 HSCa7 HSCb7 HV7 HL7 HT7 HVa7 HVb7 HVc7 HVd7 HB7 hcy hfz hx1 hbw8
    refine c18.mono ?_
    rintro e W9 ⟨vy, rfl, hOy, hb9⟩
    clear c18
    obtain ⟨ay, py, hvy⟩ := hOy.shape
    rw [turnL_length, HN.out] at hvy
    subst hvy
    have hbw9 : Below w.heap.size w W9 := by rw [HG.out]; exact HB8.out.trans (hb9.mono (by omega))
    have c10 := scan_any (HL8.out.next hb9).at (HT.out.next hbw9) (l := n) (cap := n + 3) (by rw [turnL_length, HN.out]) (by omega) hl
    go_wp2_with (go_at_call 10; fail)
    refine c10.mono ?_
    rintro e W10 ⟨G2, bss2, rss2, m2, bad2, v1, v2, ve2, HO2, rfl, hV1, hV2, hE, hb10⟩
    obtain ⟨z1, q1, rfl, _⟩ := hV1.form
    obtain ⟨z2, q2, rfl, _⟩ := hV2.form
    clear c10
    go_wp2_with (go_at_call 14; fail)
    obtain ⟨p9, hp9⟩ : ∃ p, W10.heap.size = p := ⟨_, rfl⟩
    obtain ⟨W11, hW11⟩ : ∃ W11, W10.alloc (.cells #[.int .u64 (G2 : Int), .slice z1 bss2.length q1, .slice z2 rss2.length q2, .int .i64 (m2 : Int)] 34) = W11 := ⟨_, rfl⟩
    rw [hW11]
    rw [hp9]
    have hb11 : Below W10.heap.size W10 W11 := hW11 ▸ (Below.refl _ _).alloc (Nat.le_refl _) _
    have hb911 : Below W9.heap.size W9 W11 := hb10.trans (hb11.mono hb10.size)
    have hb811 : Below W8.heap.size W8 W11 := hb9.trans (hb911.mono hb9.size)
    have HS11 : Hid (W11.heap.size = p9 + 1) := by show _ = _; rw [← hW11, ← hp9]; simp
    have hp69 : p6 + 2 ≤ p9 := by have h1 := hb9.size; have h2 := hb10.size; omega
    have HSCe : Hid (Sc W11 p9 (G2 : Int) (.slice z1 bss2.length q1) (.slice z2 rss2.length q2) (m2 : Int)) := by
      rw [← hW11, ← hp9]
      exact ⟨by simp, by simp, by simp, by simp, fun i => by simp⟩
    have hg9 : g + 1 ≤ W9.heap.size := by have := hb9.size; omega
    have HVe : Hid (VV W11 (g + 1) (.slice z1 bss2.length q1) bss2) := (hV1.base (by omega)).next hb11
    have HVf : Hid (VV W11 (g + 1) (.slice z2 rss2.length q2) rss2) := (hV2.base (by omega)).next hb11
    have HE11 : Hid (PErr W11 ve2 bad2) := hE.next hb11
    have HL11 : Hid (Lent W11 g g (turnL d)) := HL8.out.next hb811
    have HB11 : Hid (Below g w W11) := HB8.out.trans (hb811.mono (by omega))
    have HSCa11 : Hid (Sc W11 p4 (G : Int) (.slice x1 bss.length y1) (.slice x2 rss.length y2) (m : Int)) := HSCa8.out.next hb811 (by omega)
    have HSCb11 : Hid (Sc W11 p6 (G : Int) (.slice x3 bss.length y3) (.slice x4 rss.length y4) (m : Int)) := HSCb8.out.next hb811 (by omega)
    have HVa11 : Hid (VV W11 (g + 1) (.slice x1 bss.length y1) bss) := HVa8.out.next hb811
    have HVb11 : Hid (VV W11 (g + 1) (.slice x2 rss.length y2) rss) := HVb8.out.next hb811
    have HVc11 : Hid (VV W11 (g + 1) (.slice x3 bss.length y3) bss) := HVc8.out.next hb811
    have HVd11 : Hid (VV W11 (g + 1) (.slice x4 rss.length y4) rss) := HVd8.out.next hb811
    have HOut2 : Hid (OutP (turnL d) G2 bss2 rss2 m2 bad2) := HO2
    have hVy : V W11 (.slice ay n py) (turnL d) := (hOy.next hb911).v
    have c14 := rscan_any hVy (by rw [turnL_length, HN.out]; exact hl)
    clear hW11 hp9 HO2 hV1 hV2 hE hb9 hb10 hb11 hb911 hb811 hbw9 HL8 HB8 HSCa8 HSCb8 HVa8 HVb8 HVc8 HVd8 hOy hVy
    refine c14.mono ?_
    rintro e W12 ⟨G', bss', rss', m', bad', v1', v2', vf, HO', rfl, hV1, hV2, hF, hb12⟩
    obtain ⟨rfl, rfl, rfl, rfl, rfl⟩ := HOut2.out.unique HO'
    obtain ⟨z3, q3, rfl, _⟩ := hV1.form
    obtain ⟨z4, q4, rfl, _⟩ := hV2.form
    obtain ⟨fa2, fn2, fc2, fcd2, rfl⟩ := hF.shape
    clear c14 HO'
    go_wp2_with (go_at_call 15; fail)
    obtain ⟨p10, hp10⟩ : ∃ p, W12.heap.size = p := ⟨_, rfl⟩
    obtain ⟨W13, hW13⟩ : ∃ W13, (W12.alloc (.cells #[.int .u64 (G2 : Int), .slice z3 bss2.length q3, .slice z4 rss2.length q4, .int .i64 (m2 : Int)] 34)).alloc (.cells #[.slice fa2 fn2 fc2, .int .i64 fcd2] 41) = W13 := ⟨_, rfl⟩
    rw [hW13]
    rw [hp10]
    have hb13 : Below W12.heap.size W12 W13 := hW13 ▸ ((Below.refl _ _).alloc (Nat.le_refl _) _).alloc (by simp) _
    have hb1113 : Below W11.heap.size W11 W13 := hb12.trans (hb13.mono hb12.size)
    have hs13 : W13.heap.size = p10 + 2 := by rw [← hW13, ← hp10]; simp
    have hp910 : p9 < p10 := by have := hb12.size; rw [HS11.out, hp10] at this; omega
    have hSCf : Sc W13 p10 (G2 : Int) (.slice z3 bss2.length q3) (.slice z4 rss2.length q4) (m2 : Int) := by
      rw [← hW13, ← hp10]
      exact ⟨by simp, by simp, by simp, by simp, fun i => by simp⟩
    have c15 := is_yes (HE11.out.next hb1113) (hF.next hb13)
    have hVg : VV W13 (g + 1) (.slice z3 bss2.length q3) bss2 := (hV1.base (by rw [HS11.out]; omega)).next hb13
    have hVh : VV W13 (g + 1) (.slice z4 rss2.length q4) rss2 := (hV2.base (by rw [HS11.out]; omega)).next hb13
    clear hW13 hp10 hV1 hV2 hF HE11
    refine c15.mono ?_
    rintro e W14 ⟨rfl, hb14⟩
    have hb1114 : Below W11.heap.size W11 W14 := hb1113.trans (hb14.mono hb1113.size)
    have hs14 : p10 + 2 ≤ W14.heap.size := by have := hb14.size; omega
    have HSCa : Hid (Sc W14 p4 (G : Int) (.slice x1 bss.length y1) (.slice x2 rss.length y2) (m : Int)) := HSCa11.out.next hb1114 (by rw [HS11.out]; omega)
    have HSCb : Hid (Sc W14 p6 (G : Int) (.slice x3 bss.length y3) (.slice x4 rss.length y4) (m : Int)) := HSCb11.out.next hb1114 (by rw [HS11.out]; omega)
    have HSCc : Hid (Sc W14 p9 (G2 : Int) (.slice z1 bss2.length q1) (.slice z2 rss2.length q2) (m2 : Int)) := HSCe.out.next hb1114 (by rw [HS11.out]; omega)
    have HSCd : Hid (Sc W14 p10 (G2 : Int) (.slice z3 bss2.length q3) (.slice z4 rss2.length q4) (m2 : Int)) := hSCf.next hb14 (by omega)
    have HVa : Hid (VV W14 (g + 1) (.slice x1 bss.length y1) bss) := HVa11.out.next hb1114
    have HVb : Hid (VV W14 (g + 1) (.slice x2 rss.length y2) rss) := HVb11.out.next hb1114
    have HVc : Hid (VV W14 (g + 1) (.slice x3 bss.length y3) bss) := HVc11.out.next hb1114
    have HVd : Hid (VV W14 (g + 1) (.slice x4 rss.length y4) rss) := HVd11.out.next hb1114
    have HVe2 : Hid (VV W14 (g + 1) (.slice z1 bss2.length q1) bss2) := HVe.out.next hb1114
    have HVf2 : Hid (VV W14 (g + 1) (.slice z2 rss2.length q2) rss2) := HVf.out.next hb1114
    have HVg2 : Hid (VV W14 (g + 1) (.slice z3 bss2.length q3) bss2) := hVg.next hb14
    have HVh2 : Hid (VV W14 (g + 1) (.slice z4 rss2.length q4) rss2) := hVh.next hb14
    have HL14 : Hid (Lent W14 g g (turnL d)) := HL11.out.next hb1114
    have HB14 : Hid (Below g w W14) := HB11.out.trans (hb1114.mono (by rw [HS11.out]; omega))
    have hsml2 := HOut2.out.small
    rw [turnL_length, HN.out] at hsml2
    obtain ⟨ht1, ht2, ht3, ht4, ht5⟩ := hsml2
    clear c15 hb14 hb1114 hb1113 hb12 hb13 hSCf hVg hVh HVe HVf HL11 HB11 HSCa11 HSCb11 HVa11 HVb11 HVc11 HVd11 HSCe HS11 hs13
    obtain ⟨t0, t1, t2, t3, tf⟩ := HSCc.out
    obtain ⟨u0, u1, u2, u3, uf⟩ := HSCd.out
    go_wp2_with (go_at_call 16; fail)
    refine (lists_same HVe2.out HVg2.out ht1 (by omega)).mono ?_
    rintro e w' ⟨rfl, j4, rfl⟩
    go_wp2_with (go_at_call 16; fail)
    refine (lists_same (w := W14.drewN j4) HVf2.out HVh2.out ht2 (by omega)).mono ?_
    rintro e w' ⟨rfl, j5, rfl⟩
    clear t0 t1 t2 t3 tf u0 u1 u2 u3 uf
    have hb15 : Below W14.heap.size W14 ((W14.drewN j4).drewN j5) := below_drewN (below_drewN (Below.refl _ _) _) _
    generalize (W14.drewN j4).drewN j5 = W15 at hb15 ⊢
    obtain ⟨P, hP⟩ : ∃ P : World → Prop, P = fun W => (Sc W p4 (G : Int) (.slice x1 bss.length y1) (.slice x2 rss.length y2) (m : Int) ∧ Sc W p6 (G : Int) (.slice x3 bss.length y3) (.slice x4 rss.length y4) (m : Int) ∧ Sc W p9 (G2 : Int) (.slice z1 bss2.length q1) (.slice z2 rss2.length q2) (m2 : Int) ∧ Sc W p10 (G2 : Int) (.slice z3 bss2.length q3) (.slice z4 rss2.length q4) (m2 : Int)) ∧ (VV W (g + 1) (.slice x1 bss.length y1) bss ∧ VV W (g + 1) (.slice x2 rss.length y2) rss ∧ VV W (g + 1) (.slice x3 bss.length y3) bss ∧ VV W (g + 1) (.slice x4 rss.length y4) rss ∧ VV W (g + 1) (.slice z1 bss2.length q1) bss2 ∧ VV W (g + 1) (.slice z2 rss2.length q2) rss2 ∧ VV W (g + 1) (.slice z3 bss2.length q3) bss2 ∧ VV W (g + 1) (.slice z4 rss2.length q4) rss2) ∧ Below g w W := ⟨_, rfl⟩
    have HPset : Hid (∀ W i v, P W → P (W.setCell ⟨g, i, none⟩ v)) := by
      intro W i v hW
      rw [hP] at hW ⊢
      obtain ⟨⟨s1, s2, s3, s4⟩, ⟨r1, r2, r3, r4, r5, r6, r7, r8⟩, hB⟩ := hW
      exact ⟨⟨s1.off (by omega) v, s2.off (by omega) v, s3.off (by omega) v, s4.off (by omega) v⟩, ⟨r1.set (by omega) v, r2.set (by omega) v, r3.set (by omega) v, r4.set (by omega) v, r5.set (by omega) v, r6.set (by omega) v, r7.set (by omega) v, r8.set (by omega) v⟩, hB.setCell (p := ⟨g, i, none⟩) (Nat.le_refl _) v⟩
    have HP15 : Hid (P W15) := by
      show P W15
      rw [hP]
      exact ⟨⟨HSCa.out.next hb15 (by omega), HSCb.out.next hb15 (by omega), HSCc.out.next hb15 (by omega), HSCd.out.next hb15 (by omega)⟩, ⟨HVa.out.next hb15, HVb.out.next hb15, HVc.out.next hb15, HVd.out.next hb15, HVe2.out.next hb15, HVf2.out.next hb15, HVg2.out.next hb15, HVh2.out.next hb15⟩, HB14.out.trans (hb15.mono (by omega))⟩
    have HPP : Hid (P = _) := hP
    have HL15 : Hid (Lent W15 g g (turnL d)) := HL14.out.next hb15
    clear hb15 hP HSCa HSCb HSCc HSCd HVa HVb HVc HVd HVe2 HVf2 HVg2 HVh2 HB14 HL14
    go_wp2
    go_loopw [12] (fun i wr => ∃ (k : Nat) (L : List Nat), k ≤ n ∧ i = .int .i64 k ∧ Hid (L.length = n + 3) ∧ Hid (Own wr g (.slice (some ⟨g, 0, none⟩) L.length (n + 3)) L) ∧ Hid (P wr)) (fun i _ => n - (intOf i).toNat)
    case atStart =>
      refine ⟨0, turnL d ++ [160, 161, 162], Nat.zero_le _, rfl, ?_, ?_, HP15⟩
      · show _ = _
        simp [turnL_length, HN.out]
      · have := HL15.out
        unfold Lent at this
        rw [turnL_length, HN.out] at this
        show Own _ _ _ _
        rw [List.length_append, turnL_length, HN.out]
        exact this
    case round =>
      clear HP15 HL15
      obtain ⟨k, L, hk, rfl, HLn, HOw, HPr⟩ := hrel
      by_cases hkn : k < n
      · have hcx : wr.cell? ⟨g, k, none⟩ = some (.int .u8 (L.getD k 0 : Nat)) := by
          rw [HOw.out.1.cellAt (g := g) (cap := n + 3) k (by rw [HLn.out]; omega), u8s_get L k (by rw [HLn.out]; omega)]
        have hfz : wr.frozen? ⟨g, k, none⟩ = false := HOw.out.1.frozenAt _
        go_wp2
        go_roundw
        case rel =>
          refine ⟨k + 1, L.set k 85, by omega, by go_num, by (show _ = _; rw [List.length_set]; exact HLn.out), ?_, HPset.out _ _ _ HPr.out⟩
          exact HOw.out.store (k := k) (x := 85) (by decide)
        case measure => simp [intOf]; omega
      · have hkn' : k = n := by omega
        subst hkn'
        have hPr := HPr.out
        rw [HPP.out] at hPr
        obtain ⟨⟨s1, s2, s3, s4⟩, ⟨r1, r2, r3, r4, r5, r6, r7, r8⟩, hB⟩ := hPr
        obtain ⟨a0, a1, a2, a3, af⟩ := s1
        obtain ⟨b0, b1, b2, b3, bf⟩ := s2
        obtain ⟨c0, c1, c2, c3, cf⟩ := s3
        obtain ⟨d0, d1, d2, d3, df⟩ := s4
        clear HPr HOw
        go_wp2_with (go_at_call 16; fail)
        refine (lists_same r1 r3 hm1 (by omega)).mono ?_
        rintro e w' ⟨rfl, i1, rfl⟩
        go_wp2_with (go_at_call 16; fail)
        refine (lists_same (w := wr.drewN i1) r2 r4 hm2 (by omega)).mono ?_
        rintro e w' ⟨rfl, i2, rfl⟩
        go_wp2_with (go_at_call 16; fail)
        refine (lists_same (w := wr.drewN (i1 + i2)) r5 r7 ht1 (by omega)).mono ?_
        rintro e w' ⟨rfl, i3, rfl⟩
        go_wp2_with (go_at_call 16; fail)
        refine (lists_same (w := wr.drewN (i1 + i2 + i3)) r6 r8 ht2 (by omega)).mono ?_
        rintro e w' ⟨rfl, i4, rfl⟩
        go_wp2
        go_ret
        exact ⟨rfl, by first | exact below_drewN hB _ | exact below_drewN (below_drewN hB _) _⟩
end Go.Proofs.YtngmleddlfkecaaDoor
