import Derived.Test.YtngmleddlfkecaaDoorFk
namespace Go.Proofs.YtngmleddlfkecaaDoor
open Go Go.Proofs Go.RowKit

theorem forms_long (w : World) (gen n : Int) (ao : Option Addr) (l cap : Nat) (v3 : Value) (h : 400000 < l) :
    Calls Tryd.prog 5 #[.int .u64 gen, .int .u32 n, .slice ao l cap, v3] w fun e w' => e = .returned (.bool true) ∧ Below w.heap.size w w' := by
  have hdec : decide ((400000 : Int) < (l : Int)) = true := by simp; omega
  go_enter Tryd.func5, Tryd.ntmps5
  go_wp2_with (first | (go_at_call 6; refine (sum_empty _ none 0).mono ?_; rintro e w' ⟨rfl, rfl⟩) | fail)
  go_ret
  exact ⟨rfl, Below.refl _ _⟩

theorem forms_many {w : World} {v3 : Value} {bss : List (List Nat)} (hVS : VS w v3 bss) (hr : ∀ b ∈ bss, b.length ≤ 140737488351232) (hlen : bss.length ≤ 140737488351232) (gen n : Int) (ao : Option Addr) (l cap : Nat) (h : l ≤ 400000) (hF : fewB bss = false) :
    Calls Tryd.prog 5 #[.int .u64 gen, .int .u32 n, .slice ao l cap, v3] w fun e w' => e = .returned (.bool true) ∧ Below w.heap.size w w' := by
  have hdec : decide ((400000 : Int) < (l : Int)) = false := by simp; omega
  have c19 := few_any hVS hr hlen
  rw [hF] at c19
  clear hVS hr hF
  go_enter Tryd.func5, Tryd.ntmps5
  go_wp2_with (first | (go_at_call 19; refine c19.mono ?_; rintro e w' ⟨rfl, rfl⟩) | (go_at_call 6; refine (sum_empty _ none 0).mono ?_; rintro e w' ⟨rfl, rfl⟩) | fail)
  go_ret
  exact ⟨rfl, Below.refl _ _⟩

theorem LS.base {w : World} {B B' : Nat} {v : Value} {l : List (List Nat)} {g : Nat → Nat} (h : LS w B v l g) (hb : B' ≤ B) : LS w B' v l g := by
  obtain ⟨cells, h1, h2, h3⟩ := h
  exact ⟨cells, owns_base h1 hb, fun i hi => ⟨(h2 i hi).1, Own.base (h2 i hi).2 hb⟩, h3⟩

theorem LS.at {w : World} {B : Nat} {v : Value} {l : List (List Nat)} {g : Nat → Nat} (h : LS w B v l g) {i : Nat} (hi : i < l.length) : B ≤ g i ∧ g i < w.heap.size := by
  obtain ⟨cells, h1, h2, h3⟩ := h
  exact (h2 i hi).2.lt

set_option maxRecDepth 100000 in
set_option maxHeartbeats 4000000 in
/-- JournalForms: yes. -/
theorem forms_few {w : World} {v2 v3 : Value} {body : List Nat} {bss : List (List Nat)} (hV : V w v2 body) (hVS : VS w v3 bss) (hT : Tab w) (hr : ∀ b ∈ bss, b.length ≤ 140737488351232) (hlen : bss.length ≤ 140737488351232) (hFb : fewB bss = true) (hbl : body.length ≤ 400000) (gen n : Nat) (hg : gen < 18446744073709551616) (hn : n < 4294967296) :
    Calls Tryd.prog 5 #[.int .u64 (gen : Int), .int .u32 (n : Int), v2, v3] w fun e w' => e = .returned (.bool true) ∧ Below w.heap.size w w' := by
  have c19 := few_any hVS hr hlen
  rw [hFb] at c19
  have hF : Few bss := Few.of hFb
  have c13 := lend_any hV (by omega)
  obtain ⟨g, hgg⟩ : ∃ g, w.heap.size = g := ⟨_, rfl⟩
  have HG : Hid (w.heap.size = g) := hgg
  obtain ⟨ab, cb, hvb, _, _⟩ := hV.form
  obtain ⟨a3, c3, hv3, _⟩ := hVS
  have hVS : VS w v3 bss := ⟨a3, c3, hv3, by assumption⟩
  obtain ⟨N, hN⟩ : ∃ N, bss.length = N := ⟨_, rfl⟩
  have HN : Hid (bss.length = N) := hN
  obtain ⟨M, hM⟩ : ∃ M, body.length = M := ⟨_, rfl⟩
  have HM : Hid (body.length = M) := hM
  rw [hM] at hvb hbl c13
  rw [hN] at hv3
  rw [hgg] at c13 ⊢
  have HV : Hid (V w (.slice ab M cb) body) := by rw [← hvb]; exact hV
  have HVS : Hid (VS w (.slice a3 N c3) bss) := by rw [← hv3]; exact hVS
  have HT : Hid (Tab w) := hT
  have HF : Hid (Few bss) := hF
  have hN7 : N ≤ 700 := by rw [← hN]; exact hF.1
  have hdec : decide ((400000 : Int) < (M : Int)) = false := by simp; omega
  subst hvb hv3
  have HFOl : Hid ((frameO n body).length ≤ 400017) := by
    show _ ≤ _
    unfold frameO
    split
    · rw [frameL_length, HM.out]; omega
    · simp
  have HFEc : Hid (∀ a c, frameE body = some (a, c) → (c != 0) = true) := frameE_code
  have HHEc : Hid (∀ a c, headE gen bss = some (a, c) → (c != 0) = true) := headE_code
  obtain ⟨Fo, hFo⟩ : ∃ Fo, frameO n body = Fo := ⟨_, rfl⟩
  have HFo : Hid (frameO n body = Fo) := hFo
  obtain ⟨Fe, hFe⟩ : ∃ Fe, frameE body = Fe := ⟨_, rfl⟩
  have HFe : Hid (frameE body = Fe) := hFe
  obtain ⟨Ho, hHo⟩ : ∃ Ho, headO gen bss = Ho := ⟨_, rfl⟩
  have HHo : Hid (headO gen bss = Ho) := hHo
  obtain ⟨He, hHe⟩ : ∃ He, headE gen bss = He := ⟨_, rfl⟩
  have HHe : Hid (headE gen bss = He) := hHe
  rw [hFo] at HFOl
  rw [hFe] at HFEc
  rw [hHe] at HHEc
  have HHOl : Hid (Ho.length ≤ 411924) := by
    show _ ≤ _
    rw [← hHo]
    unfold headO
    split
    · unfold headL
      simp only [List.length_append, hd0_length, dig_length, framesL_length]
      have := hF.2
      omega
    · simp
  clear hV hVS hT hF hN hM hgg hr hlen hFb hFo hFe hHo hHe
  go_enter Tryd.func5, Tryd.ntmps5
  go_wp2_with (first | (go_at_call 19; refine c19.mono ?_; rintro e w' ⟨rfl, rfl⟩) | (go_at_call 13; fail))
  refine c13.mono ?_
  rintro e W1 ⟨rfl, hL, hb1⟩
  have HX1 : Hid (Lent W1 g g body) := by
    show Lent _ _ _ _
    unfold Lent
    rw [HM.out]
    exact hL
  have HB1 : Hid (Below w.heap.size w W1) := by rw [HG.out]; exact hb1
  have hg1 : g < W1.heap.size := HX1.out.lt.2
  have c20 := lendAll_any (HVS.out.next HB1.out) HF.out
  clear c13 c19 hL hb1
  go_wp2_with (go_at_call 20; fail)
  refine c20.mono ?_
  rintro e W2 ⟨vl, gs, rfl, hLS, hb2⟩
  obtain ⟨al, cl, rfl, _⟩ := hLS.form
  rw [HN.out] at hLS ⊢
  have HX2 : Hid (Lent W2 g g body) := HX1.out.next hb2
  have HL2 : Hid (LS W2 g (.slice al N cl) bss gs) := hLS.base (by omega)
  have HGS : Hid (∀ i, i < bss.length → gs i < W2.heap.size ∧ gs i ≠ g) := fun i hi => by
    have := hLS.at hi
    exact ⟨this.2, by omega⟩
  have hg2 : g < W2.heap.size := Nat.lt_of_lt_of_le hg1 hb2.size
  have HB2 : Hid (Below w.heap.size w W2) := HB1.out.trans (hb2.mono (by rw [HG.out]; omega))
  have HT2 : Hid (Tab W2) := HT.out.next HB2.out
  have c6 : Calls Tryd.prog 6 #[.slice (some ⟨g, 0, none⟩) M (M + 3)] W2 fun e w' => e = .returned (.int .u32 (crc body : Nat)) ∧ W2 = w' := by
    have hv := HX2.out.v (cap := M + 3) (by rw [HM.out]; omega)
    rw [HM.out] at hv
    exact sum_any hv HT2.out (by rw [HM.out]; omega)
  have c9 := framep_any (w := W2) (b := g) (off := 0) (m := M) (c := M + 3) (lent_at HX2.out) HM.out HX2.out.lt.2 HT2.out n hn hbl (by omega)
  have hby : ∀ x ∈ body, x < 256 := fun x hx => HX2.out.2 x (by simp [hx])
  have hcr : crc body < 4294967296 := crc_lt _ hby
  obtain ⟨C, hC⟩ : ∃ C, crc body = C := ⟨_, rfl⟩
  have HC : Hid (crc body = C) := hC
  rw [hC] at c6 hcr
  rw [HFo.out, HFe.out] at c9
  obtain ⟨U, hU⟩ : ∃ U, W2.heap.size = U := ⟨_, rfl⟩
  have HU : Hid (W2.heap.size = U) := hU
  rw [hU] at HGS hg2
  clear c20 hb2 hLS HX1 HB1 hC hby hU
  go_wp2_with (first | (go_at_call 6; refine c6.mono ?_; rintro e w' ⟨rfl, rfl⟩) | (go_at_call 9; fail))
  refine c9.mono ?_
  rintro e W3 ⟨v1, ve1, rfl, hO1, hE1, hb3⟩
  obtain ⟨a1, p1, rfl⟩ := hO1.shape
  have HV3 : Hid (Below w.heap.size w W3) := HB2.out.trans (hb3.mono (by rw [HG.out, HU.out]; omega))
  have c21 := rFrame_any (HV.out.next HV3.out) n hn (by rw [HM.out]; exact hbl)
  rw [HFo.out, HFe.out] at c21
  have HO3 : Hid (Own W3 U (.slice a1 Fo.length p1) Fo) := by rw [← HU.out]; exact hO1
  have HE3 : Hid (PE W3 ve1 Fe) := hE1
  have HB3 : Hid (Below W2.heap.size W2 W3) := hb3
  clear c6 c9 hO1 hE1 hb3
  go_wp2_with (go_at_call 21; fail)
  refine c21.mono ?_
  rintro e W4 ⟨v4, vf1, rfl, hO2, hR1, hb4⟩
  obtain ⟨a2, p2, rfl⟩ := hO2.shape
  obtain ⟨fa, fn, fc, fcd, rfl⟩ := hR1.shape
  clear c21
  go_wp2_with (go_at_call 7; fail)
  obtain ⟨p21, hp21⟩ : ∃ p, W4.heap.size = p := ⟨_, rfl⟩
  obtain ⟨W5, hW5⟩ : ∃ W5, W4.alloc (.cells #[.slice fa fn fc, .int .i64 fcd] 41) = W5 := ⟨_, rfl⟩
  rw [hW5]
  rw [hp21]
  have hb5 : Below W4.heap.size W4 W5 := hW5 ▸ (Below.refl _ _).alloc (Nat.le_refl _) _
  have d0 : W5.cell? ⟨p21, 0, none⟩ = some (.slice fa fn fc) := by rw [← hW5, ← hp21]; simp
  have d1 : W5.cell? ⟨p21, 1, none⟩ = some (.int .i64 fcd) := by rw [← hW5, ← hp21]; simp
  have hb25 : Below W2.heap.size W2 W5 := (HB3.out.trans (hb4.mono HB3.out.size)).trans (hb5.mono (Nat.le_trans HB3.out.size hb4.size))
  have c7 := head_any (HL2.out.next hb25) (HT2.out.next hb25) gen hg HF.out
  rw [HHo.out, HHe.out] at c7
  have hU3 : U ≤ W3.heap.size := by have := HB3.out.size; rw [HU.out] at this; exact this
  have HO5 : Hid (Own W5 U (.slice a1 Fo.length p1) Fo) := (HO3.out.next hb4).next hb5
  have HE5 : Hid (PE W5 ve1 Fe) := (HE3.out.next hb4).next hb5
  have HQ5 : Hid (Own W5 U (.slice a2 Fo.length p2) Fo) := (hO2.next hb5).base (by omega)
  have HR5 : Hid (RE W5 (.agg #[.slice fa fn fc, .int .i64 fcd]) Fe) := hR1.next hb5
  have HD0 : Hid (W5.cell? ⟨p21, 0, none⟩ = some (.slice fa fn fc)) := d0
  have HD1 : Hid (W5.cell? ⟨p21, 1, none⟩ = some (.int .i64 fcd)) := d1
  have HB25 : Hid (Below W2.heap.size W2 W5) := hb25
  have hU5 : U ≤ W5.heap.size := by have := hb25.size; rw [HU.out] at this; exact this
  clear hW5 hp21 hb5 d0 d1 hb25 hb4 hO2 hR1 HO3 HE3 HB3 HV3
  refine c7.mono ?_
  rintro e W6 ⟨v5, ve2, rfl, hO3, hE2, hb6⟩
  obtain ⟨a4, p4, rfl⟩ := hO3.shape
  have HV6 : Hid (Below w.heap.size w W6) := (HB2.out.trans (HB25.out.mono (by rw [HG.out, HU.out]; omega))).trans (hb6.mono (by rw [HG.out]; omega))
  have c22 := rhead_any (HVS.out.next HV6.out) gen hg HF.out
  rw [HHo.out, HHe.out] at c22
  have HO6 : Hid (Own W6 U (.slice a4 Ho.length p4) Ho) := hO3.base hU5
  have HE6 : Hid (PE W6 ve2 He) := hE2
  have HB6 : Hid (Below W5.heap.size W5 W6) := hb6
  have hU6 : U ≤ W6.heap.size := Nat.le_trans hU5 hb6.size
  clear c7 hO3 hE2 hb6
  go_wp2_with (go_at_call 22; fail)
  refine c22.mono ?_
  rintro e W7 ⟨v6, vf2, rfl, hO4, hR2, hb7⟩
  obtain ⟨a6, p6, rfl⟩ := hO4.shape
  obtain ⟨ga, gn, gc, gcd, rfl⟩ := hR2.shape
  obtain ⟨p25, hp25⟩ : ∃ p, W7.heap.size = p := ⟨_, rfl⟩
  obtain ⟨W8, hW8⟩ : ∃ W8, W7.alloc (.cells #[.slice ga gn gc, .int .i64 gcd] 41) = W8 := ⟨_, rfl⟩
  have hb8 : Below W7.heap.size W7 W8 := hW8 ▸ (Below.refl _ _).alloc (Nat.le_refl _) _
  have e0 : W8.cell? ⟨p25, 0, none⟩ = some (.slice ga gn gc) := by rw [← hW8, ← hp25]; simp
  have e1 : W8.cell? ⟨p25, 1, none⟩ = some (.int .i64 gcd) := by rw [← hW8, ← hp25]; simp
  have hb58 : Below W5.heap.size W5 W8 := (HB6.out.trans (hb7.mono HB6.out.size)).trans (hb8.mono (Nat.le_trans HB6.out.size hb7.size))
  have hb68 : Below W6.heap.size W6 W8 := hb7.trans (hb8.mono hb7.size)
  have d0 : W8.cell? ⟨p21, 0, none⟩ = some (.slice fa fn fc) := (hb58.cell (cell_lt HD0.out)).trans HD0.out
  have d1 : W8.cell? ⟨p21, 1, none⟩ = some (.int .i64 fcd) := (hb58.cell (cell_lt HD1.out)).trans HD1.out
  have hb28 : Below W2.heap.size W2 W8 := HB25.out.trans (hb58.mono HB25.out.size)
  have hbw8 : Below w.heap.size w W8 := HB2.out.trans (hb28.mono (by rw [HG.out, HU.out]; omega))
  have c23 : Calls Tryd.prog 23 #[.slice ab M cb] W8 fun e w' => e = .returned (.int .u32 (C : Nat)) ∧ W8 = w' := by rw [← HC.out]; exact rsum_any (HV.out.next hbw8) (by rw [HM.out]; omega)
  have c15 := is_eq (HE5.out.next hb58) (HR5.out.next hb58) HFEc.out
  have HO8 : Hid (Own W8 U (.slice a1 Fo.length p1) Fo) := HO5.out.next hb58
  have HQ8 : Hid (Own W8 U (.slice a2 Fo.length p2) Fo) := HQ5.out.next hb58
  have HH8 : Hid (Own W8 U (.slice a4 Ho.length p4) Ho) := HO6.out.next hb68
  have HG8 : Hid (Own W8 U (.slice a6 Ho.length p6) Ho) := (hO4.next hb8).base (by omega)
  have HE8 : Hid (PE W8 ve2 He) := HE6.out.next hb68
  have HR8 : Hid (RE W8 (.agg #[.slice ga gn gc, .int .i64 gcd]) He) := hR2.next hb8
  have HX8 : Hid (Lent W8 g g body) := HX2.out.next hb28
  have HL8 : Hid (LS W8 g (.slice al N cl) bss gs) := HL2.out.next hb28
  have HBw8 : Hid (Below w.heap.size w W8) := hbw8
  have hU8 : U ≤ W8.heap.size := by have := hb28.size; rw [HU.out] at this; exact this
  clear c22 hO4 hR2 hb7 hb8 hb58 hb68 hb28 HO5 HE5 HQ5 HR5 HD0 HD1 HB25 HO6 HE6 HB6 HX2 HL2 HB2 HT2 HV6 hbw8
  go_wp2_with (first | (go_at_call 23; refine c23.mono ?_; rintro e w' ⟨rfl, rfl⟩) | (go_at_call 15; fail))
  refine c15.mono ?_
  rintro e W9 ⟨rfl, hb9⟩
  have e0' : W9.cell? ⟨p25, 0, none⟩ = some (.slice ga gn gc) := (hb9.cell (cell_lt e0)).trans e0
  have e1' : W9.cell? ⟨p25, 1, none⟩ = some (.int .i64 gcd) := (hb9.cell (cell_lt e1)).trans e1
  have c15b := is_eq (HE8.out.next hb9) (HR8.out.next hb9) HHEc.out
  clear c15 c23 d0 d1 e0 e1 hW8 hp25
  go_wp2_with (go_at_call 15; fail)
  refine c15b.mono ?_
  rintro e W10 ⟨rfl, hb10⟩
  have hbX : Below W8.heap.size W8 W10 := hb9.trans (hb10.mono hb9.size)
  have HO9 : Hid (Own W10 U (.slice a1 Fo.length p1) Fo) := HO8.out.next hbX
  have HQ9 : Hid (Own W10 U (.slice a2 Fo.length p2) Fo) := HQ8.out.next hbX
  have HH9 : Hid (Own W10 U (.slice a4 Ho.length p4) Ho) := HH8.out.next hbX
  have HG9 : Hid (Own W10 U (.slice a6 Ho.length p6) Ho) := HG8.out.next hbX
  have HX9 : Hid (Lent W10 g g body) := HX8.out.next hbX
  have HL9 : Hid (LS W10 g (.slice al N cl) bss gs) := HL8.out.next hbX
  have HBw9 : Hid (Below w.heap.size w W10) := HBw8.out.trans (hbX.mono (by rw [HG.out]; omega))
  have hU9 : U ≤ W10.heap.size := Nat.le_trans hU8 hbX.size
  have c11 := bytes_any HO9.out.v HQ9.out.v (by have := HFOl.out; omega)
  have c12 := fun j => bytes_any (w := W10.drewN j) HH9.out.v HG9.out.v (by have := HHOl.out; omega)
  rw [show decide (Fo = Fo) = true by simp] at c11
  rw [show decide (Ho = Ho) = true by simp] at c12
  have c17 := fun j => kept_any (w := W10.drewN j) (B := g) (g := g) (bs := body) HX9.out (HV.out.next (below_drewN HBw9.out _)) (by rw [HM.out]; omega)
  rw [HM.out] at c17
  have c24 := fun j => keptAll_any (w := W10.drewN j) (B := g) (g := gs) (l := bss) HL9.out (HVS.out.next (below_drewN HBw9.out _)) HF.out
  clear c15b e0' e1' HO8 HQ8 HH8 HG8 HX8 HL8 HBw8 hb9 hb10 hbX hU8
  go_wp2_with (go_at_call 11; fail)
  refine c11.mono ?_
  rintro e w' ⟨rfl, j1, rfl⟩
  go_wp2_with (go_at_call 11; fail)
  refine (c12 j1).mono ?_
  rintro e w' ⟨rfl, j2, rfl⟩
  go_wp2_with (go_at_call 17; fail)
  refine (c17 (j1 + j2)).mono ?_
  rintro e w' ⟨rfl, j3, rfl⟩
  go_wp2_with (go_at_call 24; fail)
  refine (c24 (j1 + j2 + j3)).mono ?_
  rintro e w' ⟨rfl, j4, rfl⟩
  go_wp2_with (go_at_call 25; fail)
  have hbf : Below w.heap.size w (W10.drewN (j1 + j2 + j3 + j4)) := below_drewN HBw9.out _
  have hOf : Own (W10.drewN (j1 + j2 + j3 + j4)) U (.slice a1 Fo.length p1) Fo := HO9.out
  have hQf : Own (W10.drewN (j1 + j2 + j3 + j4)) U (.slice a2 Fo.length p2) Fo := HQ9.out
  have hHf : Own (W10.drewN (j1 + j2 + j3 + j4)) U (.slice a4 Ho.length p4) Ho := HH9.out
  have hGf : Own (W10.drewN (j1 + j2 + j3 + j4)) U (.slice a6 Ho.length p6) Ho := HG9.out
  have hXf : Lent (W10.drewN (j1 + j2 + j3 + j4)) g g body := HX9.out
  have hLf : LS (W10.drewN (j1 + j2 + j3 + j4)) g (.slice al N cl) bss gs := HL9.out
  have hUf : U ≤ (W10.drewN (j1 + j2 + j3 + j4)).heap.size := hU9
  clear c11 c12 c17 c24 HO9 HQ9 HH9 HG9 HX9 HL9 HBw9 hU9
  generalize W10.drewN (j1 + j2 + j3 + j4) = Wf at hbf hOf hQf hHf hGf hXf hLf hUf ⊢
  have c25 := again_any (w0 := w) (w := Wf) (B1 := U) (gx := g) (gen := gen) (n := n) (body := body) (bss := bss) (gs := gs) (vb := .slice ab M cb) (vl := .slice al N cl) (v3 := .slice a3 N c3) (by rw [HG.out]; exact hXf) hg2 (by rw [HG.out]; exact hLf) HGS.out hUf HV.out HVS.out HT.out hbf HF.out (by rw [HM.out]; exact hbl) hn hg
  rw [HM.out] at c25
  refine c25.mono ?_
  rintro e Wg ⟨rfl, hbg, hkeep⟩
  have k1 := bytes_any (hkeep _ _ hOf).v (hkeep _ _ hQf).v (by have := HFOl.out; omega)
  have k2 := fun j => bytes_any (w := Wg.drewN j) (hkeep _ _ hHf).v (hkeep _ _ hGf).v (by have := HHOl.out; omega)
  rw [show decide (Fo = Fo) = true by simp] at k1
  rw [show decide (Ho = Ho) = true by simp] at k2
  have HBg : Hid (Below w.heap.size w Wg) := hbg
  clear c25 hkeep hOf hQf hHf hGf hXf hLf hUf hbf hbg
  go_wp2_with (go_at_call 11; fail)
  refine k1.mono ?_
  rintro e w' ⟨rfl, i1, rfl⟩
  go_wp2_with (go_at_call 11; fail)
  refine (k2 i1).mono ?_
  rintro e w' ⟨rfl, i2, rfl⟩
  go_wp2
  go_ret
  rw [← HG.out]
  exact ⟨rfl, by first | exact below_drewN HBg.out _ | exact below_drewN (below_drewN HBg.out _) _⟩

/-- JournalForms: yes, at any bytes. -/
theorem forms_any {w : World} {v2 v3 : Value} {body : List Nat} {bss : List (List Nat)} (hV : V w v2 body) (hVS : VS w v3 bss) (hT : Tab w) (hr : ∀ b ∈ bss, b.length ≤ 140737488351232) (hlen : bss.length ≤ 140737488351232) (gen n : Nat) (hg : gen < 18446744073709551616) (hn : n < 4294967296) :
    Calls Tryd.prog 5 #[.int .u64 (gen : Int), .int .u32 (n : Int), v2, v3] w fun e w' => e = .returned (.bool true) ∧ Below w.heap.size w w' := by
  by_cases hb : body.length ≤ 400000
  · cases hF : fewB bss with
    | true => exact forms_few hV hVS hT hr hlen hF hb gen n hg hn
    | false =>
      obtain ⟨ab, cb, rfl, _, _⟩ := hV.form
      exact forms_many hVS hr hlen _ _ _ _ _ hb hF
  · obtain ⟨ab, cb, rfl, _, _⟩ := hV.form
    exact forms_long w _ _ _ _ _ _ (by omega)
end Go.Proofs.YtngmleddlfkecaaDoor
