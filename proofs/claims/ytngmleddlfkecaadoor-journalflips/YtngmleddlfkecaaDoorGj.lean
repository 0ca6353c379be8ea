import Derived.Test.YtngmleddlfkecaaDoorGi
namespace Go.Proofs.YtngmleddlfkecaaDoor
open Go Go.Proofs Go.RowKit

theorem head7 {W : World} {v : Value} {B : Nat} {base : List Nat} (h : Own W B v base) (hB : B ≤ W.heap.size) (hT : Tab W) (hb : base.length ≤ 2000) :
    Calls Tryd.prog 7 #[.int .u64 7, .slice (some ⟨W.heap.size, 0, none⟩) 1 1] (W.alloc (.cells #[v] 22)) fun e w' => ∃ g cap, e = .returned (.tuple #[.slice (some ⟨g, 0, none⟩) (41 + base.length) cap, .nilIface]) ∧ Own w' W.heap.size (.slice (some ⟨g, 0, none⟩) (41 + base.length) cap) (headL 7 [base]) ∧ Below W.heap.size W w' := by
  have hb1 : Below W.heap.size W (W.alloc (.cells #[v] 22)) := (Below.refl _ _).alloc (Nat.le_refl _) _
  have hF := Few.one hb
  refine (head_own (VV.one h hB) (hT.next hb1) 7 (by decide) (by decide) hF.1 hF.2).mono ?_
  rintro e w' ⟨v', rfl, hO, hb2⟩
  obtain ⟨g, cap, rfl, _, _, _, _⟩ := hO.at0 (made_length base []).1 (by omega)
  exact ⟨g, cap, rfl, hO.base hb1.size, hb1.trans (hb2.mono hb1.size)⟩

theorem frame0 {W : World} {v : Value} {B : Nat} {body : List Nat} (h : Own W B v body) (hT : Tab W) (hb : body.length ≤ 2000) :
    Calls Tryd.prog 9 #[.int .u32 0, v] W fun e w' => ∃ g cap, e = .returned (.tuple #[.slice (some ⟨g, 0, none⟩) (17 + body.length) cap, .nilIface]) ∧ Own w' W.heap.size (.slice (some ⟨g, 0, none⟩) (17 + body.length) cap) (frameL 0 body) ∧ Below W.heap.size W w' := by
  refine (frame_own h hT 0 (by decide) (by omega)).mono ?_
  rintro e w' ⟨v', rfl, hO, hb2⟩
  obtain ⟨g, cap, rfl, _, _, _, _⟩ := hO.at0 (frameL_length 0 body) (by omega)
  exact ⟨g, cap, rfl, hO, hb2⟩

theorem copy0 {W : World} {v : Value} {d : List Nat} {n : Nat} (h : V W v d) (hn : d.length = n) (hp : 0 < n) (hs : n ≤ 400000) :
    Calls Tryd.prog 8 #[v] W fun e w' => ∃ g cap, e = .returned (.slice (some ⟨g, 0, none⟩) n cap) ∧ Own w' W.heap.size (.slice (some ⟨g, 0, none⟩) n cap) d ∧ At w' g 0 d ∧ n ≤ cap ∧ Below W.heap.size W w' := by
  refine (copy_any h (by omega)).mono ?_
  rintro e w' ⟨v', rfl, hO, hb2⟩
  obtain ⟨g, cap, rfl, hA, hc, _, _⟩ := hO.at0 hn hp
  exact ⟨g, cap, rfl, hO, hA, hc, hb2⟩

set_option maxRecDepth 100000 in
set_option maxHeartbeats 4000000 in
theorem flips_core {w : World} {a0 a1 : Option Addr} {c0 c1 nb nB : Nat} {base body H F A P R : List Nat} {first : Int} {mask f fr sz : Nat} {head : Bool}
    (HV0 : Hid (V w (.slice a0 nb c0) base)) (HV1 : Hid (V w (.slice a1 nB c1) body)) (HT : Hid (Tab w)) (HNb : Hid (base.length = nb)) (HNB : Hid (body.length = nB)) (hb : nb ≤ 2000) (hB : nB ≤ 2000)
    (HH : Hid (H.length = 41 + nb)) (HF : Hid (F.length = 17 + nB))
    (HC7 : Hid (∀ W v B, Own W B v base → B ≤ W.heap.size → Tab W → Calls Tryd.prog 7 #[.int .u64 7, .slice (some ⟨W.heap.size, 0, none⟩) 1 1] (W.alloc (.cells #[v] 22)) fun e w' => ∃ g cap, e = .returned (.tuple #[.slice (some ⟨g, 0, none⟩) (41 + nb) cap, .nilIface]) ∧ Own w' W.heap.size (.slice (some ⟨g, 0, none⟩) (41 + nb) cap) H ∧ Below W.heap.size W w'))
    (HC9 : Hid (∀ W v B, Own W B v body → Tab W → Calls Tryd.prog 9 #[.int .u32 0, v] W fun e w' => ∃ g cap, e = .returned (.tuple #[.slice (some ⟨g, 0, none⟩) (17 + nB) cap, .nilIface]) ∧ Own w' W.heap.size (.slice (some ⟨g, 0, none⟩) (17 + nB) cap) F ∧ Below W.heap.size W w'))
    (HO : Hid (OutP (H ++ F) 7 [base] [body] (58 + nb + nB) false ∧ 24 + sizeP (H ++ F) < 58 + nb + nB))
    (HL : Hid (H ++ F = A ++ (P ++ R))) (HA : Hid (A.length = fr)) (HP : Hid (P.length = sz)) (hfs : (head = true ∧ fr = 0 ∧ sz = 24) ∨ (head = false ∧ fr = 54 + nb ∧ sz = nB + 4)) (hf : f < 8 * sz)
    (hfirst : first = (f : Int) ∨ ((first < 0 ∨ 8 * (sz : Int) ≤ first) ∧ f = 0)) (_hm : mask < 4294967296)
    (HG : Hid (head = false → ∀ L E Q, Turned A P R f 32 L E Q → Q ≠ 0 → OutP L 7 [base] [] (41 + nb) false ∧ 24 + sizeP L < 58 + nb + nB))
    (HBd : Hid (head = true → ∀ L E Q, Turned A P R f 32 L E Q → Q ≠ 0 → headP L = false)) :
    Calls Tryd.prog 3 #[.slice a0 nb c0, .slice a1 nB c1, .int .i64 first, .int .u32 (mask : Int), .bool head] w fun e w' => e = .returned (.bool true) ∧ Below w.heap.size w w' := by
  have c8a := copy_any HV0.out (by rw [HNb.out]; omega)
  have hd0 : decide ((2000 : Int) < (nb : Int)) = false := by simp; omega
  have hd1 : decide ((2000 : Int) < (nB : Int)) = false := by simp; omega
  obtain ⟨i0, hi, hz0, hz1, hz2⟩ := info_parts Tryd.info5
  have HFS : Hid _ := hfs
  have HFI : Hid _ := hfirst
  clear hfs hfirst
  go_enter Tryd.func3, Tryd.ntmps3
  go_wp2_with (go_at_call 8; fail)
  refine c8a.mono ?_
  rintro e W1 ⟨u1, rfl, hO1, hb1⟩
  have c7 := HC7.out W1 u1 _ hO1 hb1.size (HT.out.next hb1)
  obtain ⟨x1, p1, rfl⟩ := hO1.shape
  have HB1 : Hid (Below w.heap.size w W1) := hb1
  clear c8a hO1 hb1
  go_wp2_with (go_at_call 7; fail)
  refine c7.mono ?_
  rintro e W2 ⟨gH, pH, rfl, hO2, hb2⟩
  have HB2 : Hid (Below w.heap.size w W2) := HB1.out.trans (hb2.mono HB1.out.size)
  have HOH : Hid (Own W2 w.heap.size (.slice (some ⟨gH, 0, none⟩) (41 + nb) pH) H) := hO2.base HB1.out.size
  have c8b := copy_any (HV1.out.next HB2.out) (by rw [HNB.out]; omega)
  clear c7 hO2 hb2
  go_wp2_with (go_at_call 8; fail)
  refine c8b.mono ?_
  rintro e W3 ⟨u3, rfl, hO3, hb3⟩
  have HB3 : Hid (Below w.heap.size w W3) := HB2.out.trans (hb3.mono HB2.out.size)
  have HOH3 : Hid (Own W3 w.heap.size (.slice (some ⟨gH, 0, none⟩) (41 + nb) pH) H) := HOH.out.next hb3
  have c9 := HC9.out W3 u3 _ hO3 (HT.out.next HB3.out)
  obtain ⟨x3, p3, rfl⟩ := hO3.shape
  clear c8b hO3 hb3
  go_wp2_with (go_at_call 9; fail)
  refine c9.mono ?_
  rintro e W4 ⟨gF, pF, rfl, hO4, hb4⟩
  have HB4 : Hid (Below w.heap.size w W4) := HB3.out.trans (hb4.mono HB3.out.size)
  have HOH4 : Hid (Own W4 w.heap.size (.slice (some ⟨gH, 0, none⟩) (41 + nb) pH) H) := HOH3.out.next hb4
  have HOF4 : Hid (Own W4 w.heap.size (.slice (some ⟨gF, 0, none⟩) (17 + nB) pF) F) := hO4.base HB3.out.size
  have c8c := copy0 HOH4.out.v HH.out (by omega) (by omega)
  clear c9 hO4 hb4
  have hl1 : ((17 + (nB : Int)) != 17 + (nB : Int)) = false := by simp
  have hl2 : ((41 + (nb : Int)) != 41 + (nb : Int)) = false := by simp
  go_wp2_with (go_at_call 8; fail)
  refine c8c.mono ?_
  rintro e W5 ⟨gC, pC, rfl, hO5, _, _, hb5⟩
  have HB5 : Hid (Below w.heap.size w W5) := HB4.out.trans (hb5.mono HB4.out.size)
  have HS5 : Hid (w.heap.size ≤ W5.heap.size) := HB5.out.size
  have hown5 : W5.ownsRow w.heap.size 5 1 (.slice (some ⟨gC, 0, none⟩) (41 + nb) pC) (41 + nb) (u8s H) := by
    have := (hO5.base HB4.out.size).1
    rw [HH.out] at this
    exact this
  have HBH : Hid (∀ x ∈ H, x < 256) := hO5.2
  obtain ⟨_, _, he5, HAF, _, _, _⟩ := (HOF4.out.next hb5).at0 HF.out (by omega)
  simp only [Value.slice.injEq, Option.some.injEq, Addr.mk.injEq, and_true, true_and] at he5
  obtain ⟨rfl, rfl⟩ := he5
  have HBF : Hid (∀ x ∈ F, x < 256) := HAF.2
  have HAF5 : Hid (At W5 gF 0 F) := HAF
  clear c8c hO5 hb5 HAF
  go_wp2_with (at_builtin; refine wpList_append_own _ rfl (.tmp 71) (.tmp 72) 22 rfl w.heap.size 5 i0 (.int .u8 0) 1 1 Tryd.underlying22 hi hz0 hz1 hz2 rfl (by decide) (.slice (some ⟨gC, 0, none⟩) (41 + nb) pC) (41 + nb) (u8s H) rfl hown5 ⟨gF, 0, none⟩ (17 + nB) pF (u8s F) rfl ?_ ?_ ?_ ?_ ?_ ?_ ?_)
  · rw [u8s_length, HF.out, Nat.mul_one]
  · exact HAF5.out.news
  · exact u8s_one F
  · unfold maxLen; omega
  · omega
  · exact HS5.out
  · intro v6 W6 hown6 hgrow6 _
    have hO6 : Own W6 w.heap.size v6 (H ++ F) := by
      refine ⟨?_, ?_⟩
      · rw [u8s_append, List.length_append, HH.out, HF.out]; exact hown6
      · intro x hx
        rcases List.mem_append.1 hx with hx | hx
        · exact HBH.out x hx
        · exact HBF.out x hx
    have hb6 : Below w.heap.size w W6 := HB5.out.grown hgrow6 HS5.out (fun j hj => (hown5.lt j hj).1)
    obtain ⟨g, cap, rfl, hA6, hcap, hg, hg2⟩ := hO6.at0 (n := 58 + nb + nB) (by rw [List.length_append, HH.out, HF.out]; omega) (by omega)
    have HB6 : Hid (Below w.heap.size w W6) := hb6
    have HO6 : Hid (Own W6 w.heap.size (.slice (some ⟨g, 0, none⟩) (58 + nb + nB) cap) (H ++ F)) := hO6
    have HLen : Hid ((H ++ F).length = 58 + nb + nB) := by show _ = _; rw [List.length_append, HH.out, HF.out]; omega
    have HGw : Hid (w.heap.size ≤ g) := hg
    have c8d := copy0 hO6.v HLen.out (by omega) (by omega)
    clear hown5 hown6 hgrow6 hO6 hb6 hA6 hg hg2
    go_wp2_with (go_at_call 8; fail)
    refine c8d.mono ?_
    rintro e W7 ⟨g7, p7, rfl, _, hA7, hc7, hb7⟩
    have HB7 : Hid (Below w.heap.size w W7) := HB6.out.trans (hb7.mono HB6.out.size)
    have HO7 : Hid (Own W7 w.heap.size (.slice (some ⟨g, 0, none⟩) (58 + nb + nB) cap) (H ++ F)) := HO6.out.next hb7
    have c10 := qscan_good hA7 (HT.out.next HB7.out) HLen.out hc7 (by omega) HO.out.1 HO.out.2
    clear c8d hA7 hc7 hb7
    go_wp2_with (go_at_call 10; fail)
    refine c10.mono ?_
    rintro e W8 ⟨vb, vr, rfl, hVb, hVr, hb8⟩
    have HB8 : Hid (Below w.heap.size w W8) := HB7.out.trans (hb8.mono HB7.out.size)
    have HO8 : Hid (Own W8 w.heap.size (.slice (some ⟨g, 0, none⟩) (58 + nb + nB) cap) (H ++ F)) := HO7.out.next hb8
    obtain ⟨ab, pb, rfl, _⟩ := hVb.form
    obtain ⟨ar, pr, rfl, hr⟩ := hVr.form
    obtain ⟨gr, rfl, hr2⟩ := hr (by simp)
    obtain ⟨xr, hxr, hVx⟩ := hr2 0 (by simp)
    simp only [List.length_cons, List.length_nil, Nat.zero_add, List.getD_cons_zero] at hVx hxr ⊢
    have hgr : gr < W8.heap.size := cell_lt hxr
    have hgn : gr ≠ W8.heap.size := by omega
    obtain ⟨xa, xp, hxe, _, _⟩ := hVx.form
    have HVx : Hid (V W8 (.slice xa nB xp) body) := by rw [← HNB.out, ← hxe]; exact hVx
    rw [HNB.out] at hxe
    subst hxe
    have HC11 : Hid (∀ W, Below W8.heap.size W8 W → Calls Tryd.prog 11 #[.slice xa nB xp, .slice a1 nB c1] W fun e w' => e = .returned (.bool true) ∧ ∃ m, w' = W.drewN m) := by
      intro W hb
      have := bytes_any (w := W) (HVx.out.next hb) (HV1.out.next (HB8.out.trans (Below.mono hb HB8.out.size))) (by rw [HNB.out]; omega)
      rw [show decide (body = body) = true by simp] at this
      exact this
    clear c10 hVb hVr hb8 hVx hr2
    go_wp2_with (go_at_call 11; fail)
    obtain ⟨W9, hW9⟩ : ∃ W9, W8.alloc (.cells #[.int .u64 7, .slice ab 1 pb, .slice (some ⟨gr, 0, none⟩) 1 pr, .int .i64 (58 + (nb : Int) + (nB : Int))] 34) = W9 := ⟨_, rfl⟩
    rw [hW9]
    have hb9 : Below W8.heap.size W8 W9 := hW9 ▸ (Below.refl _ _).alloc (Nat.le_refl _) _
    have HS9 : Hid (Sc W9 W8.heap.size 7 (.slice ab 1 pb) (.slice (some ⟨gr, 0, none⟩) 1 pr) (58 + (nb : Int) + (nB : Int))) := by
      rw [← hW9]
      exact ⟨by simp, by simp, by simp, by simp, fun i => by simp⟩
    have HB9 : Hid (Below w.heap.size w W9) := HB8.out.trans (hb9.mono HB8.out.size)
    have HO9 : Hid (Own W9 w.heap.size (.slice (some ⟨g, 0, none⟩) (58 + nb + nB) cap) (H ++ F)) := HO8.out.next hb9
    have HG9 : Hid (g < W8.heap.size) := (HO8.out.1.lt g rfl).2
    have HW8 : Hid (w.heap.size ≤ W8.heap.size) := HB8.out.size
    refine (HC11.out W9 hb9).mono ?_
    rintro e W10 ⟨rfl, m, rfl⟩
    have HS10 : Hid (Sc (W9.drewN m) W8.heap.size 7 (.slice ab 1 pb) (.slice (some ⟨gr, 0, none⟩) 1 pr) (58 + (nb : Int) + (nB : Int))) := ⟨HS9.out.c0, HS9.out.c1, HS9.out.c2, HS9.out.c3, HS9.out.cf⟩
    have HB10 : Hid (Below w.heap.size w (W9.drewN m)) := below_drewN HB9.out m
    have HO10 : Hid (Own (W9.drewN m) w.heap.size (.slice (some ⟨g, 0, none⟩) (58 + nb + nB) cap) (H ++ F)) := HO9.out
    generalize W9.drewN m = Wl at HS10 HB10 HO10 ⊢
    obtain ⟨s0, s1, s2, s3, sf⟩ := HS10.out
    clear HC11 hb9 hW9 HS9 HB9 HO9 hxr hgr hgn HV0 HV1 HC7 HC9 HO6 HO7 HO8 HB1 HB2 HB3 HB4 HB5 HB6 HB7 HOH HOH3 HOH4 HOF4 HAF5 HBH HBF HVx
    clear HB8
    generalize W8.heap.size = Bs at HS10 HG9 HW8 s0 s1 s2 s3 sf ⊢
    have hn1 : ((58 + (nb : Int) + (nB : Int)) != 58 + (nb : Int) + (nB : Int)) = false := by simp
    have hz : fr + sz ≤ 58 + nb + nB := by
      have h1 := HLen.out
      rw [HL.out] at h1
      simp only [List.length_append, HA.out, HP.out] at h1
      omega
    rcases HFS.out with ⟨rfl, rfl, rfl⟩ | ⟨rfl, rfl, rfl⟩
    · rcases HFI.out with rfl | ⟨hin | hin, rfl⟩
      · go_wp2
        clear s0 s1 s2 s3 sf
        go_loopw [20, 21] (fun y i wr => ∃ (k : Nat) (L E : List Nat) (Q : Nat) (q : Bool), i = .int .i64 k ∧ k ≤ 32 ∧ y = .bool q ∧ Hid (q = decide (Q ≠ 0)) ∧ Hid (Turned A P R f k L E Q) ∧ Hid (Own wr w.heap.size (.slice (some ⟨g, 0, none⟩) (58 + nb + nB) cap) L) ∧ Hid (Sc wr Bs 7 (.slice ab 1 pb) (.slice (some ⟨gr, 0, none⟩) 1 pr) (58 + (nb : Int) + (nB : Int))) ∧ Hid (Below w.heap.size w wr)) (fun _ i _ => 32 - (intOf i).toNat)
        case atStart => exact ⟨0, H ++ F, List.replicate P.length 0, 0, false, rfl, by omega, rfl, rfl, by rw [HL.out]; exact Turned.zero A P R f, HO10, HS10, HB10⟩
        case round =>
          obtain ⟨k, L, E, Q, q, rfl, hk, rfl, HQ, HTu, HOr, HSr, HBr⟩ := hrel
          have HLl : Hid (L.length = 58 + nb + nB) := HTu.out.long (by rw [← HL.out]; exact HLen.out)
          by_cases hk2 : k < 32
          · have HSK : Hid (∃ (k2 : Nat) (L2 E2 : List Nat) (Q2 : Nat) (q2 : Bool), Value.int .i64 ((k : Int) + 1) = .int .i64 k2 ∧ k2 ≤ 32 ∧ Value.bool q = .bool q2 ∧ Hid (q2 = decide (Q2 ≠ 0)) ∧ Hid (Turned A P R f k2 L2 E2 Q2) ∧ Hid (Own wr w.heap.size (.slice (some ⟨g, 0, none⟩) (58 + nb + nB) cap) L2) ∧ Hid (Sc wr Bs 7 (.slice ab 1 pb) (.slice (some ⟨gr, 0, none⟩) 1 pr) (58 + (nb : Int) + (nB : Int))) ∧ Hid (Below w.heap.size w wr)) := ⟨k + 1, L, E, Q, q, by simp, by omega, rfl, HQ, HTu.out.skip, HOr, HSr, HBr⟩
            have HME : Hid (32 - (intOf (Value.int .i64 ((k : Int) + 1))).toNat < 32 - (intOf (Value.int .i64 (k : Int))).toNat) := by show _ < _; simp [intOf]; omega
            by_cases hat : f + k < 8 * (24)
            · obtain ⟨y, hy⟩ : ∃ y, L.getD ((f + k) / 8) 0 = y := ⟨_, rfl⟩
              have hy8 : y < 256 := by rw [← hy]; exact getD_lt HOr.out.2 _
              have h1 := HOr.out.1
              rw [HLl.out] at h1
              have hc : wr.cell? ⟨g, (f + k) / 8, none⟩ = some (.int .u8 (y : Int)) := by
                rw [h1.cellAt (g := g) (cap := cap) _ (by omega), u8s_get L _ (by rw [HLl.out]; omega), hy]
              have hfz : wr.frozen? ⟨g, (f + k) / 8, none⟩ = false := h1.frozenAt _
              have HTR : Hid _ := turn_round HTu.out HA.out HP.out hat HLl.out HOr.out HSr.out HBr.out HG9.out (o := (f + k) / 8) (by omega) hy HGw.out
              clear h1 hy
              go_wp2
              · obtain ⟨L', E', Q', h1, h2, h3, h4, h5⟩ := HTR.out
                refine ⟨⟨k + 1, L', E', Q', true, by simp, by omega, rfl, by show _ = _; simp [h1], h2, ?_, ?_, ?_⟩, HME.out⟩
                · exact h3
                · exact h4
                · exact h5
              · exact ⟨HSK.out, HME.out⟩
            · go_wp2
              all_goals exact ⟨HSK.out, HME.out⟩
          · obtain rfl : k = 32 := by omega
            clear hk hk2
            cases q with
            | false =>
              go_wp2
              go_ret
              exact ⟨rfl, HBr.out⟩
            | true =>
              have hQ0 : Q ≠ 0 := by have := HQ.out; simpa using this
              have HTw : Hid (Tab wr) := HT.out.next HBr.out
              have h1 := HOr.out.at0 HLl.out (by omega)
              obtain ⟨_, _, he1, hAt, hcp, _, _⟩ := h1
              simp only [Value.slice.injEq, Option.some.injEq, Addr.mk.injEq, and_true, true_and] at he1
              obtain ⟨rfl, rfl⟩ := he1
              have c10 := qscan_no hAt HTw.out HLl.out hcp (by omega) (HBd.out (by simp) L E Q HTu.out hQ0)
              clear hAt hcp hQ0
              go_wp2_with (go_at_call 10; fail)
              refine c10.mono ?_
              rintro e W11 ⟨q0, rfl, hFa, hb11⟩
              have HB11 : Hid (Below w.heap.size w W11) := HBr.out.trans (hb11.mono HBr.out.size)
              have hS11 : Sc W11 Bs 7 (.slice ab 1 pb) (.slice (some ⟨gr, 0, none⟩) 1 pr) (58 + (nb : Int) + (nB : Int)) := HSr.out.next hb11 (cell_lt HSr.out.c0)
              have hne : Bs ≠ q0 := by
                intro he
                have h1 := hS11.c0
                rw [he, hFa.1] at h1
                simp at h1
              have HFa : Hid (FaultAt W11 q0 0 43) := hFa
              have HS11 : Hid _ := hS11
              obtain ⟨s0, s1, s2, s3, sf⟩ := hS11
              have HBs : Hid (w.heap.size ≤ Bs) := HW8
              clear c10 hb11 hFa
              unfold noScan
              go_wp2_with (go_at_call 12; fail)
              obtain ⟨hf0, hf1, hf2⟩ := (((HFa.out.set (i := 0) hne (.int .u64 0)).set (i := 1) hne (.slice none 0 0)).set (i := 2) hne (.slice none 0 0)).set (i := 3) hne (.int .i64 0)
              refine (told_one 43 (by decide) q0 0 _ hf0 hf1 hf2).mono ?_
              rintro e W12 ⟨g12, p12, rfl, hb12, _, _, _⟩
              have HB12 : Hid (Below w.heap.size w W12) := ((((HB11.out.setCell (p := ⟨Bs, 0, none⟩) HW8.out _).setCell (p := ⟨Bs, 1, none⟩) HW8.out _).setCell (p := ⟨Bs, 2, none⟩) HW8.out _).setCell (p := ⟨Bs, 3, none⟩) HW8.out _).trans (hb12.mono (by simpa using HB11.out.size))
              clear hb12 hf0 hf1 hf2 s0 s1 s2 s3 sf
              go_wp2
              go_ret
              exact ⟨rfl, HB12.out.alloc HB12.out.size _⟩
      · go_wp2
        clear s0 s1 s2 s3 sf
        go_loopw [20, 21] (fun y i wr => ∃ (k : Nat) (L E : List Nat) (Q : Nat) (q : Bool), i = .int .i64 k ∧ k ≤ 32 ∧ y = .bool q ∧ Hid (q = decide (Q ≠ 0)) ∧ Hid (Turned A P R 0 k L E Q) ∧ Hid (Own wr w.heap.size (.slice (some ⟨g, 0, none⟩) (58 + nb + nB) cap) L) ∧ Hid (Sc wr Bs 7 (.slice ab 1 pb) (.slice (some ⟨gr, 0, none⟩) 1 pr) (58 + (nb : Int) + (nB : Int))) ∧ Hid (Below w.heap.size w wr)) (fun _ i _ => 32 - (intOf i).toNat)
        case atStart => exact ⟨0, H ++ F, List.replicate P.length 0, 0, false, rfl, by omega, rfl, rfl, by rw [HL.out]; exact Turned.zero A P R 0, HO10, HS10, HB10⟩
        case round =>
          obtain ⟨k, L, E, Q, q, rfl, hk, rfl, HQ, HTu, HOr, HSr, HBr⟩ := hrel
          have HLl : Hid (L.length = 58 + nb + nB) := HTu.out.long (by rw [← HL.out]; exact HLen.out)
          by_cases hk2 : k < 32
          · have HSK : Hid (∃ (k2 : Nat) (L2 E2 : List Nat) (Q2 : Nat) (q2 : Bool), Value.int .i64 ((k : Int) + 1) = .int .i64 k2 ∧ k2 ≤ 32 ∧ Value.bool q = .bool q2 ∧ Hid (q2 = decide (Q2 ≠ 0)) ∧ Hid (Turned A P R 0 k2 L2 E2 Q2) ∧ Hid (Own wr w.heap.size (.slice (some ⟨g, 0, none⟩) (58 + nb + nB) cap) L2) ∧ Hid (Sc wr Bs 7 (.slice ab 1 pb) (.slice (some ⟨gr, 0, none⟩) 1 pr) (58 + (nb : Int) + (nB : Int))) ∧ Hid (Below w.heap.size w wr)) := ⟨k + 1, L, E, Q, q, by simp, by omega, rfl, HQ, HTu.out.skip, HOr, HSr, HBr⟩
            have HME : Hid (32 - (intOf (Value.int .i64 ((k : Int) + 1))).toNat < 32 - (intOf (Value.int .i64 (k : Int))).toNat) := by show _ < _; simp [intOf]; omega
            by_cases hat : 0 + k < 8 * (24)
            · obtain ⟨y, hy⟩ : ∃ y, L.getD (k / 8) 0 = y := ⟨_, rfl⟩
              have hy8 : y < 256 := by rw [← hy]; exact getD_lt HOr.out.2 _
              have h1 := HOr.out.1
              rw [HLl.out] at h1
              have hc : wr.cell? ⟨g, k / 8, none⟩ = some (.int .u8 (y : Int)) := by
                rw [h1.cellAt (g := g) (cap := cap) _ (by omega), u8s_get L _ (by rw [HLl.out]; omega), hy]
              have hfz : wr.frozen? ⟨g, k / 8, none⟩ = false := h1.frozenAt _
              have HTR : Hid _ := turn_round HTu.out HA.out HP.out hat HLl.out HOr.out HSr.out HBr.out HG9.out (o := k / 8) (by omega) hy HGw.out
              clear h1 hy
              go_wp2
              · obtain ⟨L', E', Q', h1, h2, h3, h4, h5⟩ := HTR.out
                refine ⟨⟨k + 1, L', E', Q', true, by simp, by omega, rfl, by show _ = _; simp [h1], h2, ?_, ?_, ?_⟩, HME.out⟩
                · simp only [Nat.zero_add] at h3 h4 h5; exact h3
                · simp only [Nat.zero_add] at h3 h4 h5; exact h4
                · simp only [Nat.zero_add] at h3 h4 h5; exact h5
              · exact ⟨HSK.out, HME.out⟩
            · go_wp2
              all_goals exact ⟨HSK.out, HME.out⟩
          · obtain rfl : k = 32 := by omega
            clear hk hk2
            cases q with
            | false =>
              go_wp2
              go_ret
              exact ⟨rfl, HBr.out⟩
            | true =>
              have hQ0 : Q ≠ 0 := by have := HQ.out; simpa using this
              have HTw : Hid (Tab wr) := HT.out.next HBr.out
              have h1 := HOr.out.at0 HLl.out (by omega)
              obtain ⟨_, _, he1, hAt, hcp, _, _⟩ := h1
              simp only [Value.slice.injEq, Option.some.injEq, Addr.mk.injEq, and_true, true_and] at he1
              obtain ⟨rfl, rfl⟩ := he1
              have c10 := qscan_no hAt HTw.out HLl.out hcp (by omega) (HBd.out (by simp) L E Q HTu.out hQ0)
              clear hAt hcp hQ0
              go_wp2_with (go_at_call 10; fail)
              refine c10.mono ?_
              rintro e W11 ⟨q0, rfl, hFa, hb11⟩
              have HB11 : Hid (Below w.heap.size w W11) := HBr.out.trans (hb11.mono HBr.out.size)
              have hS11 : Sc W11 Bs 7 (.slice ab 1 pb) (.slice (some ⟨gr, 0, none⟩) 1 pr) (58 + (nb : Int) + (nB : Int)) := HSr.out.next hb11 (cell_lt HSr.out.c0)
              have hne : Bs ≠ q0 := by
                intro he
                have h1 := hS11.c0
                rw [he, hFa.1] at h1
                simp at h1
              have HFa : Hid (FaultAt W11 q0 0 43) := hFa
              have HS11 : Hid _ := hS11
              obtain ⟨s0, s1, s2, s3, sf⟩ := hS11
              have HBs : Hid (w.heap.size ≤ Bs) := HW8
              clear c10 hb11 hFa
              unfold noScan
              go_wp2_with (go_at_call 12; fail)
              obtain ⟨hf0, hf1, hf2⟩ := (((HFa.out.set (i := 0) hne (.int .u64 0)).set (i := 1) hne (.slice none 0 0)).set (i := 2) hne (.slice none 0 0)).set (i := 3) hne (.int .i64 0)
              refine (told_one 43 (by decide) q0 0 _ hf0 hf1 hf2).mono ?_
              rintro e W12 ⟨g12, p12, rfl, hb12, _, _, _⟩
              have HB12 : Hid (Below w.heap.size w W12) := ((((HB11.out.setCell (p := ⟨Bs, 0, none⟩) HW8.out _).setCell (p := ⟨Bs, 1, none⟩) HW8.out _).setCell (p := ⟨Bs, 2, none⟩) HW8.out _).setCell (p := ⟨Bs, 3, none⟩) HW8.out _).trans (hb12.mono (by simpa using HB11.out.size))
              clear hb12 hf0 hf1 hf2 s0 s1 s2 s3 sf
              go_wp2
              go_ret
              exact ⟨rfl, HB12.out.alloc HB12.out.size _⟩
      · go_wp2
        clear s0 s1 s2 s3 sf
        go_loopw [20, 21] (fun y i wr => ∃ (k : Nat) (L E : List Nat) (Q : Nat) (q : Bool), i = .int .i64 k ∧ k ≤ 32 ∧ y = .bool q ∧ Hid (q = decide (Q ≠ 0)) ∧ Hid (Turned A P R 0 k L E Q) ∧ Hid (Own wr w.heap.size (.slice (some ⟨g, 0, none⟩) (58 + nb + nB) cap) L) ∧ Hid (Sc wr Bs 7 (.slice ab 1 pb) (.slice (some ⟨gr, 0, none⟩) 1 pr) (58 + (nb : Int) + (nB : Int))) ∧ Hid (Below w.heap.size w wr)) (fun _ i _ => 32 - (intOf i).toNat)
        case atStart => exact ⟨0, H ++ F, List.replicate P.length 0, 0, false, rfl, by omega, rfl, rfl, by rw [HL.out]; exact Turned.zero A P R 0, HO10, HS10, HB10⟩
        case round =>
          obtain ⟨k, L, E, Q, q, rfl, hk, rfl, HQ, HTu, HOr, HSr, HBr⟩ := hrel
          have HLl : Hid (L.length = 58 + nb + nB) := HTu.out.long (by rw [← HL.out]; exact HLen.out)
          by_cases hk2 : k < 32
          · have HSK : Hid (∃ (k2 : Nat) (L2 E2 : List Nat) (Q2 : Nat) (q2 : Bool), Value.int .i64 ((k : Int) + 1) = .int .i64 k2 ∧ k2 ≤ 32 ∧ Value.bool q = .bool q2 ∧ Hid (q2 = decide (Q2 ≠ 0)) ∧ Hid (Turned A P R 0 k2 L2 E2 Q2) ∧ Hid (Own wr w.heap.size (.slice (some ⟨g, 0, none⟩) (58 + nb + nB) cap) L2) ∧ Hid (Sc wr Bs 7 (.slice ab 1 pb) (.slice (some ⟨gr, 0, none⟩) 1 pr) (58 + (nb : Int) + (nB : Int))) ∧ Hid (Below w.heap.size w wr)) := ⟨k + 1, L, E, Q, q, by simp, by omega, rfl, HQ, HTu.out.skip, HOr, HSr, HBr⟩
            have HME : Hid (32 - (intOf (Value.int .i64 ((k : Int) + 1))).toNat < 32 - (intOf (Value.int .i64 (k : Int))).toNat) := by show _ < _; simp [intOf]; omega
            by_cases hat : 0 + k < 8 * (24)
            · obtain ⟨y, hy⟩ : ∃ y, L.getD (k / 8) 0 = y := ⟨_, rfl⟩
              have hy8 : y < 256 := by rw [← hy]; exact getD_lt HOr.out.2 _
              have h1 := HOr.out.1
              rw [HLl.out] at h1
              have hc : wr.cell? ⟨g, k / 8, none⟩ = some (.int .u8 (y : Int)) := by
                rw [h1.cellAt (g := g) (cap := cap) _ (by omega), u8s_get L _ (by rw [HLl.out]; omega), hy]
              have hfz : wr.frozen? ⟨g, k / 8, none⟩ = false := h1.frozenAt _
              have HTR : Hid _ := turn_round HTu.out HA.out HP.out hat HLl.out HOr.out HSr.out HBr.out HG9.out (o := k / 8) (by omega) hy HGw.out
              clear h1 hy
              go_wp2
              · obtain ⟨L', E', Q', h1, h2, h3, h4, h5⟩ := HTR.out
                refine ⟨⟨k + 1, L', E', Q', true, by simp, by omega, rfl, by show _ = _; simp [h1], h2, ?_, ?_, ?_⟩, HME.out⟩
                · simp only [Nat.zero_add] at h3 h4 h5; exact h3
                · simp only [Nat.zero_add] at h3 h4 h5; exact h4
                · simp only [Nat.zero_add] at h3 h4 h5; exact h5
              · exact ⟨HSK.out, HME.out⟩
            · go_wp2
              all_goals exact ⟨HSK.out, HME.out⟩
          · obtain rfl : k = 32 := by omega
            clear hk hk2
            cases q with
            | false =>
              go_wp2
              go_ret
              exact ⟨rfl, HBr.out⟩
            | true =>
              have hQ0 : Q ≠ 0 := by have := HQ.out; simpa using this
              have HTw : Hid (Tab wr) := HT.out.next HBr.out
              have h1 := HOr.out.at0 HLl.out (by omega)
              obtain ⟨_, _, he1, hAt, hcp, _, _⟩ := h1
              simp only [Value.slice.injEq, Option.some.injEq, Addr.mk.injEq, and_true, true_and] at he1
              obtain ⟨rfl, rfl⟩ := he1
              have c10 := qscan_no hAt HTw.out HLl.out hcp (by omega) (HBd.out (by simp) L E Q HTu.out hQ0)
              clear hAt hcp hQ0
              go_wp2_with (go_at_call 10; fail)
              refine c10.mono ?_
              rintro e W11 ⟨q0, rfl, hFa, hb11⟩
              have HB11 : Hid (Below w.heap.size w W11) := HBr.out.trans (hb11.mono HBr.out.size)
              have hS11 : Sc W11 Bs 7 (.slice ab 1 pb) (.slice (some ⟨gr, 0, none⟩) 1 pr) (58 + (nb : Int) + (nB : Int)) := HSr.out.next hb11 (cell_lt HSr.out.c0)
              have hne : Bs ≠ q0 := by
                intro he
                have h1 := hS11.c0
                rw [he, hFa.1] at h1
                simp at h1
              have HFa : Hid (FaultAt W11 q0 0 43) := hFa
              have HS11 : Hid _ := hS11
              obtain ⟨s0, s1, s2, s3, sf⟩ := hS11
              have HBs : Hid (w.heap.size ≤ Bs) := HW8
              clear c10 hb11 hFa
              unfold noScan
              go_wp2_with (go_at_call 12; fail)
              obtain ⟨hf0, hf1, hf2⟩ := (((HFa.out.set (i := 0) hne (.int .u64 0)).set (i := 1) hne (.slice none 0 0)).set (i := 2) hne (.slice none 0 0)).set (i := 3) hne (.int .i64 0)
              refine (told_one 43 (by decide) q0 0 _ hf0 hf1 hf2).mono ?_
              rintro e W12 ⟨g12, p12, rfl, hb12, _, _, _⟩
              have HB12 : Hid (Below w.heap.size w W12) := ((((HB11.out.setCell (p := ⟨Bs, 0, none⟩) HW8.out _).setCell (p := ⟨Bs, 1, none⟩) HW8.out _).setCell (p := ⟨Bs, 2, none⟩) HW8.out _).setCell (p := ⟨Bs, 3, none⟩) HW8.out _).trans (hb12.mono (by simpa using HB11.out.size))
              clear hb12 hf0 hf1 hf2 s0 s1 s2 s3 sf
              go_wp2
              go_ret
              exact ⟨rfl, HB12.out.alloc HB12.out.size _⟩
    · rcases HFI.out with rfl | ⟨hin | hin, rfl⟩
      · go_wp2
        clear s0 s1 s2 s3 sf
        go_loopw [20, 21] (fun y i wr => ∃ (k : Nat) (L E : List Nat) (Q : Nat) (q : Bool), i = .int .i64 k ∧ k ≤ 32 ∧ y = .bool q ∧ Hid (q = decide (Q ≠ 0)) ∧ Hid (Turned A P R f k L E Q) ∧ Hid (Own wr w.heap.size (.slice (some ⟨g, 0, none⟩) (58 + nb + nB) cap) L) ∧ Hid (Sc wr Bs 7 (.slice ab 1 pb) (.slice (some ⟨gr, 0, none⟩) 1 pr) (58 + (nb : Int) + (nB : Int))) ∧ Hid (Below w.heap.size w wr)) (fun _ i _ => 32 - (intOf i).toNat)
        case atStart => exact ⟨0, H ++ F, List.replicate P.length 0, 0, false, rfl, by omega, rfl, rfl, by rw [HL.out]; exact Turned.zero A P R f, HO10, HS10, HB10⟩
        case round =>
          obtain ⟨k, L, E, Q, q, rfl, hk, rfl, HQ, HTu, HOr, HSr, HBr⟩ := hrel
          have HLl : Hid (L.length = 58 + nb + nB) := HTu.out.long (by rw [← HL.out]; exact HLen.out)
          by_cases hk2 : k < 32
          · have HSK : Hid (∃ (k2 : Nat) (L2 E2 : List Nat) (Q2 : Nat) (q2 : Bool), Value.int .i64 ((k : Int) + 1) = .int .i64 k2 ∧ k2 ≤ 32 ∧ Value.bool q = .bool q2 ∧ Hid (q2 = decide (Q2 ≠ 0)) ∧ Hid (Turned A P R f k2 L2 E2 Q2) ∧ Hid (Own wr w.heap.size (.slice (some ⟨g, 0, none⟩) (58 + nb + nB) cap) L2) ∧ Hid (Sc wr Bs 7 (.slice ab 1 pb) (.slice (some ⟨gr, 0, none⟩) 1 pr) (58 + (nb : Int) + (nB : Int))) ∧ Hid (Below w.heap.size w wr)) := ⟨k + 1, L, E, Q, q, by simp, by omega, rfl, HQ, HTu.out.skip, HOr, HSr, HBr⟩
            have HME : Hid (32 - (intOf (Value.int .i64 ((k : Int) + 1))).toNat < 32 - (intOf (Value.int .i64 (k : Int))).toNat) := by show _ < _; simp [intOf]; omega
            by_cases hat : f + k < 8 * (nB + 4)
            · obtain ⟨y, hy⟩ : ∃ y, L.getD (41 + nb + 13 + (f + k) / 8) 0 = y := ⟨_, rfl⟩
              have hy8 : y < 256 := by rw [← hy]; exact getD_lt HOr.out.2 _
              have h1 := HOr.out.1
              rw [HLl.out] at h1
              have hc : wr.cell? ⟨g, 41 + nb + 13 + (f + k) / 8, none⟩ = some (.int .u8 (y : Int)) := by
                rw [h1.cellAt (g := g) (cap := cap) _ (by omega), u8s_get L _ (by rw [HLl.out]; omega), hy]
              have hfz : wr.frozen? ⟨g, 41 + nb + 13 + (f + k) / 8, none⟩ = false := h1.frozenAt _
              have HTR : Hid _ := turn_round HTu.out HA.out HP.out hat HLl.out HOr.out HSr.out HBr.out HG9.out (o := 41 + nb + 13 + (f + k) / 8) (by omega) hy HGw.out
              clear h1 hy
              go_wp2
              · obtain ⟨L', E', Q', h1, h2, h3, h4, h5⟩ := HTR.out
                refine ⟨⟨k + 1, L', E', Q', true, by simp, by omega, rfl, by show _ = _; simp [h1], h2, ?_, ?_, ?_⟩, HME.out⟩
                · exact h3
                · exact h4
                · exact h5
              · exact ⟨HSK.out, HME.out⟩
            · go_wp2
              all_goals exact ⟨HSK.out, HME.out⟩
          · obtain rfl : k = 32 := by omega
            clear hk hk2
            cases q with
            | false =>
              go_wp2
              go_ret
              exact ⟨rfl, HBr.out⟩
            | true =>
              have hQ0 : Q ≠ 0 := by have := HQ.out; simpa using this
              have HTw : Hid (Tab wr) := HT.out.next HBr.out
              have h1 := HOr.out.at0 HLl.out (by omega)
              obtain ⟨_, _, he1, hAt, hcp, _, _⟩ := h1
              simp only [Value.slice.injEq, Option.some.injEq, Addr.mk.injEq, and_true, true_and] at he1
              obtain ⟨rfl, rfl⟩ := he1
              obtain ⟨hO11, hr11⟩ := HG.out (by simp) L E Q HTu.out hQ0
              have c10 := qscan_good hAt HTw.out HLl.out hcp (by omega) hO11 hr11
              clear hAt hcp hQ0 hO11 hr11
              go_wp2_with (go_at_call 10; fail)
              refine c10.mono ?_
              rintro e W11 ⟨vb2, vr2, rfl, hVb2, hVr2, hb11⟩
              have HB11 : Hid (Below w.heap.size w W11) := HBr.out.trans (hb11.mono HBr.out.size)
              obtain ⟨s0, s1, s2, s3, sf⟩ := HSr.out.next hb11 (cell_lt HSr.out.c0)
              obtain ⟨ab2, pb2, rfl, _⟩ := hVb2.form
              obtain ⟨ar2, pr2, rfl, _⟩ := hVr2.form
              simp only [List.length_cons, List.length_nil, Nat.zero_add]
              clear c10 hb11 hVb2 hVr2
              go_wp2
              go_ret
              exact ⟨rfl, (((HB11.out.setCell (p := ⟨Bs, 0, none⟩) HW8.out _).setCell (p := ⟨Bs, 1, none⟩) HW8.out _).setCell (p := ⟨Bs, 2, none⟩) HW8.out _).setCell (p := ⟨Bs, 3, none⟩) HW8.out _⟩
      · go_wp2
        clear s0 s1 s2 s3 sf
        go_loopw [20, 21] (fun y i wr => ∃ (k : Nat) (L E : List Nat) (Q : Nat) (q : Bool), i = .int .i64 k ∧ k ≤ 32 ∧ y = .bool q ∧ Hid (q = decide (Q ≠ 0)) ∧ Hid (Turned A P R 0 k L E Q) ∧ Hid (Own wr w.heap.size (.slice (some ⟨g, 0, none⟩) (58 + nb + nB) cap) L) ∧ Hid (Sc wr Bs 7 (.slice ab 1 pb) (.slice (some ⟨gr, 0, none⟩) 1 pr) (58 + (nb : Int) + (nB : Int))) ∧ Hid (Below w.heap.size w wr)) (fun _ i _ => 32 - (intOf i).toNat)
        case atStart => exact ⟨0, H ++ F, List.replicate P.length 0, 0, false, rfl, by omega, rfl, rfl, by rw [HL.out]; exact Turned.zero A P R 0, HO10, HS10, HB10⟩
        case round =>
          obtain ⟨k, L, E, Q, q, rfl, hk, rfl, HQ, HTu, HOr, HSr, HBr⟩ := hrel
          have HLl : Hid (L.length = 58 + nb + nB) := HTu.out.long (by rw [← HL.out]; exact HLen.out)
          by_cases hk2 : k < 32
          · have HSK : Hid (∃ (k2 : Nat) (L2 E2 : List Nat) (Q2 : Nat) (q2 : Bool), Value.int .i64 ((k : Int) + 1) = .int .i64 k2 ∧ k2 ≤ 32 ∧ Value.bool q = .bool q2 ∧ Hid (q2 = decide (Q2 ≠ 0)) ∧ Hid (Turned A P R 0 k2 L2 E2 Q2) ∧ Hid (Own wr w.heap.size (.slice (some ⟨g, 0, none⟩) (58 + nb + nB) cap) L2) ∧ Hid (Sc wr Bs 7 (.slice ab 1 pb) (.slice (some ⟨gr, 0, none⟩) 1 pr) (58 + (nb : Int) + (nB : Int))) ∧ Hid (Below w.heap.size w wr)) := ⟨k + 1, L, E, Q, q, by simp, by omega, rfl, HQ, HTu.out.skip, HOr, HSr, HBr⟩
            have HME : Hid (32 - (intOf (Value.int .i64 ((k : Int) + 1))).toNat < 32 - (intOf (Value.int .i64 (k : Int))).toNat) := by show _ < _; simp [intOf]; omega
            by_cases hat : 0 + k < 8 * (nB + 4)
            · obtain ⟨y, hy⟩ : ∃ y, L.getD (41 + nb + 13 + k / 8) 0 = y := ⟨_, rfl⟩
              have hy8 : y < 256 := by rw [← hy]; exact getD_lt HOr.out.2 _
              have h1 := HOr.out.1
              rw [HLl.out] at h1
              have hc : wr.cell? ⟨g, 41 + nb + 13 + k / 8, none⟩ = some (.int .u8 (y : Int)) := by
                rw [h1.cellAt (g := g) (cap := cap) _ (by omega), u8s_get L _ (by rw [HLl.out]; omega), hy]
              have hfz : wr.frozen? ⟨g, 41 + nb + 13 + k / 8, none⟩ = false := h1.frozenAt _
              have HTR : Hid _ := turn_round HTu.out HA.out HP.out hat HLl.out HOr.out HSr.out HBr.out HG9.out (o := 41 + nb + 13 + k / 8) (by omega) hy HGw.out
              clear h1 hy
              go_wp2
              · obtain ⟨L', E', Q', h1, h2, h3, h4, h5⟩ := HTR.out
                refine ⟨⟨k + 1, L', E', Q', true, by simp, by omega, rfl, by show _ = _; simp [h1], h2, ?_, ?_, ?_⟩, HME.out⟩
                · simp only [Nat.zero_add] at h3 h4 h5; exact h3
                · simp only [Nat.zero_add] at h3 h4 h5; exact h4
                · simp only [Nat.zero_add] at h3 h4 h5; exact h5
              · exact ⟨HSK.out, HME.out⟩
            · go_wp2
              all_goals exact ⟨HSK.out, HME.out⟩
          · obtain rfl : k = 32 := by omega
            clear hk hk2
            cases q with
            | false =>
              go_wp2
              go_ret
              exact ⟨rfl, HBr.out⟩
            | true =>
              have hQ0 : Q ≠ 0 := by have := HQ.out; simpa using this
              have HTw : Hid (Tab wr) := HT.out.next HBr.out
              have h1 := HOr.out.at0 HLl.out (by omega)
              obtain ⟨_, _, he1, hAt, hcp, _, _⟩ := h1
              simp only [Value.slice.injEq, Option.some.injEq, Addr.mk.injEq, and_true, true_and] at he1
              obtain ⟨rfl, rfl⟩ := he1
              obtain ⟨hO11, hr11⟩ := HG.out (by simp) L E Q HTu.out hQ0
              have c10 := qscan_good hAt HTw.out HLl.out hcp (by omega) hO11 hr11
              clear hAt hcp hQ0 hO11 hr11
              go_wp2_with (go_at_call 10; fail)
              refine c10.mono ?_
              rintro e W11 ⟨vb2, vr2, rfl, hVb2, hVr2, hb11⟩
              have HB11 : Hid (Below w.heap.size w W11) := HBr.out.trans (hb11.mono HBr.out.size)
              obtain ⟨s0, s1, s2, s3, sf⟩ := HSr.out.next hb11 (cell_lt HSr.out.c0)
              obtain ⟨ab2, pb2, rfl, _⟩ := hVb2.form
              obtain ⟨ar2, pr2, rfl, _⟩ := hVr2.form
              simp only [List.length_cons, List.length_nil, Nat.zero_add]
              clear c10 hb11 hVb2 hVr2
              go_wp2
              go_ret
              exact ⟨rfl, (((HB11.out.setCell (p := ⟨Bs, 0, none⟩) HW8.out _).setCell (p := ⟨Bs, 1, none⟩) HW8.out _).setCell (p := ⟨Bs, 2, none⟩) HW8.out _).setCell (p := ⟨Bs, 3, none⟩) HW8.out _⟩
      · go_wp2
        clear s0 s1 s2 s3 sf
        go_loopw [20, 21] (fun y i wr => ∃ (k : Nat) (L E : List Nat) (Q : Nat) (q : Bool), i = .int .i64 k ∧ k ≤ 32 ∧ y = .bool q ∧ Hid (q = decide (Q ≠ 0)) ∧ Hid (Turned A P R 0 k L E Q) ∧ Hid (Own wr w.heap.size (.slice (some ⟨g, 0, none⟩) (58 + nb + nB) cap) L) ∧ Hid (Sc wr Bs 7 (.slice ab 1 pb) (.slice (some ⟨gr, 0, none⟩) 1 pr) (58 + (nb : Int) + (nB : Int))) ∧ Hid (Below w.heap.size w wr)) (fun _ i _ => 32 - (intOf i).toNat)
        case atStart => exact ⟨0, H ++ F, List.replicate P.length 0, 0, false, rfl, by omega, rfl, rfl, by rw [HL.out]; exact Turned.zero A P R 0, HO10, HS10, HB10⟩
        case round =>
          obtain ⟨k, L, E, Q, q, rfl, hk, rfl, HQ, HTu, HOr, HSr, HBr⟩ := hrel
          have HLl : Hid (L.length = 58 + nb + nB) := HTu.out.long (by rw [← HL.out]; exact HLen.out)
          by_cases hk2 : k < 32
          · have HSK : Hid (∃ (k2 : Nat) (L2 E2 : List Nat) (Q2 : Nat) (q2 : Bool), Value.int .i64 ((k : Int) + 1) = .int .i64 k2 ∧ k2 ≤ 32 ∧ Value.bool q = .bool q2 ∧ Hid (q2 = decide (Q2 ≠ 0)) ∧ Hid (Turned A P R 0 k2 L2 E2 Q2) ∧ Hid (Own wr w.heap.size (.slice (some ⟨g, 0, none⟩) (58 + nb + nB) cap) L2) ∧ Hid (Sc wr Bs 7 (.slice ab 1 pb) (.slice (some ⟨gr, 0, none⟩) 1 pr) (58 + (nb : Int) + (nB : Int))) ∧ Hid (Below w.heap.size w wr)) := ⟨k + 1, L, E, Q, q, by simp, by omega, rfl, HQ, HTu.out.skip, HOr, HSr, HBr⟩
            have HME : Hid (32 - (intOf (Value.int .i64 ((k : Int) + 1))).toNat < 32 - (intOf (Value.int .i64 (k : Int))).toNat) := by show _ < _; simp [intOf]; omega
            by_cases hat : 0 + k < 8 * (nB + 4)
            · obtain ⟨y, hy⟩ : ∃ y, L.getD (41 + nb + 13 + k / 8) 0 = y := ⟨_, rfl⟩
              have hy8 : y < 256 := by rw [← hy]; exact getD_lt HOr.out.2 _
              have h1 := HOr.out.1
              rw [HLl.out] at h1
              have hc : wr.cell? ⟨g, 41 + nb + 13 + k / 8, none⟩ = some (.int .u8 (y : Int)) := by
                rw [h1.cellAt (g := g) (cap := cap) _ (by omega), u8s_get L _ (by rw [HLl.out]; omega), hy]
              have hfz : wr.frozen? ⟨g, 41 + nb + 13 + k / 8, none⟩ = false := h1.frozenAt _
              have HTR : Hid _ := turn_round HTu.out HA.out HP.out hat HLl.out HOr.out HSr.out HBr.out HG9.out (o := 41 + nb + 13 + k / 8) (by omega) hy HGw.out
              clear h1 hy
              go_wp2
              · obtain ⟨L', E', Q', h1, h2, h3, h4, h5⟩ := HTR.out
                refine ⟨⟨k + 1, L', E', Q', true, by simp, by omega, rfl, by show _ = _; simp [h1], h2, ?_, ?_, ?_⟩, HME.out⟩
                · simp only [Nat.zero_add] at h3 h4 h5; exact h3
                · simp only [Nat.zero_add] at h3 h4 h5; exact h4
                · simp only [Nat.zero_add] at h3 h4 h5; exact h5
              · exact ⟨HSK.out, HME.out⟩
            · go_wp2
              all_goals exact ⟨HSK.out, HME.out⟩
          · obtain rfl : k = 32 := by omega
            clear hk hk2
            cases q with
            | false =>
              go_wp2
              go_ret
              exact ⟨rfl, HBr.out⟩
            | true =>
              have hQ0 : Q ≠ 0 := by have := HQ.out; simpa using this
              have HTw : Hid (Tab wr) := HT.out.next HBr.out
              have h1 := HOr.out.at0 HLl.out (by omega)
              obtain ⟨_, _, he1, hAt, hcp, _, _⟩ := h1
              simp only [Value.slice.injEq, Option.some.injEq, Addr.mk.injEq, and_true, true_and] at he1
              obtain ⟨rfl, rfl⟩ := he1
              obtain ⟨hO11, hr11⟩ := HG.out (by simp) L E Q HTu.out hQ0
              have c10 := qscan_good hAt HTw.out HLl.out hcp (by omega) hO11 hr11
              clear hAt hcp hQ0 hO11 hr11
              go_wp2_with (go_at_call 10; fail)
              refine c10.mono ?_
              rintro e W11 ⟨vb2, vr2, rfl, hVb2, hVr2, hb11⟩
              have HB11 : Hid (Below w.heap.size w W11) := HBr.out.trans (hb11.mono HBr.out.size)
              obtain ⟨s0, s1, s2, s3, sf⟩ := HSr.out.next hb11 (cell_lt HSr.out.c0)
              obtain ⟨ab2, pb2, rfl, _⟩ := hVb2.form
              obtain ⟨ar2, pr2, rfl, _⟩ := hVr2.form
              simp only [List.length_cons, List.length_nil, Nat.zero_add]
              clear c10 hb11 hVb2 hVr2
              go_wp2
              go_ret
              exact ⟨rfl, (((HB11.out.setCell (p := ⟨Bs, 0, none⟩) HW8.out _).setCell (p := ⟨Bs, 1, none⟩) HW8.out _).setCell (p := ⟨Bs, 2, none⟩) HW8.out _).setCell (p := ⟨Bs, 3, none⟩) HW8.out _⟩
end Go.Proofs.YtngmleddlfkecaaDoor
