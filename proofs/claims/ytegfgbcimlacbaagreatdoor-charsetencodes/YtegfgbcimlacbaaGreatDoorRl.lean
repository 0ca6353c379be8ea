import Derived.Test.YtegfgbcimlacbaaGreatDoorRk
/-
  DERIVED. Encode, by the document.
-/
namespace Go.Proofs.YtegfgbcimlacbaaGreatDoor
open Go Go.Proofs Go.RowKit

theorem w64 {z : Int} (h0 : -9223372036854775808 ≤ z) (h1 : z ≤ 9223372036854775807) : wrap64 z = z := by
  unfold wrap64
  omega
/-- The search for a repertoire, from the last on: what holds, of those that were looked at. -/
def SrI (W5 : World) (a : Row) (R : List Row) (h : Row) (r : Int) (n q : Nat) (s9 s14 : Value) (wx : World) : Prop :=
  wx = W5 ∧ q ≤ n ∧ s9 = .int .i64 ((repN (srch r ((a :: R).drop q) h).1 : Nat) : Int) ∧ ((q = 0 ∧ s14 = .int .i64 (-1)) ∨ ∃ q', q = q' + 1 ∧ s14 = .int .i64 (q' : Int))

set_option maxRecDepth 100000 in
set_option maxHeartbeats 8000000 in
theorem rencode_any (w : World) (H p : Nat) (v : Value) (a : Row) (R : List Row) (x : Bool) (k : Int) (s : ByteArray) (hset : RSetAt w H p v (namesOf (a :: R)) x) (hR6 : (a :: R).length ≤ 6) (hC : Cond x a R) (hT : RTabs w) :
    Calls Tryz.prog 6 #[.pointer (some ⟨p, 0, none⟩), .int .i64 k, .string s] w (RPostE w (enS (Pz a R) a R k s)) := by
  obtain ⟨W0, hW0⟩ : ∃ W0, w.alloc (.cells #[.slice none 0 0, .int .i64 0] 34) = W0 := ⟨_, rfl⟩
  have hi0 : DecI w w.heap.size W0 := hW0 ▸ ⟨(Below.refl _ _).alloc (Nat.le_refl _) _, by simp, by simp, fun i => by simp⟩
  have hs0 : W0.heap.size = w.heap.size + 1 := by rw [← hW0]; simp
  have H17 : Hid (∀ (i c : Int) W, Calls Tryz.prog 17 #[.int .i64 c, .int .i64 i] W fun e w' => ∃ g k, e = .returned (.agg #[.slice (some ⟨g, 0, none⟩) 1 k, .int .i64 c]) ∧ w'.cell? ⟨g, 0, none⟩ = some (.string { data := #[99, 104, 97, 114, 115, 101, 116] }) ∧ w'.cell? ⟨g, 1, none⟩ = some (.int .i64 i) ∧ W.heap.size ≤ g ∧ Below W.heap.size W w') := fun i c W => no_at i c W
  have HI0 : Hid _ := hi0
  unfold enS
  by_cases hk : k < 0 ∨ 3 ≤ k
  · rw [if_pos hk]
    clear hset hR6 hC hT hi0
    have hk2 : k < 0 ∨ (¬ k < 0 ∧ 2 < k) := by omega
    rcases hk2 with hk2 | ⟨hk2, hk3⟩
    all_goals
      go_enter Tryz.func6, Tryz.ntmps6
      go_wp2_with (go_at_call 17; refine Stop.mk ?_)
      refine Stop.out ((H17.out 0 84 _).mono ?_)
      rintro e W1 ⟨g, kk, rfl, g0, g1, hg, hb⟩
      have HP := refuse_post (k := kk) (c := 84) (i := 0) HI0.out (Nat.le_refl _) g0 g1 hg hb
      obtain ⟨-, b0, b1, bf⟩ := HI0.out.on hb
      clear g0 g1 hb
      go_wp2
      obtain ⟨r0, r1⟩ := res_cells (v0 := .slice (some ⟨g, 0, none⟩) 1 kk) (v1 := .int .i64 84) b0 b1
      exact bodyPost_ret (v := .tuple #[.slice none 0 0, .agg #[.slice (some ⟨g, 0, none⟩) 1 kk, .int .i64 84]]) (by simp [results, Tryz.results6, go_sem, r0, r1]) rfl HP
  · rw [if_neg hk]
    have hkA : ¬ k < 0 := by omega
    have hkB : ¬ 2 < k := by omega
    by_cases hs : 65534 < s.size
    · rw [if_pos hs]
      have hsI : (65534 : Int) < (s.size : Int) := by omega
      clear hset hR6 hC hT hi0
      go_enter Tryz.func6, Tryz.ntmps6
      go_wp2_with (go_at_call 17; refine Stop.mk ?_)
      refine Stop.out ((H17.out 65534 85 _).mono ?_)
      rintro e W1 ⟨g, kk, rfl, g0, g1, hg, hb⟩
      have HP := refuse_post (k := kk) (c := 85) (i := 65534) HI0.out (Nat.le_refl _) g0 g1 hg hb
      obtain ⟨-, b0, b1, bf⟩ := HI0.out.on hb
      clear g0 g1 hb
      go_wp2
      obtain ⟨r0, r1⟩ := res_cells (v0 := .slice (some ⟨g, 0, none⟩) 1 kk) (v1 := .int .i64 85) b0 b1
      exact bodyPost_ret (v := .tuple #[.slice none 0 0, .agg #[.slice (some ⟨g, 0, none⟩) 1 kk, .int .i64 85]]) (by simp [results, Tryz.results6, go_sem, r0, r1]) rfl HP
    · rw [if_neg hs]
      obtain ⟨j, hj, rfl⟩ : ∃ j : Nat, j < 3 ∧ k = (j : Int) := ⟨k.toNat, by omega, by omega⟩
      rw [Int.toNat_natCast]
      obtain ⟨F, hF⟩ : ∃ F, wrS (Pz a R) (kdS (2 * j)) (kdS (2 * j + 1)) a R s s.size 0 a [] = F := ⟨_, rfl⟩
      rw [hF]
      have HF : Hid _ := hF
      have hsI : ¬ (65534 : Int) < (s.size : Int) := by omega
      obtain ⟨so, sc, rfl⟩ := hset.val
      have s0 := hset.c0
      obtain ⟨n, hn⟩ : ∃ n, (namesOf (a :: R)).length = n := ⟨_, rfl⟩
      rw [hn] at s0
      obtain ⟨gg, rfl, -, sa⟩ := hset.cell 0 (a.1, a.2.1) rfl
      simp only at sa
      have hn1 : (0 : Int) < (n : Int) := by rw [← hn, names_len]; simp
      have HSET : Hid _ := hset
      have HNN : Hid _ := hn
      have HSC : Hid (∀ W, Below w.heap.size w W → W.cell? ⟨p, 0, none⟩ = some (.slice (some ⟨gg, 0, none⟩) n sc) ∧ W.cell? ⟨gg, 0, none⟩ = some (.int .i64 (repN a.1 : Nat))) := fun W hb => ⟨(hb.cell (p := ⟨p, 0, none⟩) (cell_lt s0)).trans s0, (hb.cell (p := ⟨gg, 0, none⟩) (cell_lt sa)).trans sa⟩
      have H6 : Hid ((namesOf (a :: R)).length ≤ 6) := by show _ ≤ _; rw [names_len]; exact hR6
      have HC : Hid _ := hC
      have HT : Hid _ := hT
      obtain ⟨z0, z2⟩ := HSC.out W0 hi0.b
      obtain ⟨i0, hi, hz0, hz1, hz2⟩ := info_parts Tryz.info5
      have hcv := Lib.run_convert_string_bytes (P := Tryz.prog) W0 9 27 5 s Tryz.underlying9 Tryz.underlying27 Tryz.underlying5
      obtain ⟨W1, hW1⟩ : ∃ W1, Lib.bytesWorld W0 5 s = W1 := ⟨_, rfl⟩
      have HW1 : Hid (Below W0.heap.size W0 W1 ∧ RawAt s W0.heap.size W1) := by
        subst hW1
        refine ⟨⟨rfl, rfl, rfl, by rw [Lib.bytesWorld_size]; omega, fun j hj => Lib.bytesWorld_at_old W0 5 s j hj⟩, fun i hi => ?_⟩
        rw [Lib.bytesWorld_cell W0 5 s i hi, bsT_at hi, List.getD_eq_getElem?_getD, List.getElem?_eq_getElem (by simpa using hi)]
        rfl
      obtain ⟨cap, hcap⟩ : ∃ cap, grownCap W0 s.size 0 5 = cap := ⟨_, rfl⟩
      have hcap2 : s.size ≤ cap := by rw [← hcap]; exact grownCap_ge W0 s.size 0 5
      rw [hW1, hcap] at hcv
      have HI1 : Hid (DecI w w.heap.size W1) := hi0.on HW1.out.1
      clear hset hF hR6 hC hT s0 sa hn hi0 hW1 hcap
      go_enter Tryz.func6, Tryz.ntmps6
      go_wp2
      clear z0 z2
      obtain ⟨B, hB⟩ : ∃ B, w.heap.size = B := ⟨_, rfl⟩
      rw [hs0] at HW1
      rw [hB] at HI1 HI0 HW1 ⊢
      have HBB : Hid (w.heap.size = B) := hB
      clear hB hcv
      go_loopg [8, 9, 11] s.size (fun g s8 s9 s11 wx => Hid (EncInv w B (kdS (2 * j)) (kdS (2 * j + 1)) a R s F g s8 s9 s11 wx))
      case atStart => exact ⟨0, a, [], rfl, rfl, by omega, by omega, HF.out, List.mem_cons_self, by simp, fun z hz => by simp at hz, World.ownsRow_nil _ _ _ _, HI1.out, HW1.out.2⟩
      case round =>
        clear HI0 HI1 HW1 HF
        obtain ⟨at', h, out, rfl, rfl, rfl, hat4, hwr, hmem, hlen, hbz, hown, hdi, hraw⟩ := hrel.out
        have HMem : Hid (h ∈ a :: R) := hmem
        have HBz : Hid (ByteZ out) := hbz
        by_cases hat : at' < s.size
        · obtain ⟨f, hf⟩ : ∃ f, s.size - at' = f + 1 := ⟨s.size - at' - 1, by omega⟩
          rw [hf, wrS, if_pos hat] at hwr
          have hI : (at' : Int) < (s.size : Int) := by omega
          have hI2 : (at' : Int) ≤ (s.size : Int) := by omega
          have hcapI : (at' : Int) ≤ (cap : Int) := by omega
          have hcapS : (s.size : Int) ≤ (cap : Int) := by omega
          have hc : ∀ i, i < s.size - at' → wr.cell? ⟨B + 1, at' + i, none⟩ = some (.int .u8 (bsT s (at' + i) : Int)) := fun i hi => hraw (at' + i) (by omega)
          have c18 := rune1_any wr (B + 1) at' (s.size - at') (cap - at') (fun i => bsT s (at' + i)) (fun i => bsT_lt _ _) (by omega) hc
          simp only [Nat.add_zero] at c18
          rw [r1_dec, hf] at c18
          have hen := enc_dec hat
          have hbr := brk_iff hat
          have hlow : bsT s at' < 128 → Utf8.decode s at' = (bsT s at', 1) := fun hb => by rw [decode_bsT]; unfold Lib.decodeN; rw [if_pos hb]
          have hdr : tz (s.data.toList.drop at') = (bsT s at' : Int) :: tz (s.data.toList.drop (at' + 1)) := drop_bsT hat
          have HDR : Hid _ := hdr
          have hown' : Hid _ := hown
          have hdi' : Hid _ := hdi
          have hraw' : Hid _ := hraw
          generalize Utf8.decode s at' = D at *
          obtain ⟨rr, nn⟩ := D
          simp only at hwr c18 hen hbr hlow
          clear hc hdr hown hdi hraw hrel hmem hbz
          by_cases hbad : ¬ bsT s at' < 128 ∧ nn < 2
          · rw [if_neg hbad.1, if_pos hbad.2] at c18
            have h65 : rr = 65533 ∧ nn = 1 := by
              rcases hen with h1 | ⟨hv, hn, ht⟩
              · exact h1
              · have h2 : (Lib.encodeRuneZ (rr : Int)).length = 1 := by have := (Lib.encodeRuneZ_length (rr : Int)).1; omega
                have h3 : rr < 128 := by
                  rcases Nat.lt_or_ge rr 128 with h | h
                  · exact h
                  · unfold Lib.encodeRuneZ at h2
                    rw [if_neg (by omega)] at h2
                    repeat' split at h2
                    all_goals simp at h2
                rw [HDR.out, Lib.encodeRuneZ_one (by omega) (by omega)] at ht
                have := (List.cons.inj ht).1
                omega
            have hpl : plainR (kdS (2 * j)) (rr : Int) = false := plain_hi (by omega)
            rw [if_neg (by rw [hpl]; decide), hbr.2 h65, Bool.or_true, if_pos rfl] at hwr
            subst hwr
            clear hen hbr hlow hpl h65 hbad
            go_wp2_with (go_at_call 18; refine Stop.mk ?_)
            refine Stop.out (c18.mono ?_)
            rintro e W5 ⟨rfl, hb5⟩
            have HD5 : Hid (DecI w B W5) := hdi'.out.on hb5
            clear hb5 c18
            go_wp2_with (first | (go_at_call 17; refine Stop.mk ?_))
            refine Stop.out ((H17.out ((at' : Nat) : Int) 88 _).mono ?_)
            rintro e W8 ⟨g, kk, rfl, g0, g1, hg, hb⟩
            have HP := refuse_post (k := kk) (c := 88) (i := at') HD5.out (by have := HBB.out; omega) g0 g1 hg hb
            obtain ⟨-, b0, b1, bf⟩ := HD5.out.on hb
            clear g0 g1 hb
            go_wp2
            obtain ⟨r0, r1⟩ := res_cells (v0 := .slice (some ⟨g, 0, none⟩) 1 kk) (v1 := .int .i64 88) b0 b1
            exact bodyPost_ret (v := .tuple #[.slice none 0 0, .agg #[.slice (some ⟨g, 0, none⟩) 1 kk, .int .i64 88]]) (by simp [results, Tryz.results6, go_sem, r0, r1]) rfl HP
          · have hD : (if bsT s at' < 128 then ((rr, nn) : Nat × Nat) else if nn < 2 then (0, 0) else (rr, nn)) = (rr, nn) := by
              by_cases h1 : bsT s at' < 128
              · rw [if_pos h1]
              · rw [if_neg h1, if_neg (fun h2 => hbad ⟨h1, h2⟩)]
            rw [hD] at c18
            simp only at c18
            have hval : Val rr ∧ nn = (Lib.encodeRuneZ (rr : Int)).length ∧ tz (s.data.toList.drop at') = Lib.encodeRuneZ (rr : Int) ++ tz (s.data.toList.drop (at' + nn)) := by
              rcases hen with ⟨h1, h2⟩ | h
              · exfalso
                by_cases h3 : bsT s at' < 128
                · have := hlow h3
                  simp only [Prod.mk.injEq] at this
                  omega
                · exact hbad ⟨h3, by omega⟩
              · exact h
            have hbk : brk (s.extract at' s.size) (rr : Int) = false := by
              cases hb : brk (s.extract at' s.size) (rr : Int) with
              | false => rfl
              | true =>
                obtain ⟨h1, h2⟩ := hbr.1 hb
                have := hval.2.1
                rw [h1, Lib.encodeRuneZ_three (by omega)] at this
                simp at this
                omega
            rw [hbk, Bool.or_false] at hwr
            have hvr : rr ≤ 1114111 := by have := hval.1; unfold Val at this; omega
            have hnl := Lib.encodeRuneZ_length (rr : Int)
            have hn4 : 1 ≤ nn ∧ nn ≤ 4 := by rw [hval.2.1]; exact hnl
            have hn0 : ((nn : Int) == 0) = false := by simp; omega
            have HVAL : Hid _ := hval
            have H19 : Hid (∀ W, Below w.heap.size w W → Calls Tryz.prog 19 #[.pointer (some ⟨p, 0, none⟩), .int .i32 (rr : Int)] W fun e w' => e = .returned (.bool (hasS a R (rr : Int))) ∧ W = w') := fun W hb => by
              have h1 := rhas_all W H p _ (namesOf (a :: R)) x (rr : Int) (HSET.out.on hb) H6.out (fun b hb => by obtain ⟨y, hy, rfl⟩ := List.mem_map.1 hb; exact HC.out.n7 y hy) (HT.out.on hb)
              rw [← has_same a R (rr : Int) HC.out.n7 (by
                cases x with
                | false => exact .inl (HC.out.x0 rfl)
                | true => exact .inr (fun b hb => by have := HC.out.x6 rfl b hb; omega))] at h1
              exact h1
            clear hen hbr hlow hbk hD hval hnl
            have c20 := fun W => ctl_any W (j : Int) rr
            have c21 := fun W => rends_any W (j : Int) rr
            by_cases hr128 : rr < 128
            · have hpl := plain_kc ⟨j, hj⟩ ⟨rr, hr128⟩
              have hke := ends_ke ⟨j, hj⟩ ⟨rr, hr128⟩
              simp only at hpl hke
              have hhs := hasS_low HC.out.n7 (show rr < 160 by omega)
              have HEND : Hid (hasR (kdS (2 * j + 1)) (rr : Int) = endS (j : Int) rr) := hke
              have hnn : nn = 1 := by rw [HVAL.out.2.1, Lib.encodeRuneZ_one (by omega) (by omega)]; rfl
              subst hnn
              rw [hpl, hhs] at hwr
              rw [hhs] at H19
              have hrI : (rr : Int) < 128 := by omega
              clear hpl hke hhs hbad
              cases hasc : asc (rr : Int) with
              | true =>
                rw [hasc] at hwr H19
                rw [Bool.true_or, if_pos rfl] at hwr
                have HWR : Hid _ := hwr
                clear hwr
                go_wp2_with (go_at_call 18; refine Stop.mk ?_)
                refine Stop.out (c18.mono ?_)
                rintro e W5 ⟨rfl, hb5⟩
                have HD5 : Hid (DecI w B W5) := hdi'.out.on hb5
                have HR5 : Hid (RawAt s (B + 1) W5) := raw_on hraw'.out hb5
                have HO5 : Hid (W5.ownsRow (B + 2) 5 1 u8 out.length (cellsZ out)) := ownsRow_below hown'.out hb5 (Nat.le_refl _)
                have c19 := H19.out W5 HD5.out.b
                have hB5 : B + 2 ≤ W5.heap.size := by have := cell_lt (HR5.out at' hat); simp only at this; omega
                clear hb5 c18 H19
                go_wp2_with (first | (go_at_call 19; refine c19.mono ?_; rintro e W9 ⟨rfl, rfl⟩) | (at_builtin; refine Stop.mk ?_))
                refine Stop.out (wpList_append_own _ rfl (.tmp 111) (.tmp 114) 27 rfl (B + 2) 5 i0 _ 1 1 Tryz.underlying27 hi hz0 hz1 hz2 rfl (by decide) u8 out.length (cellsZ out) rfl (World.ownsRow.alloc HO5.out _) ⟨W5.heap.size, 0, none⟩ 1 1 [.int .u8 (rr : Int)] rfl rfl ?_ ?_ ?_ ?_ ?_ ?_)
                · exact cell_one_new _ _ _
                · intro z hz; simp at hz; subst hz; rfl
                · unfold maxLen; omega
                · omega
                · simp; omega
                · intro v6 W6 hown6 hg6 _
                  have HO6 : Hid (W6.ownsRow (B + 2) 5 1 v6 (out ++ [(rr : Int)]).length (cellsZ (out ++ [(rr : Int)]))) := own_app hown6
                  have hal : Below W5.heap.size W5 (W5.alloc (.cells #[.int .u8 (rr : Int)] 5)) := (Below.refl _ _).alloc (Nat.le_refl _) _
                  have HD6 : Hid (DecI w B W6) := (HD5.out.on hal).grown hg6 (fun r e => by have := (World.ownsRow.lt HO5.out r e).1; have := HBB.out; omega)
                  have HR6 : Hid (RawAt s (B + 1) W6) := raw_grown (raw_on HR5.out hal) hg6 (fun e => by have := (World.ownsRow.lt HO5.out _ e).1; omega)
                  have HZ6 : Hid (ByteZ (out ++ [(rr : Int)])) := HBz.out.app (fun z hz => by simp at hz; omega)
                  have HL6 : Hid ((out ++ [(rr : Int)]).length ≤ 4 * (at' + 1)) := by show _ ≤ _; rw [List.length_append, List.length_singleton]; omega
                  obtain ⟨y0, y2⟩ := HSC.out W6 HD6.out.b
                  clear hown6 hg6 hal
                  cases hend : endS (j : Int) rr with
                  | true =>
                    rw [hend] at c21
                    have hen2 := HEND.out
                    rw [hend] at hen2
                    go_wp2_with (first | (go_at_call 21; refine (c21 _).mono ?_; rintro e W9 ⟨rfl, rfl⟩))
                    go_roundg (s.size - (at' + 1))
                    case measure => omega
                    case rel => exact ⟨at' + 1, a, out ++ [(rr : Int)], by simp, rfl, rfl, by omega, by rw [← HWR.out, if_pos hen2]; exact wrS_fuel _ _ _ _ _ _ _ _ _ _ _ (by omega) (by omega), List.mem_cons_self, HL6.out, HZ6.out, HO6.out, HD6.out, HR6.out⟩
                  | false =>
                    rw [hend] at c21
                    have hen2 := HEND.out
                    rw [hend] at hen2
                    go_wp2_with (first | (go_at_call 21; refine (c21 _).mono ?_; rintro e W9 ⟨rfl, rfl⟩))
                    go_roundg (s.size - (at' + 1))
                    case measure => omega
                    case rel => exact ⟨at' + 1, h, out ++ [(rr : Int)], by simp, rfl, rfl, by omega, by rw [← HWR.out, if_neg (by rw [hen2]; decide)]; exact wrS_fuel _ _ _ _ _ _ _ _ _ _ _ (by omega) (by omega), HMem.out, HL6.out, HZ6.out, HO6.out, HD6.out, HR6.out⟩
              | false =>
                rw [hasc] at hwr H19
                rw [Bool.false_or] at hwr
                by_cases hr32 : rr < 32
                · have hr32I : (rr : Int) < 32 := by omega
                  cases hctl : ctlS (j : Int) rr with
                  | true =>
                    rw [hctl] at c20
                    rw [hctl, decide_eq_true hr32, Bool.and_true, if_pos rfl] at hwr
                    have HWR : Hid _ := hwr
                    clear hwr
                    go_wp2_with (go_at_call 18; refine Stop.mk ?_)
                    refine Stop.out (c18.mono ?_)
                    rintro e W5 ⟨rfl, hb5⟩
                    have HD5 : Hid (DecI w B W5) := hdi'.out.on hb5
                    have HR5 : Hid (RawAt s (B + 1) W5) := raw_on hraw'.out hb5
                    have HO5 : Hid (W5.ownsRow (B + 2) 5 1 u8 out.length (cellsZ out)) := ownsRow_below hown'.out hb5 (Nat.le_refl _)
                    have c19 := H19.out W5 HD5.out.b
                    have hB5 : B + 2 ≤ W5.heap.size := by have := cell_lt (HR5.out at' hat); simp only at this; omega
                    clear hb5 c18 H19
                    go_wp2_with (first | (go_at_call 19; refine c19.mono ?_; rintro e W9 ⟨rfl, rfl⟩) | (go_at_call 20; refine (c20 _).mono ?_; rintro e W9 ⟨rfl, rfl⟩) | (at_builtin; refine Stop.mk ?_))
                    refine Stop.out (wpList_append_own _ rfl (.tmp 111) (.tmp 114) 27 rfl (B + 2) 5 i0 _ 1 1 Tryz.underlying27 hi hz0 hz1 hz2 rfl (by decide) u8 out.length (cellsZ out) rfl (World.ownsRow.alloc HO5.out _) ⟨W5.heap.size, 0, none⟩ 1 1 [.int .u8 (rr : Int)] rfl rfl ?_ ?_ ?_ ?_ ?_ ?_)
                    · exact cell_one_new _ _ _
                    · intro z hz; simp at hz; subst hz; rfl
                    · unfold maxLen; omega
                    · omega
                    · simp; omega
                    · intro v6 W6 hown6 hg6 _
                      have HO6 : Hid (W6.ownsRow (B + 2) 5 1 v6 (out ++ [(rr : Int)]).length (cellsZ (out ++ [(rr : Int)]))) := own_app hown6
                      have hal : Below W5.heap.size W5 (W5.alloc (.cells #[.int .u8 (rr : Int)] 5)) := (Below.refl _ _).alloc (Nat.le_refl _) _
                      have HD6 : Hid (DecI w B W6) := (HD5.out.on hal).grown hg6 (fun r e => by have := (World.ownsRow.lt HO5.out r e).1; have := HBB.out; omega)
                      have HR6 : Hid (RawAt s (B + 1) W6) := raw_grown (raw_on HR5.out hal) hg6 (fun e => by have := (World.ownsRow.lt HO5.out _ e).1; omega)
                      have HZ6 : Hid (ByteZ (out ++ [(rr : Int)])) := HBz.out.app (fun z hz => by simp at hz; omega)
                      have HL6 : Hid ((out ++ [(rr : Int)]).length ≤ 4 * (at' + 1)) := by show _ ≤ _; rw [List.length_append, List.length_singleton]; omega
                      obtain ⟨y0, y2⟩ := HSC.out W6 HD6.out.b
                      clear hown6 hg6 hal
                      cases hend : endS (j : Int) rr with
                      | true =>
                        rw [hend] at c21
                        have hen2 := HEND.out
                        rw [hend] at hen2
                        go_wp2_with (first | (go_at_call 21; refine (c21 _).mono ?_; rintro e W9 ⟨rfl, rfl⟩))
                        go_roundg (s.size - (at' + 1))
                        case measure => omega
                        case rel => exact ⟨at' + 1, a, out ++ [(rr : Int)], by simp, rfl, rfl, by omega, by rw [← HWR.out, if_pos hen2]; exact wrS_fuel _ _ _ _ _ _ _ _ _ _ _ (by omega) (by omega), List.mem_cons_self, HL6.out, HZ6.out, HO6.out, HD6.out, HR6.out⟩
                      | false =>
                        rw [hend] at c21
                        have hen2 := HEND.out
                        rw [hend] at hen2
                        go_wp2_with (first | (go_at_call 21; refine (c21 _).mono ?_; rintro e W9 ⟨rfl, rfl⟩))
                        go_roundg (s.size - (at' + 1))
                        case measure => omega
                        case rel => exact ⟨at' + 1, h, out ++ [(rr : Int)], by simp, rfl, rfl, by omega, by rw [← HWR.out, if_neg (by rw [hen2]; decide)]; exact wrS_fuel _ _ _ _ _ _ _ _ _ _ _ (by omega) (by omega), HMem.out, HL6.out, HZ6.out, HO6.out, HD6.out, HR6.out⟩
                  | false =>
                    rw [hctl] at c20
                    rw [hctl, Bool.and_false, if_neg (by decide), if_pos (by decide)] at hwr
                    subst hwr
                    go_wp2_with (go_at_call 18; refine Stop.mk ?_)
                    refine Stop.out (c18.mono ?_)
                    rintro e W5 ⟨rfl, hb5⟩
                    have HD5 : Hid (DecI w B W5) := hdi'.out.on hb5
                    have c19 := H19.out W5 HD5.out.b
                    clear hb5 c18 H19
                    go_wp2_with (first | (go_at_call 19; refine c19.mono ?_; rintro e W9 ⟨rfl, rfl⟩) | (go_at_call 20; refine (c20 _).mono ?_; rintro e W9 ⟨rfl, rfl⟩) | (go_at_call 17; refine Stop.mk ?_))
                    refine Stop.out ((H17.out ((at' : Nat) : Int) 88 _).mono ?_)
                    rintro e W8 ⟨g, kk, rfl, g0, g1, hg, hb⟩
                    have HP := refuse_post (k := kk) (c := 88) (i := at') HD5.out (by have := HBB.out; omega) g0 g1 hg hb
                    obtain ⟨-, b0, b1, bf⟩ := HD5.out.on hb
                    clear g0 g1 hb
                    go_wp2
                    obtain ⟨r0, r1⟩ := res_cells (v0 := .slice (some ⟨g, 0, none⟩) 1 kk) (v1 := .int .i64 88) b0 b1
                    exact bodyPost_ret (v := .tuple #[.slice none 0 0, .agg #[.slice (some ⟨g, 0, none⟩) 1 kk, .int .i64 88]]) (by simp [results, Tryz.results6, go_sem, r0, r1]) rfl HP
                · have hr32I : ¬ (rr : Int) < 32 := by omega
                  rw [decide_eq_false hr32, Bool.false_and, if_neg (by decide), if_pos (by decide)] at hwr
                  subst hwr
                  go_wp2_with (go_at_call 18; refine Stop.mk ?_)
                  refine Stop.out (c18.mono ?_)
                  rintro e W5 ⟨rfl, hb5⟩
                  have HD5 : Hid (DecI w B W5) := hdi'.out.on hb5
                  have c19 := H19.out W5 HD5.out.b
                  clear hb5 c18 H19
                  go_wp2_with (first | (go_at_call 19; refine c19.mono ?_; rintro e W9 ⟨rfl, rfl⟩) | (go_at_call 17; refine Stop.mk ?_))
                  refine Stop.out ((H17.out ((at' : Nat) : Int) 88 _).mono ?_)
                  rintro e W8 ⟨g, kk, rfl, g0, g1, hg, hb⟩
                  have HP := refuse_post (k := kk) (c := 88) (i := at') HD5.out (by have := HBB.out; omega) g0 g1 hg hb
                  obtain ⟨-, b0, b1, bf⟩ := HD5.out.on hb
                  clear g0 g1 hb
                  go_wp2
                  obtain ⟨r0, r1⟩ := res_cells (v0 := .slice (some ⟨g, 0, none⟩) 1 kk) (v1 := .int .i64 88) b0 b1
                  exact bodyPost_ret (v := .tuple #[.slice none 0 0, .agg #[.slice (some ⟨g, 0, none⟩) 1 kk, .int .i64 88]]) (by simp [results, Tryz.results6, go_sem, r0, r1]) rfl HP
            · have hpl : plainR (kdS (2 * j)) (rr : Int) = false := plain_hi (by omega)
              rw [if_neg (by rw [hpl]; decide)] at hwr
              have hrI : ¬ (rr : Int) < 128 := by omega
              have hr32I : ¬ (rr : Int) < 32 := by omega
              cases hhas : hasS a R (rr : Int) with
              | false =>
                rw [hhas] at hwr H19
                rw [if_pos (by decide)] at hwr
                subst hwr
                clear hpl hbad
                go_wp2_with (go_at_call 18; refine Stop.mk ?_)
                refine Stop.out (c18.mono ?_)
                rintro e W5 ⟨rfl, hb5⟩
                have HD5 : Hid (DecI w B W5) := hdi'.out.on hb5
                have HR5 : Hid (RawAt s (B + 1) W5) := raw_on hraw'.out hb5
                have HO5 : Hid (W5.ownsRow (B + 2) 5 1 u8 out.length (cellsZ out)) := ownsRow_below hown'.out hb5 (Nat.le_refl _)
                have c19 := H19.out W5 HD5.out.b
                have hB5 : B + 2 ≤ W5.heap.size := by have := cell_lt (HR5.out at' hat); simp only at this; omega
                obtain ⟨y0, y2⟩ := HSC.out W5 HD5.out.b
                clear hb5 c18 H19
                go_wp2_with (first | (go_at_call 19; refine c19.mono ?_; rintro e W9 ⟨rfl, rfl⟩) | (go_at_call 17; refine Stop.mk ?_))
                refine Stop.out ((H17.out ((at' : Nat) : Int) 88 _).mono ?_)
                rintro e W8 ⟨g, kk, rfl, g0, g1, hg, hb⟩
                have HP := refuse_post (k := kk) (c := 88) (i := at') HD5.out (by have := HBB.out; omega) g0 g1 hg hb
                obtain ⟨-, b0, b1, bf⟩ := HD5.out.on hb
                clear g0 g1 hb
                go_wp2
                obtain ⟨r0, r1⟩ := res_cells (v0 := .slice (some ⟨g, 0, none⟩) 1 kk) (v1 := .int .i64 88) b0 b1
                exact bodyPost_ret (v := .tuple #[.slice none 0 0, .agg #[.slice (some ⟨g, 0, none⟩) 1 kk, .int .i64 88]]) (by simp [results, Tryz.results6, go_sem, r0, r1]) rfl HP
              | true =>
                rw [hhas] at hwr H19
                rw [if_neg (by decide)] at hwr
                obtain ⟨h160, hasc, -⟩ := hi_of HC.out.n7 (by rw [hpl]; decide) (.inr ⟨hhas, HVAL.out.1⟩)
                have hrep := repN_six ⟨a.1, HC.out.n7 a (by simp)⟩
                simp only at hrep
                have hnS : at' + nn ≤ s.size := by
                  obtain ⟨q, hq⟩ : ∃ q, nn = q + 1 := ⟨nn - 1, by omega⟩
                  have h1 : q < (Lib.encodeRuneZ (rr : Int)).length := by rw [← HVAL.out.2.1]; omega
                  have := (at_drop (i := q) HVAL.out.2.2 (by rw [List.getElem?_append_left h1]; exact List.getElem?_eq_getElem h1)).2
                  omega
                have hnI : (at' : Int) + (nn : Int) ≤ (cap : Int) := by omega
                have HHAS : Hid _ := hhas
                have HASC : Hid _ := hasc
                clear hpl hbad hhas hasc
                by_cases h6 : a.1 = 6
                · have hP : Pz a R h (rr : Int) = (Lib.encodeRuneZ (rr : Int), h) := by unfold Pz; rw [if_pos h6]
                  rw [hP] at hwr
                  rw [h6] at hrep
                  have hre : ((repN a.1 : Int) == 192) = true := by rw [h6]; exact hrep
                  have HWR : Hid _ := hwr
                  obtain ⟨rn, hrn⟩ : ∃ rn, repN a.1 = rn := ⟨_, rfl⟩
                  rw [hrn] at HSC hre
                  obtain ⟨ho, hho⟩ : ∃ ho, repN h.1 = ho := ⟨_, rfl⟩
                  rw [hho]
                  have HHO : Hid _ := hho
                  clear hwr hP hrep hrn hho h6
                  go_wp2_with (go_at_call 18; refine Stop.mk ?_)
                  refine Stop.out (c18.mono ?_)
                  rintro e W5 ⟨rfl, hb5⟩
                  have HD5 : Hid (DecI w B W5) := hdi'.out.on hb5
                  have HR5 : Hid (RawAt s (B + 1) W5) := raw_on hraw'.out hb5
                  have HO5 : Hid (W5.ownsRow (B + 2) 5 1 u8 out.length (cellsZ out)) := ownsRow_below hown'.out hb5 (Nat.le_refl _)
                  have c19 := H19.out W5 HD5.out.b
                  have hB5 : B + 2 ≤ W5.heap.size := by have := cell_lt (HR5.out at' hat); simp only at this; omega
                  obtain ⟨y0, y2⟩ := HSC.out W5 HD5.out.b
                  clear hb5 c18 H19
                  go_wp2_with (first | (go_at_call 19; refine c19.mono ?_; rintro e W9 ⟨rfl, rfl⟩) | (at_builtin; refine Stop.mk ?_))
                  refine Stop.out (wpList_append_own _ rfl (.tmp 134) (.tmp 140) 27 rfl (B + 2) 5 i0 _ 1 1 Tryz.underlying27 hi hz0 hz1 hz2 rfl (by decide) u8 out.length (cellsZ out) rfl HO5.out ⟨B + 1, at', none⟩ nn (cap - at') (cellsZ (Lib.encodeRuneZ (rr : Int))) (by simp [Act.eval]) ?_ ?_ ?_ ?_ ?_ ?_ ?_)
                  · rw [Nat.mul_one, HVAL.out.2.1]; unfold cellsZ; rw [List.length_map]
                  · intro jj u hu
                    unfold cellsZ at hu
                    rw [List.getElem?_map] at hu
                    obtain ⟨z, hz, rfl⟩ := Option.map_eq_some_iff.1 hu
                    obtain ⟨e1, e2⟩ := at_drop (i := jj) HVAL.out.2.2 (by rw [List.getElem?_append_left (List.getElem?_eq_some_iff.1 hz).1]; exact hz)
                    rw [add_at, HR5.out (at' + jj) e2, e1]
                  · intro z hz
                    unfold cellsZ at hz
                    obtain ⟨y, -, rfl⟩ := List.mem_map.1 hz
                    rfl
                  · unfold maxLen; omega
                  · omega
                  · omega
                  · intro v6 W6 hown6 hg6 _
                    have hown6' : W6.ownsRow (B + 2) 5 1 v6 (out ++ Lib.encodeRuneZ (rr : Int)).length (cellsZ (out ++ Lib.encodeRuneZ (rr : Int))) := own_app (by rw [← HVAL.out.2.1]; exact hown6)
                    have HO6 : Hid _ := hown6'
                    have HD6 : Hid (DecI w B W6) := HD5.out.grown hg6 (fun r e => by have := (World.ownsRow.lt HO5.out r e).1; have := HBB.out; omega)
                    have HR6 : Hid (RawAt s (B + 1) W6) := raw_grown HR5.out hg6 (fun e => by have := (World.ownsRow.lt HO5.out _ e).1; omega)
                    have HZ6 : Hid (ByteZ (out ++ Lib.encodeRuneZ (rr : Int))) := HBz.out.app (Lib.encodeRuneZ_byte _)
                    have HL6 : Hid ((out ++ Lib.encodeRuneZ (rr : Int)).length ≤ 4 * (at' + nn)) := by show _ ≤ _; rw [List.length_append, ← HVAL.out.2.1]; omega
                    clear hown6 hg6 hown6'
                    go_wp2
                    go_roundg (s.size - (at' + nn))
                    case measure => omega
                    case rel => exact ⟨at' + nn, h, out ++ Lib.encodeRuneZ (rr : Int), by simp, by rw [HHO.out], rfl, by omega, by rw [← HWR.out]; exact wrS_fuel _ _ _ _ _ _ _ _ _ _ _ (by omega) (by omega), HMem.out, HL6.out, HZ6.out, HO6.out, HD6.out, HR6.out⟩
                · have hre : ((repN a.1 : Int) == 192) = false := by rw [hrep]; simpa using h6
                  have H22 : Hid (∀ W, Below w.heap.size w W → ∀ b ∈ a :: R, Calls Tryz.prog 22 #[.int .i64 (repN b.1 : Nat), .int .i32 (rr : Int)] W fun e w' => e = .returned (.int .u8 (byteOf b.1 (rr : Int) : Nat)) ∧ W = w') := fun W hb b hbm => by
                    have := writes_any W b.1 (HC.out.n7 b hbm) (rr : Int) (HT.out.on hb)
                    rw [writes_eq (HC.out.n7 b hbm) (by omega)] at this
                    exact this
                  obtain ⟨rn, hrn⟩ : ∃ rn, repN a.1 = rn := ⟨_, rfl⟩
                  rw [hrn] at HSC hre
                  clear hrep hrn
                  by_cases hb : byteOf h.1 (rr : Int) ≠ 0
                  · have hP : Pz a R h (rr : Int) = ([(byteOf h.1 (rr : Int) : Int)], h) := by unfold Pz; rw [if_neg h6, if_pos hb]
                    rw [hP] at hwr
                    have HWR : Hid _ := hwr
                    have h22 := fun W hW => H22.out W hW h HMem.out
                    have hbl := byte_lt h.1 (rr : Int)
                    obtain ⟨bb, hbb⟩ : ∃ bb, byteOf h.1 (rr : Int) = bb := ⟨_, rfl⟩
                    rw [hbb] at h22 hb hbl HWR
                    obtain ⟨ho, hho⟩ : ∃ ho, repN h.1 = ho := ⟨_, rfl⟩
                    rw [hho] at h22 ⊢
                    have HHO : Hid _ := hho
                    have H22b : Hid _ := h22
                    have hb0 : ((bb : Int) == 0) = false := by simp; omega
                    clear hwr hP hho h6 hbb h22 H22
                    go_wp2_with (go_at_call 18; refine Stop.mk ?_)
                    refine Stop.out (c18.mono ?_)
                    rintro e W5 ⟨rfl, hb5⟩
                    have HD5 : Hid (DecI w B W5) := hdi'.out.on hb5
                    have HR5 : Hid (RawAt s (B + 1) W5) := raw_on hraw'.out hb5
                    have HO5 : Hid (W5.ownsRow (B + 2) 5 1 u8 out.length (cellsZ out)) := ownsRow_below hown'.out hb5 (Nat.le_refl _)
                    have c19 := H19.out W5 HD5.out.b
                    have hB5 : B + 2 ≤ W5.heap.size := by have := cell_lt (HR5.out at' hat); simp only at this; omega
                    obtain ⟨y0, y2⟩ := HSC.out W5 HD5.out.b
                    have c22 := H22b.out W5 HD5.out.b
                    clear hb5 c18 H19
                    go_wp2_with (first | (go_at_call 19; refine c19.mono ?_; rintro e W9 ⟨rfl, rfl⟩) | (go_at_call 22; refine c22.mono ?_; rintro e W9 ⟨rfl, rfl⟩) | (at_builtin; refine Stop.mk ?_))
                    refine Stop.out (wpList_append_own _ rfl (.tmp 102) (.tmp 106) 27 rfl (B + 2) 5 i0 _ 1 1 Tryz.underlying27 hi hz0 hz1 hz2 rfl (by decide) u8 out.length (cellsZ out) rfl (World.ownsRow.alloc HO5.out _) ⟨W5.heap.size, 0, none⟩ 1 1 [.int .u8 (bb : Int)] rfl rfl ?_ ?_ ?_ ?_ ?_ ?_)
                    · exact cell_one_new _ _ _
                    · intro z hz; simp at hz; subst hz; rfl
                    · unfold maxLen; omega
                    · omega
                    · simp; omega
                    · intro v6 W6 hown6 hg6 _
                      have HO6 : Hid (W6.ownsRow (B + 2) 5 1 v6 (out ++ [(bb : Int)]).length (cellsZ (out ++ [(bb : Int)]))) := own_app hown6
                      have hal : Below W5.heap.size W5 (W5.alloc (.cells #[.int .u8 (bb : Int)] 5)) := (Below.refl _ _).alloc (Nat.le_refl _) _
                      have HD6 : Hid (DecI w B W6) := (HD5.out.on hal).grown hg6 (fun r e => by have := (World.ownsRow.lt HO5.out r e).1; have := HBB.out; omega)
                      have HR6 : Hid (RawAt s (B + 1) W6) := raw_grown (raw_on HR5.out hal) hg6 (fun e => by have := (World.ownsRow.lt HO5.out _ e).1; omega)
                      have HZ6 : Hid (ByteZ (out ++ [(bb : Int)])) := HBz.out.app (fun z hz => by simp at hz; omega)
                      have HL6 : Hid ((out ++ [(bb : Int)]).length ≤ 4 * (at' + nn)) := by show _ ≤ _; rw [List.length_append, List.length_singleton]; omega
                      clear hown6 hg6 hal
                      go_wp2
                      go_roundg (s.size - (at' + nn))
                      case measure => omega
                      case rel => exact ⟨at' + nn, h, out ++ [(bb : Int)], by simp, by rw [HHO.out], rfl, by omega, by rw [← HWR.out]; exact wrS_fuel _ _ _ _ _ _ _ _ _ _ _ (by omega) (by omega), HMem.out, HL6.out, HZ6.out, HO6.out, HD6.out, HR6.out⟩
                  · have hb0 : byteOf h.1 (rr : Int) = 0 := by omega
                    obtain ⟨b, hbm, hfd, hbb⟩ := hasS_first h6 HASC.out HHAS.out
                    have hP : Pz a R h (rr : Int) = (escZ b (rr : Int), b) := by unfold Pz; rw [if_neg h6, if_neg hb, hfd]
                    rw [hP] at hwr
                    have HWR : Hid _ := hwr
                    have hb6 : b.1 < 6 ∧ b.1 ≠ 0 := by
                      have h7 := HC.out.n7 b hbm
                      obtain ⟨d, _, h2, _, _⟩ := byteOf_at hbb
                      refine ⟨?_, ?_⟩
                      · rcases Nat.lt_or_ge b.1 6 with h | h
                        · exact h
                        · have : b.1 = 6 := by omega
                          rw [this] at h2
                          exact absurd rfl h2
                      · intro e
                        rw [e] at h2
                        exact h2 rfl
                    have hez : escZ b (rr : Int) = [27, 45, (finN b.1 : Int), (byteOf b.1 (rr : Int) : Int)] := by
                      unfold escZ
                      rw [esc_fin ⟨b.1, hb6.1⟩ hb6.2]
                      rfl
                    rw [hez] at HWR
                    have hsr : srch (rr : Int) (a :: R) h = b := by unfold srch; rw [hfd]; rfl
                    have h22h := fun W hW => H22.out W hW h HMem.out
                    rw [hb0] at h22h
                    have h22b := fun W hW => H22.out W hW b hbm
                    have hbl := byte_lt b.1 (rr : Int)
                    have hfl := fin_lt ⟨b.1, by omega⟩
                    simp only at hfl
                    have c23 := fun W => final_any W b.1 (by omega)
                    obtain ⟨bb, hbbe⟩ : ∃ bb, byteOf b.1 (rr : Int) = bb := ⟨_, rfl⟩
                    obtain ⟨fb, hfb⟩ : ∃ fb, finN b.1 = fb := ⟨_, rfl⟩
                    rw [hbbe] at h22b hbl HWR
                    rw [hfb] at c23 hfl HWR
                    obtain ⟨ho, hho⟩ : ∃ ho, repN h.1 = ho := ⟨_, rfl⟩
                    rw [hho] at h22h ⊢
                    have HHO : Hid _ := hho
                    have HSR : Hid _ := hsr
                    have HBM : Hid _ := hbm
                    have H22b : Hid _ := h22b
                    have H22h : Hid _ := h22h
                    have H23 : Hid _ := c23
                    have HCEL : Hid (∀ W, Below w.heap.size w W → ∀ (q : Nat) (d : Row), (a :: R)[q]? = some d → W.cell? ⟨gg, q, none⟩ = some (.int .i64 (repN d.1 : Nat))) := fun W hW q d hq => by
                      obtain ⟨g2, e2, -, hc2⟩ := HSET.out.cell q (d.1, d.2.1) (by unfold namesOf; rw [List.getElem?_map, hq]; rfl)
                      cases e2
                      exact (hW.cell (p := ⟨gg, q, none⟩) (cell_lt hc2)).trans hc2
                    clear hwr hP hho h6 hbbe hfb h22b h22h hez hb6 hfd hb0 hb hbb hsr c23 hbm
                    go_wp2_with (go_at_call 18; refine Stop.mk ?_)
                    refine Stop.out (c18.mono ?_)
                    rintro e W5 ⟨rfl, hb5⟩
                    have HD5 : Hid (DecI w B W5) := hdi'.out.on hb5
                    have HR5 : Hid (RawAt s (B + 1) W5) := raw_on hraw'.out hb5
                    have HO5 : Hid (W5.ownsRow (B + 2) 5 1 u8 out.length (cellsZ out)) := ownsRow_below hown'.out hb5 (Nat.le_refl _)
                    have c19 := H19.out W5 HD5.out.b
                    have hB5 : B + 2 ≤ W5.heap.size := by have := cell_lt (HR5.out at' hat); simp only at this; omega
                    obtain ⟨y0, y2⟩ := HSC.out W5 HD5.out.b
                    have c22 := H22h.out W5 HD5.out.b
                    clear hb5 c18 H19
                    go_wp2_with (first | (go_at_call 19; refine c19.mono ?_; rintro e W9 ⟨rfl, rfl⟩) | (go_at_call 22; refine c22.mono ?_; rintro e W9 ⟨rfl, rfl⟩))
                    go_loopg [9, 14] n (fun g s9 s14 wx => Hid (SrI W5 a R h (rr : Int) n g s9 s14 wx))
                    case atStart =>
                      refine ⟨rfl, Nat.le_refl _, ?_, .inr ⟨n - 1, by omega, ?_⟩⟩
                      · rw [List.drop_eq_nil_of_le (by rw [← HNN.out, names_len]; exact Nat.le_refl _)]
                        show _ = Value.int .i64 ((repN h.1 : Nat) : Int)
                        rw [HHO.out]
                      · have hn6 : n ≤ 6 := by have := H6.out; rw [HNN.out] at this; exact this
                        rw [w64 (by omega) (by omega)]
                        congr 1; omega
                    case round =>
                      obtain ⟨rfl, hqn, rfl, hs14⟩ := hrel.out
                      rcases hs14 with ⟨rfl, rfl⟩ | ⟨q, rfl, rfl⟩
                      · rw [List.drop_zero, HSR.out]
                        obtain ⟨hob, hhob⟩ : ∃ hob, repN b.1 = hob := ⟨_, rfl⟩
                        have c23 := H23.out wr
                        have c22b := H22b.out wr HD5.out.b
                        rw [hhob] at c23 c22b ⊢
                        have HHOB : Hid _ := hhob
                        clear hhob hrel
                        go_wp2_with (first | (go_at_call 23; refine c23.mono ?_; rintro e W9 ⟨rfl, rfl⟩) | (at_builtin; refine Stop.mk ?_))
                        refine Stop.out (wpList_append_own _ rfl (.tmp 97) (.tmp 100) 27 rfl (B + 2) 5 i0 _ 1 1 Tryz.underlying27 hi hz0 hz1 hz2 rfl (by decide) u8 out.length (cellsZ out) rfl (World.ownsRow.alloc HO5.out _) ⟨wr.heap.size, 0, none⟩ 3 3 [.int .u8 27, .int .u8 45, .int .u8 (fb : Int)] rfl rfl ?_ ?_ ?_ ?_ ?_ ?_)
                        · intro jj u hu
                          rw [add_at, Nat.zero_add]
                          match jj, hu with
                          | 0, hu => simp at hu; subst hu; simp
                          | 1, hu => simp at hu; subst hu; simp
                          | 2, hu => simp at hu; subst hu; simp
                        · intro z hz; simp at hz; rcases hz with rfl | rfl | rfl <;> rfl
                        · unfold maxLen; omega
                        · omega
                        · simp; omega
                        · intro v6 W6 hown6 hg6 _
                          have HO6 : Hid (W6.ownsRow (B + 2) 5 1 v6 (out ++ [27, 45, (fb : Int)]).length (cellsZ (out ++ [27, 45, (fb : Int)]))) := own_app hown6
                          have hal : Below wr.heap.size wr (wr.alloc (.cells #[.int .u8 27, .int .u8 45, .int .u8 (fb : Int)] 5)) := (Below.refl _ _).alloc (Nat.le_refl _) _
                          have HD6 : Hid (DecI w B W6) := (HD5.out.on hal).grown hg6 (fun r e => by have := (World.ownsRow.lt HO5.out r e).1; have := HBB.out; omega)
                          have HR6 : Hid (RawAt s (B + 1) W6) := raw_grown (raw_on HR5.out hal) hg6 (fun e => by have := (World.ownsRow.lt HO5.out _ e).1; omega)
                          have hB6 : B + 2 ≤ W6.heap.size := by have := hg6.size; simp at this; omega
                          have c22c := H22b.out W6 HD6.out.b
                          rw [HHOB.out] at c22c
                          clear hown6 hg6 hal c22b c23
                          go_wp2_with (first | (go_at_call 22; refine c22c.mono ?_; rintro e W9 ⟨rfl, rfl⟩) | (at_builtin; refine Stop.mk ?_))
                          refine Stop.out (wpList_append_own _ rfl (.tmp 102) (.tmp 106) 27 rfl (B + 2) 5 i0 _ 1 1 Tryz.underlying27 hi hz0 hz1 hz2 rfl (by decide) v6 (out ++ [27, 45, (fb : Int)]).length (cellsZ (out ++ [27, 45, (fb : Int)])) rfl (World.ownsRow.alloc HO6.out _) ⟨W6.heap.size, 0, none⟩ 1 1 [.int .u8 (bb : Int)] rfl rfl ?_ ?_ ?_ ?_ ?_ ?_)
                          · exact cell_one_new _ _ _
                          · intro z hz; simp at hz; subst hz; rfl
                          · unfold maxLen; rw [List.length_append]; simp; omega
                          · rw [List.length_append]; simp; omega
                          · simp; omega
                          · intro v7 W7 hown7 hg7 _
                            have hcat : out ++ [27, 45, (fb : Int)] ++ [(bb : Int)] = out ++ [27, 45, (fb : Int), (bb : Int)] := by simp
                            have ho7 := own_app (L := [(bb : Int)]) hown7
                            rw [hcat] at ho7
                            have HO7 : Hid _ := ho7
                            have hal : Below W6.heap.size W6 (W6.alloc (.cells #[.int .u8 (bb : Int)] 5)) := (Below.refl _ _).alloc (Nat.le_refl _) _
                            have HD7 : Hid (DecI w B W7) := (HD6.out.on hal).grown hg7 (fun r e => by have := (World.ownsRow.lt HO6.out r e).1; have := HBB.out; omega)
                            have HR7 : Hid (RawAt s (B + 1) W7) := raw_grown (raw_on HR6.out hal) hg7 (fun e => by have := (World.ownsRow.lt HO6.out _ e).1; omega)
                            have HZ7 : Hid (ByteZ (out ++ [27, 45, (fb : Int), (bb : Int)])) := HBz.out.app (fun z hz => by simp at hz; omega)
                            have HL7 : Hid ((out ++ [27, 45, (fb : Int), (bb : Int)]).length ≤ 4 * (at' + nn)) := by show _ ≤ _; rw [List.length_append]; simp; omega
                            clear hown7 hg7 hal ho7 hcat c22c
                            go_wp2
                            go_roundg (s.size - (at' + nn))
                            case measure => omega
                            case rel => exact ⟨at' + nn, b, out ++ [27, 45, (fb : Int), (bb : Int)], by simp, by rw [HHOB.out], rfl, by omega, by rw [← HWR.out]; exact wrS_fuel _ _ _ _ _ _ _ _ _ _ _ (by omega) (by omega), HBM.out, HL7.out, HZ7.out, HO7.out, HD7.out, HR7.out⟩
                      · have hql : q < (a :: R).length := by have := HNN.out; rw [names_len] at this; omega
                        obtain ⟨d, hd⟩ : ∃ d, (a :: R)[q]? = some d := ⟨_, List.getElem?_eq_getElem hql⟩
                        have hcd := HCEL.out wr HD5.out.b q d hd
                        have hcw := H22.out wr HD5.out.b d (List.mem_of_getElem? hd)
                        have HST : Hid _ := srch_step (r := (rr : Int)) (h := h) hd
                        obtain ⟨bd, hbd⟩ : ∃ bd, byteOf d.1 (rr : Int) = bd := ⟨_, rfl⟩
                        rw [hbd] at hcw HST
                        obtain ⟨hdd, hhd⟩ : ∃ hdd, repN d.1 = hdd := ⟨_, rfl⟩
                        rw [hhd] at hcw hcd
                        have HHD : Hid _ := hhd
                        have hqI : (q : Int) < (n : Int) := by omega
                        have hwq : wrap64 ((q : Int) - 1) = (q : Int) - 1 := by
                          have := H6.out
                          rw [HNN.out] at this
                          exact w64 (by omega) (by omega)
                        clear hd hbd hhd hrel
                        by_cases hbd0 : bd = 0
                        · have HST2 : Hid (srch (rr : Int) ((a :: R).drop q) h = srch (rr : Int) ((a :: R).drop (q + 1)) h) := by have := HST.out; rw [if_pos hbd0] at this; exact this
                          subst hbd0
                          go_wp2_with (first | (go_at_call 22; refine hcw.mono ?_; rintro e W9 ⟨rfl, rfl⟩))
                          go_roundg q
                          case measure => omega
                          case rel =>
                            refine ⟨rfl, by omega, by rw [HST2.out]; rfl, ?_⟩
                            rw [hwq]
                            cases q with
                            | zero => exact .inl ⟨rfl, rfl⟩
                            | succ q => exact .inr ⟨q, rfl, by congr 1; omega⟩
                        · have HST2 : Hid (srch (rr : Int) ((a :: R).drop q) h = d) := by have := HST.out; rw [if_neg hbd0] at this; exact this
                          have hbdn : ((bd : Int) != 0) = true := by simp; omega
                          go_wp2_with (first | (go_at_call 22; refine hcw.mono ?_; rintro e W9 ⟨rfl, rfl⟩))
                          go_roundg q
                          case measure => omega
                          case rel =>
                            refine ⟨rfl, by omega, by rw [HST2.out, HHD.out], ?_⟩
                            rw [hwq]
                            cases q with
                            | zero => exact .inl ⟨rfl, rfl⟩
                            | succ q => exact .inr ⟨q, rfl, by congr 1; omega⟩
        · rw [wrS_past _ _ _ a R s _ at' h out (by omega)] at hwr
          subst hwr
          have hI : ¬ (at' : Int) < (s.size : Int) := by omega
          obtain ⟨ua, uc, rfl⟩ := own_val hown
          have HO5 : Hid _ := hown
          have HD5 : Hid _ := hdi
          clear hown hbz hmem HSET H6 HC HT hrel hdi hraw
          show Code.wp _ _ _ _ _
          by_cases hL : 65534 < out.length
          · have e : dcEnd (.ok out) = .error (65534, 85) := by simp only [dcEnd]; rw [if_pos hL]
            have HE : Hid _ := e
            have hLI : (65534 : Int) < (out.length : Int) := by omega
            clear e
            go_wp2_with (go_at_call 17; refine Stop.mk ?_)
            refine Stop.out ((H17.out ((65534 : Nat) : Int) 85 _).mono ?_)
            rintro e W8 ⟨g, kk, rfl, g0, g1, hg, hb⟩
            have HP := refuse_post (k := kk) (c := 85) (i := 65534) HD5.out (by have := HBB.out; omega) g0 g1 hg hb
            obtain ⟨-, b0, b1, bf⟩ := HD5.out.on hb
            clear g0 g1 hb
            go_wp2
            obtain ⟨r0, r1⟩ := res_cells (v0 := .slice (some ⟨g, 0, none⟩) 1 kk) (v1 := .int .i64 85) b0 b1
            exact bodyPost_ret (v := .tuple #[.slice none 0 0, .agg #[.slice (some ⟨g, 0, none⟩) 1 kk, .int .i64 85]]) (by simp [results, Tryz.results6, go_sem, r0, r1]) rfl (by rw [HE.out]; exact HP)
          · have e : dcEnd (.ok out) = .ok out := by simp only [dcEnd]; rw [if_neg hL]
            have HE : Hid _ := e
            have hLI : ¬ (65534 : Int) < (out.length : Int) := by omega
            clear e
            go_wp2_with (go_at_call 24; refine Stop.mk ?_)
            refine Stop.out ((none_any _).mono ?_)
            rintro e W9 ⟨rfl, hb9⟩
            obtain ⟨x9, x0, x1, xf⟩ := HD5.out.on hb9
            have X9 : Hid _ := x9
            have HO9 : Hid (W9.ownsRow (B + 2) 5 1 (.slice ua out.length uc) out.length (cellsZ out)) := ownsRow_below HO5.out hb9 (Nat.le_refl _)
            clear x9 hb9
            obtain ⟨r0, r1⟩ := res_cells (v0 := .slice none 0 0) (v1 := .int .i64 0) x0 x1
            have HBx : Hid (Below w.heap.size w ((W9.setCell ⟨B, 0, none⟩ (.slice none 0 0)).setCell ⟨B, 1, none⟩ (.int .i64 0))) := (X9.out.setCell (p := ⟨B, 0, none⟩) (by have := HBB.out; simp; omega) _).setCell (p := ⟨B, 1, none⟩) (by have := HBB.out; simp; omega) _
            have HOx : Hid (((W9.setCell ⟨B, 0, none⟩ (.slice none 0 0)).setCell ⟨B, 1, none⟩ (.int .i64 0)).ownsRow (B + 2) 5 1 (.slice ua out.length uc) out.length (cellsZ out)) := ownsRow_setCell_below (ownsRow_setCell_below HO9.out (by simp) _) (by simp) _
            go_wp2
            exact bodyPost_ret (v := .tuple #[.slice ua out.length uc, .agg #[.slice none 0 0, .int .i64 0]]) (by simp [results, Tryz.results6, go_sem, r0, r1]) rfl (by rw [HE.out]; exact ⟨HBx.out, _, rfl, own_low HOx.out (by have := HBB.out; omega), HBz.out⟩)
end Go.Proofs.YtegfgbcimlacbaaGreatDoor
