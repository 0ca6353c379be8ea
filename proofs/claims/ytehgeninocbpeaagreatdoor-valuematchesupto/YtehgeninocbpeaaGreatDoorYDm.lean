import Derived.Test.YtehgeninocbpeaaGreatDoorYDj
import Derived.Deep.Cut
namespace Go.Proofs.YtehgeninocbpeaaGreatDoor.Nu
open Go Go.Proofs Go.RowKit NumLine
theorem dg_n1 (s : ByteArray) (h : s.size ≤ 16) : cnt s (n0 s) 16 = n1 s := cnt_more _ _ _ _ (by omega) (by omega)
theorem dg_n3 (s : ByteArray) (h : s.size ≤ 16) : cnt s (n2 s) 16 = n3 s := cnt_more _ _ _ _ (by omega) (by omega)
theorem dg_n6 (s : ByteArray) (h : s.size ≤ 16) : cnt s (n5 s) 16 = n6 s := cnt_more _ _ _ _ (by omega) (by omega)
theorem isE_sg (s : ByteArray) : isE s = sg s (n2 s + n3 s) 69 101 := by
  unfold isE sg tk
  by_cases h : nx s (n2 s + n3 s) false = 69 ∨ nx s (n2 s + n3 s) false = 101
  · rw [if_pos h, decide_eq_true h]; exact decide_eq_true (by omega)
  · rw [if_neg h, decide_eq_false h]; exact decide_eq_false (by omega)
theorem n4_E (s : ByteArray) : n4 s = if isE s = true then n2 s + n3 s + 1 else n2 s + n3 s := by
  unfold n4
  rw [tP_sg, isE_sg]
theorem n2_dot (s : ByteArray) : n2 s = if decide (nx s (n0 s + n1 s) false = 46) = true then n0 s + n1 s + 1 else n0 s + n1 s := by
  unfold n2 dP
  by_cases h : nx s (n0 s + n1 s) false = 46
  · rw [if_pos h, if_pos (decide_eq_true h)]
  · rw [if_neg h, if_neg (by simpa using h)]
theorem n3_no (s : ByteArray) (h : n2 s = n0 s + n1 s) : n3 s = 0 := by
  unfold n3
  rw [h]
  exact cnt_not (cnt_stop s s.size (n0 s) (by omega)) _
theorem neg_at (s : ByteArray) (a c : Nat) (h : a < s.size) (hc : s[a].toNat = c) : decide (tk s a 43 45 = 45) = decide (c = 45) := by
  apply decide_eq_decide.2
  unfold tk
  rw [nx_at h hc]
  split
  · exact Iff.rfl
  · rename_i hn
    constructor
    · intro q; omega
    · intro q; exact absurd (.inr q) hn
theorem neg_no (s : ByteArray) (a : Nat) (h : sg s a 43 45 = false) : decide (tk s a 43 45 = 45) = false := by
  unfold sg at h
  have h1 := of_decide_eq_false h
  unfold tk
  rw [if_neg h1]
  rfl
theorem sg_lt (s : ByteArray) (a : Nat) (h : sg s a 43 45 = true) : a < s.size := by
  apply Decidable.byContradiction
  intro hn
  rw [sg_no hn (by decide) (by decide)] at h
  cases h
theorem str_empty {U : ByteArray} (h : U.size = 0) : U = ⟨#[]⟩ := by
  cases U with
  | mk d => exact congrArg _ (Array.eq_empty_of_size_eq_zero h)
theorem str_some {U : ByteArray} (h : U.size ≠ 0) : U.toList.isEmpty = false ∧ (U.toList == []) = false := by
  rw [ByteArray.toList_eq]
  cases hd : U.data.toList with
  | nil =>
    refine absurd ?_ h
    show U.data.size = 0
    rw [← Array.length_toList, hd]
    rfl
  | cons a l => exact ⟨rfl, rfl⟩
set_option maxRecDepth 100000 in
set_option maxHeartbeats 16000000 in
theorem rparse_short (w : World) (s : ByteArray) (h : s.size ≤ 16) : Calls Tryz.prog 34 #[.string s] w (PostRM w s) := by
  have hI : ¬ ((16 : Int) < (s.size : Int)) := by omega
  obtain ⟨W0, hW0⟩ : ∃ W0, (w.alloc (.cells #[.bool false, .int .u64 0, .int .i64 0] 73)).alloc (.cells #[.slice none 0 0, .int .i64 0] 35) = W0 := ⟨_, rfl⟩
  have HN : Hid (NC w W0) := hW0 ▸ NC.start w
  have hp0 := n0_le s
  have hc1 := n1_le s
  have hp2 := n2_le s
  have hc3 := n3_le s
  have h12 := n01_2 s
  have d1 := digits32_any W0 s (n0 s) 16 hp0 (by omega) (by omega)
  have d3 := digits32_any W0 s (n2 s) 16 hp2 (by omega) (by omega)
  rw [dg_n1 s h] at d1
  rw [dg_n3 s h] at d3
  have HQ0 : Hid (n0 s = if sg s 0 43 45 = true then 0 + 1 else 0) := tP_sg s 0 43 45
  have HQ2 : Hid _ := n2_dot s
  have HQ3 : Hid (n2 s = n0 s + n1 s → n3 s = 0) := n3_no s
  have HUd : Hid (Digs (nD s)) := nD_digs s
  have hUs := nD_size s
  have HUe : Hid (nD s = s.extract (n0 s) (n0 s + n1 s) ++ s.extract (n2 s) (n2 s + n3 s)) := rfl
  have HnB : Hid (nB s = decide (n1 s + n3 s < 1)) := rfl
  have HiE : Hid (isE s = sg s (n2 s + n3 s) 69 101) := isE_sg s
  have Hn4 : Hid (n4 s = if isE s = true then n2 s + n3 s + 1 else n2 s + n3 s) := n4_E s
  have HX : Hid (nX s = if isE s = true then -(n3 s : Int) + whV s (n4 s) else -(n3 s : Int)) := rfl
  have HEnd : Hid (nEnd s = if nB s = true then n2 s + n3 s else if isE s = true then n5 s + n6 s else n4 s) := rfl
  obtain ⟨p0, ep0⟩ : ∃ x, n0 s = x := ⟨_, rfl⟩
  obtain ⟨c1, ec1⟩ : ∃ x, n1 s = x := ⟨_, rfl⟩
  obtain ⟨p2, ep2⟩ : ∃ x, n2 s = x := ⟨_, rfl⟩
  obtain ⟨c3, ec3⟩ : ∃ x, n3 s = x := ⟨_, rfl⟩
  obtain ⟨U, eU⟩ : ∃ x, nD s = x := ⟨_, rfl⟩
  rw [ep0] at hp0 hc1 h12 d1 HQ0 HQ2 HQ3 HUe
  rw [ec1] at hc1 h12 d1 HQ2 HQ3 hUs HUe HnB
  rw [ep2] at hp2 hc3 h12 d3 HQ2 HQ3 HUe HiE Hn4 HEnd
  rw [ec3] at hc3 d3 HQ3 hUs HUe HnB HiE Hn4 HX HEnd
  rw [eU] at HUd hUs HUe
  have EU : Hid (nD s = U) := eU
  have EC3 : Hid (n3 s = c3) := ec3
  have EP2 : Hid (n2 s = p2) := ep2
  have HUs : Hid (U.size = c1 + c3) := hUs
  have hU16 : U.size ≤ 16 := by omega
  clear ep0 ec1 ep2 ec3 eU hUs
  obtain ⟨ng, eng⟩ : ∃ x, nNeg s = x := ⟨_, rfl⟩
  have HNg : Hid (decide (tk s 0 43 45 = 45) = ng) := eng
  have ENg : Hid (nNeg s = ng) := eng
  clear eng
  obtain ⟨b0, eb0⟩ : ∃ b, sg s 0 43 45 = b := ⟨_, rfl⟩
  have HB : Hid (sg s 0 43 45 = b0) := eb0
  rw [eb0] at HQ0
  clear eb0
  go_enter Tryz.func34, Tryz.ntmps34
  go_upto_region 5 with fail
  go_cut [33] from 13 (fun s33 wx => s33 = .bool b0 ∧ wx = W0)
  case first =>
    as_aux_lemma =>
      clear HN hW0 d1 d3
      by_cases hl : 0 < s.size
      · have hlI : (0 : Int) < (s.size : Int) := by omega
        have hlI2 : decide ((0 : Int) < (s.size : Int)) = true := decide_eq_true hlI
        have hlI3 : decide (0 < s.size) = true := decide_eq_true hl
        obtain ⟨c, hc⟩ : ∃ c, s[0].toNat = c := ⟨_, rfl⟩
        by_cases hx : c = 43
        · have e1 : ((c : Int) == 43) = true := by rw [hx]; rfl
          obtain rfl : b0 = true := HB.out.symm.trans (by rw [sg_at hl hc]; exact decide_eq_true (.inl hx))
          clear hx
          go_wp2
          go_meet
          case rel => exact ⟨by first | rfl | simp, rfl⟩
        · have e1 : ((c : Int) == 43) = false := by simpa using (by omega : ¬ (c : Int) = 43)
          by_cases hy : c = 45
          · have e2 : ((c : Int) == 45) = true := by rw [hy]; rfl
            obtain rfl : b0 = true := HB.out.symm.trans (by rw [sg_at hl hc]; exact decide_eq_true (.inr hy))
            clear hx hy
            go_wp2
            go_meet
            case rel => exact ⟨by first | rfl | simp, rfl⟩
          · have e2 : ((c : Int) == 45) = false := by simpa using (by omega : ¬ (c : Int) = 45)
            obtain rfl : b0 = false := HB.out.symm.trans (by rw [sg_at hl hc]; exact decide_eq_false (fun q => q.elim hx hy))
            clear hx hy
            go_wp2
            go_meet
            case rel => exact ⟨by first | rfl | simp, rfl⟩
      · obtain rfl : b0 = false := HB.out.symm.trans (sg_no hl (by decide) (by decide))
        have hlI2 : decide ((0 : Int) < (s.size : Int)) = false := decide_eq_false (by omega)
        have hlI3 : decide (0 < s.size) = false := decide_eq_false hl
        have hlI4 : ¬ ((0 : Int) < (s.size : Int)) := by omega
        go_wp2
        go_meet
        case rel => exact ⟨by first | rfl | simp, rfl⟩
  case rest =>
    obtain ⟨rfl, rfl⟩ := hcut
    go_upto_if 33 with fail
    go_cut [4, 5] from 13 (fun s4 s5 wx => s4 = .int .i64 (p0 : Int) ∧ s5 = .bool ng ∧ wx = wc)
    case first =>
      as_aux_lemma =>
        clear HN hW0 d1 d3
        cases b0 with
        | true =>
          have hq := HQ0.out
          rw [if_pos rfl] at hq
          have hl := sg_lt s 0 HB.out
          have hlI : (0 : Int) < (s.size : Int) := by omega
          obtain ⟨c, hc⟩ : ∃ c, s[0].toNat = c := ⟨_, rfl⟩
          have hn := HNg.out.symm.trans (neg_at s 0 c hl hc)
          subst hq
          by_cases h45 : c = 45
          · have e1 : ((c : Int) == 45) = true := by rw [h45]; rfl
            rw [decide_eq_true h45] at hn
            subst hn
            clear h45
            go_wp2
            go_meet
            case rel => exact ⟨by first | rfl | simp, by first | rfl | simp, rfl⟩
          · have e1 : ((c : Int) == 45) = false := by simpa using (by omega : ¬ (c : Int) = 45)
            rw [decide_eq_false h45] at hn
            subst hn
            clear h45
            go_wp2
            go_meet
            case rel => exact ⟨by first | rfl | simp, by first | rfl | simp, rfl⟩
        | false =>
          have hq := HQ0.out
          rw [if_neg (by decide)] at hq
          have hn := HNg.out.symm.trans (neg_no s 0 HB.out)
          subst hq hn
          go_wp2
          go_meet
          case rel => exact ⟨by first | rfl | simp, by first | rfl | simp, rfl⟩
    case rest =>
      obtain ⟨rfl, rfl, rfl⟩ := hcut
      clear HB HNg HQ0
      go_wp2_with (go_at_call 56; refine Stop.mk ?_)
      refine Stop.out (d1.mono ?_)
      rintro e W1 ⟨rfl, rfl⟩
      clear d1
      obtain ⟨b1, eb1⟩ : ∃ b, decide (nx s (p0 + c1) false = 46) = b := ⟨_, rfl⟩
      have HB : Hid (decide (nx s (p0 + c1) false = 46) = b1) := eb1
      rw [eb1] at HQ2
      clear eb1
      obtain ⟨p1, ep1⟩ : ∃ x, p0 + c1 = x := ⟨_, rfl⟩
      have EP1 : Hid (p0 + c1 = p1) := ep1
      have ep1I : (p0 : Int) + (c1 : Int) = (p1 : Int) := by omega
      rw [ep1] at hc1 h12 HQ2 HQ3 HUe HB
      have b01 : (p0 : Int) ≤ (p1 : Int) := by omega
      have b02 : (p1 : Int) ≤ (s.size : Int) := by omega
      clear ep1
      obtain ⟨u1, eu1⟩ : ∃ x, s.extract p0 p1 = x := ⟨_, rfl⟩
      rw [eu1] at HUe
      have zu1 : u1.size ≤ 16 := by rw [← eu1, ByteArray.size_extract]; omega
      go_upto_region 12 with fail
      go_cut [61] from 13 (fun s61 wx => s61 = .bool b1 ∧ wx = wc)
      case first =>
        as_aux_lemma =>
          clear HN hW0 d3
          by_cases hl : p1 < s.size
          · have hlI : ((p1 : Nat) : Int) < (s.size : Int) := by omega
            have hlI2 : decide (((p1 : Nat) : Int) < (s.size : Int)) = true := decide_eq_true hlI
            have hlI3 : decide (p1 < s.size) = true := decide_eq_true hl
            obtain ⟨c, hc⟩ : ∃ c, s[p1].toNat = c := ⟨_, rfl⟩
            by_cases hx : c = 46
            · have e1 : ((c : Int) == 46) = true := by rw [hx]; rfl
              obtain rfl : b1 = true := HB.out.symm.trans (by rw [nx_at hl hc]; exact decide_eq_true hx)
              clear hx
              go_wp2
              go_meet
              case rel => exact ⟨by first | rfl | simp, rfl⟩
            · have e1 : ((c : Int) == 46) = false := by simpa using (by omega : ¬ (c : Int) = 46)
              obtain rfl : b1 = false := HB.out.symm.trans (by rw [nx_at hl hc]; exact decide_eq_false hx)
              clear hx
              go_wp2
              go_meet
              case rel => exact ⟨by first | rfl | simp, rfl⟩
          · obtain rfl : b1 = false := HB.out.symm.trans (by unfold nx; rw [if_pos (.inr hl)]; rfl)
            have hlI2 : decide (((p1 : Nat) : Int) < (s.size : Int)) = false := decide_eq_false (by omega)
            have hlI3 : decide (p1 < s.size) = false := decide_eq_false hl
            have hlI4 : ¬ (((p1 : Nat) : Int) < (s.size : Int)) := by omega
            go_wp2
            go_meet
            case rel => exact ⟨by first | rfl | simp, rfl⟩
      case rest =>
        obtain ⟨rfl, rfl⟩ := hcut
        clear HB
        obtain ⟨p3, ep3⟩ : ∃ x, p2 + c3 = x := ⟨_, rfl⟩
        have ep3I : (p2 : Int) + (c3 : Int) = (p3 : Int) := by omega
        have EP3 : Hid (p2 + c3 = p3) := ep3
        rw [ep3] at hc3 HUe HiE Hn4 HEnd
        clear ep3
        go_upto_if 61 with fail
        go_cut [4, 7, 8] from 13 (fun s4 s7 s8 wx => s4 = .int .i64 (p3 : Int) ∧ s7 = .string U ∧ s8 = .int .i64 (-(c3 : Int)) ∧ wx = wc)
        case first =>
          as_aux_lemma =>
            clear HN hW0
            cases b1 with
            | true =>
              have hq := HQ2.out
              rw [if_pos rfl] at hq
              have hqI : (p1 : Int) + 1 = (p2 : Int) := by omega
              have c20 : (p2 : Int) ≤ (p3 : Int) := by have := EP3.out; omega
              have c21 : (p3 : Int) ≤ (s.size : Int) := by omega
              obtain ⟨u2, eu2⟩ : ∃ x, s.extract p2 p3 = x := ⟨_, rfl⟩
              have hU2 := HUe.out
              rw [eu2] at hU2
              have zu2 : u2.size ≤ 16 := by rw [← eu2, ByteArray.size_extract]; omega
              have hU3 : u1 ++ u2 = U := hU2.symm
              have hc16 : c3 ≤ 16 := by have := EP3.out; omega
              clear hq hU2 HUe HQ3
              go_wp2_with (go_at_call 56; refine Stop.mk ?_)
              refine Stop.out (d3.mono ?_)
              rintro e W1 ⟨rfl, rfl⟩
              clear d3
              go_wp2
              go_meet
              case rel => exact ⟨by first | rfl | simp, by first | rfl | (rw [hU3]), by first | rfl | simp, rfl⟩
            | false =>
              have hq := HQ2.out
              rw [if_neg (by decide)] at hq
              have hz := HQ3.out hq
              subst hq hz
              have hp3 := EP3.out
              rw [Nat.add_zero] at hp3
              subst hp3
              have hU2 := HUe.out
              have hzz : s.extract p2 p2 = ⟨#[]⟩ := str_empty (by rw [ByteArray.size_extract]; omega)
              have huu : u1 = U := by
                rw [hU2, hzz]
                exact (ByteArray.append_empty).symm
              subst huu
              clear d3 hU2 hzz HUe
              go_wp2
              go_meet
              case rel => exact ⟨by first | rfl | simp, by first | rfl | simp, by first | rfl | simp, rfl⟩
        case rest =>
          obtain ⟨rfl, rfl, rfl, rfl⟩ := hcut
          clear HQ2 HQ3 HUe d3 eu1 zu1
          have b33 : (p3 : Int) ≤ (s.size : Int) := by omega
          have hc16 : c3 ≤ 16 := by have := EP3.out; omega
          by_cases hB : c1 + c3 < 1
          · have hUe : U = ⟨#[]⟩ := str_empty (by rw [HUs.out]; omega)
            have hnb : nB s = true := HnB.out.trans (decide_eq_true hB)
            have hEn : nEnd s = p3 := by rw [HEnd.out, if_pos hnb]
            subst hUe
            clear hB HX Hn4 HiE HUd HUs EU
            have c31 := no_any (p3 : Int) 100 wc
            have HM : Hid (PM s ⟨false, 0, 0⟩ (some ((p3 : Int), 100))) := .inr ⟨fun hh => (by have := hh.2.1; unfold nBad at this; rw [hnb] at this; cases this), rfl, by unfold erN; rw [if_pos h, hEn]⟩
            go_wp2_with (go_at_call 31; refine Stop.mk ?_)
            refine Stop.out (c31.mono ?_)
            rintro e W1 ⟨v, rfl, hv, hb⟩
            have N1 := HN.out.on hb
            have HV : Hid (RErr W1 v (some ((p3 : Int), 100))) := hv
            obtain ⟨g, k, rfl, _, _⟩ := hv
            obtain ⟨z0, z1, z2, zff, a0, a1, af, r0, r1, r2, q0, q1, q2, q3⟩ := putNF_all N1 ⟨false, 0, 0⟩ (.slice (some ⟨g, 0, none⟩) 1 k) (.int .i64 100) rfl
            have HB3 : Hid _ := q3
            have HV2 : Hid (RErr _ _ _) := q2 HV.out
            have HP : Hid _ := And.intro r0 (And.intro r1 (And.intro r2 (And.intro q0 q1)))
            clear hb c31 N1 hW0 HN HV q3 r0 r1 r2 q0 q1 q2
            go_wp2
            obtain ⟨r0, r1, r2, q0, q1⟩ := HP.out
            unfold putNF putF put3 at *
            dsimp only at *
            rw [show ((0 : Nat) : Int) = 0 from rfl] at *
            refine bodyPost_ret (v := .tuple #[nv ⟨false, 0, 0⟩, .agg #[.slice (some ⟨g, 0, none⟩) 1 k, .int .i64 100]]) (by simp [results, Tryz.results34, go_sem, nv, r0, r1, r2, q0, q1]) rfl ⟨_, _, _, rfl, HV2.out, HM.out, HB3.out⟩
          · have hnb : nB s = false := HnB.out.trans (decide_eq_false hB)
            obtain ⟨hUe, hUe2⟩ := str_some (U := U) (by rw [HUs.out]; omega)
            have HNb : Hid (nB s = false) := hnb
            obtain ⟨b2, eb2⟩ : ∃ b, sg s p3 69 101 = b := ⟨_, rfl⟩
            have HB : Hid (sg s p3 69 101 = b2) := eb2
            have HiE2 : Hid (isE s = b2) := HiE.out.trans eb2
            clear eb2 HiE hnb
            rw [HiE2.out] at Hn4 HX HEnd
            go_upto_region 20 with fail
            go_cut [100] from 13 (fun s100 wx => s100 = .bool b2 ∧ wx = wc)
            case first =>
              as_aux_lemma =>
                clear HN hW0
                by_cases hl : p3 < s.size
                · have hlI : ((p3 : Nat) : Int) < (s.size : Int) := by omega
                  have hlI2 : decide (((p3 : Nat) : Int) < (s.size : Int)) = true := decide_eq_true hlI
                  have hlI3 : decide (p3 < s.size) = true := decide_eq_true hl
                  obtain ⟨c, hc⟩ : ∃ c, s[p3].toNat = c := ⟨_, rfl⟩
                  by_cases hx : c = 69
                  · have e1 : ((c : Int) == 69) = true := by rw [hx]; rfl
                    obtain rfl : b2 = true := HB.out.symm.trans (by rw [sg_at hl hc]; exact decide_eq_true (.inl hx))
                    clear hx
                    go_wp2
                    go_meet
                    case rel => exact ⟨by first | rfl | simp, rfl⟩
                  · have e1 : ((c : Int) == 69) = false := by simpa using (by omega : ¬ (c : Int) = 69)
                    by_cases hy : c = 101
                    · have e2 : ((c : Int) == 101) = true := by rw [hy]; rfl
                      obtain rfl : b2 = true := HB.out.symm.trans (by rw [sg_at hl hc]; exact decide_eq_true (.inr hy))
                      clear hx hy
                      go_wp2
                      go_meet
                      case rel => exact ⟨by first | rfl | simp, rfl⟩
                    · have e2 : ((c : Int) == 101) = false := by simpa using (by omega : ¬ (c : Int) = 101)
                      obtain rfl : b2 = false := HB.out.symm.trans (by rw [sg_at hl hc]; exact decide_eq_false (fun q => q.elim hx hy))
                      clear hx hy
                      go_wp2
                      go_meet
                      case rel => exact ⟨by first | rfl | simp, rfl⟩
                · obtain rfl : b2 = false := HB.out.symm.trans (sg_no hl (by decide) (by decide))
                  have hlI2 : decide (((p3 : Nat) : Int) < (s.size : Int)) = false := decide_eq_false (by omega)
                  have hlI3 : decide (p3 < s.size) = false := decide_eq_false hl
                  have hlI4 : ¬ (((p3 : Nat) : Int) < (s.size : Int)) := by omega
                  go_wp2
                  go_meet
                  case rel => exact ⟨by first | rfl | simp, rfl⟩
            case rest =>
              obtain ⟨rfl, rfl⟩ := hcut
              clear HB
              obtain ⟨pe, epe⟩ : ∃ x, nEnd s = x := ⟨_, rfl⟩
              obtain ⟨X, eX⟩ : ∃ x, nX s = x := ⟨_, rfl⟩
              rw [epe] at HEnd
              rw [eX] at HX
              have EPE : Hid (nEnd s = pe) := epe
              have EX : Hid (nX s = X) := eX
              clear epe eX
              rw [if_neg (by rw [HNb.out]; decide)] at HEnd
              go_upto_if 100 with fail
              go_cut [4, 8] from 13 (fun s4 s8 wx => s4 = .int .i64 (pe : Int) ∧ s8 = .int .i64 X ∧ wx = wc ∧ pe ≤ 16 ∧ -100000000000000000 ≤ X ∧ X ≤ 100000000000000000 ∧ Hid (nBad s = false))
              case first =>
                as_aux_lemma =>
                  cases b2 with
                  | false =>
                    rw [if_neg (by decide)] at HEnd Hn4 HX
                    have hq1 := HEnd.out.trans Hn4.out
                    have hq2 := HX.out
                    subst hq1 hq2
                    have HNB : Hid (nBad s = false) := by show _ = _; unfold nBad; rw [HNb.out, HiE2.out]; rfl
                    clear HN hW0
                    go_wp2
                    go_meet
                    case rel => exact ⟨by first | rfl | simp, by first | rfl | simp, rfl, by omega, by omega, by omega, HNB⟩
                  | true =>
                    rw [if_pos rfl] at HEnd Hn4 HX
                    have hw := whV_lt s h (n4 s)
                    have h4 := n4_le s
                    have h5 := n5_le s
                    have h6 := n6_le s
                    have d6 := digits32_any wc s (n5 s) 16 h5 (by omega) (by omega)
                    rw [dg_n6 s h] at d6
                    have HWv : Hid (whV s (n4 s) = if tk s (n4 s) 43 45 = 45 then -((val (s.extract (n5 s) (n5 s + n6 s)).data.toList : Nat) : Int) else ((val (s.extract (n5 s) (n5 s + n6 s)).data.toList : Nat) : Int)) := rfl
                    have HQ5 : Hid (n5 s = if sg s (n4 s) 43 45 = true then n4 s + 1 else n4 s) := tP_sg s (n4 s) 43 45
                    have hdg := digs_ext s (n5 s) (n6 s) s.size (Nat.le_refl _)
                    have hzz : (s.extract (n5 s) (n5 s + n6 s)).size ≤ 18 := by rw [ByteArray.size_extract]; omega
                    have c33 := number33_any wc (s.extract (n5 s) (n5 s + n6 s)) hdg hzz
                    have hlt := valN_lt (s.extract (n5 s) (n5 s + n6 s)).data.toList 0 hdg
                    have hlt2 : (s.extract (n5 s) (n5 s + n6 s)).data.toList.length ≤ 16 := by rw [Array.length_toList]; show (s.extract (n5 s) (n5 s + n6 s)).size ≤ 16; rw [ByteArray.size_extract]; omega
                    have hlt3 : 10 ^ (s.extract (n5 s) (n5 s + n6 s)).data.toList.length ≤ 10 ^ 16 := Nat.pow_le_pow_right (by decide) hlt2
                    have hN12 : val (s.extract (n5 s) (n5 s + n6 s)).data.toList ≤ 10000000000000000 := by unfold val; omega
                    have HBd : Hid (nBad s = decide (n6 s < 1)) := by show _ = _; unfold nBad; rw [HNb.out, HiE2.out]; simp
                    obtain ⟨p4, ep4⟩ : ∃ x, n4 s = x := ⟨_, rfl⟩
                    obtain ⟨p5, ep5⟩ : ∃ x, n5 s = x := ⟨_, rfl⟩
                    obtain ⟨c6, ec6⟩ : ∃ x, n6 s = x := ⟨_, rfl⟩
                    rw [ep4] at h4 hw HWv HQ5 Hn4 HX
                    rw [ep5] at h5 h6 d6 HWv HQ5 c33 hN12 HEnd
                    rw [ec6] at h6 d6 HWv c33 hN12 HEnd HBd
                    have EP4 : Hid (n4 s = p4) := ep4
                    obtain ⟨N, eN⟩ : ∃ x, val (s.extract p5 (p5 + c6)).data.toList = x := ⟨_, rfl⟩
                    rw [eN] at HWv c33 hN12
                    obtain ⟨V, eV⟩ : ∃ x, whV s p4 = x := ⟨_, rfl⟩
                    rw [eV] at hw HWv HX
                    obtain ⟨hw1, hw2⟩ := hw
                    clear ep4 ep5 ec6 hdg hzz hlt hlt2 hlt3 eN eV
                    have e4I : (p3 : Int) + 1 = (p4 : Int) := by have := Hn4.out; omega
                    obtain ⟨b3, eb3⟩ : ∃ b, sg s p4 43 45 = b := ⟨_, rfl⟩
                    have HB : Hid (sg s p4 43 45 = b3) := eb3
                    rw [eb3] at HQ5
                    clear eb3
                    obtain ⟨ng2, eng2⟩ : ∃ x, decide (tk s p4 43 45 = 45) = x := ⟨_, rfl⟩
                    have HNg : Hid (decide (tk s p4 43 45 = 45) = ng2) := eng2
                    clear eng2
                    go_upto_region 23 with fail
                    go_cut [118] from 13 (fun s118 wx => s118 = .bool b3 ∧ wx = wc)
                    case first =>
                      as_aux_lemma =>
                        clear HN hW0 d6 c33 e4I
                        by_cases hl : p4 < s.size
                        · have hlI : ((p4 : Nat) : Int) < (s.size : Int) := by omega
                          have hlI2 : decide (((p4 : Nat) : Int) < (s.size : Int)) = true := decide_eq_true hlI
                          have hlI3 : decide (p4 < s.size) = true := decide_eq_true hl
                          obtain ⟨c, hc⟩ : ∃ c, s[p4].toNat = c := ⟨_, rfl⟩
                          by_cases hx : c = 43
                          · have e1 : ((c : Int) == 43) = true := by rw [hx]; rfl
                            obtain rfl : b3 = true := HB.out.symm.trans (by rw [sg_at hl hc]; exact decide_eq_true (.inl hx))
                            clear hx
                            go_wp2
                            go_meet
                            case rel => exact ⟨by first | rfl | simp, rfl⟩
                          · have e1 : ((c : Int) == 43) = false := by simpa using (by omega : ¬ (c : Int) = 43)
                            by_cases hy : c = 45
                            · have e2 : ((c : Int) == 45) = true := by rw [hy]; rfl
                              obtain rfl : b3 = true := HB.out.symm.trans (by rw [sg_at hl hc]; exact decide_eq_true (.inr hy))
                              clear hx hy
                              go_wp2
                              go_meet
                              case rel => exact ⟨by first | rfl | simp, rfl⟩
                            · have e2 : ((c : Int) == 45) = false := by simpa using (by omega : ¬ (c : Int) = 45)
                              obtain rfl : b3 = false := HB.out.symm.trans (by rw [sg_at hl hc]; exact decide_eq_false (fun q => q.elim hx hy))
                              clear hx hy
                              go_wp2
                              go_meet
                              case rel => exact ⟨by first | rfl | simp, rfl⟩
                        · obtain rfl : b3 = false := HB.out.symm.trans (sg_no hl (by decide) (by decide))
                          have hlI2 : decide (((p4 : Nat) : Int) < (s.size : Int)) = false := decide_eq_false (by omega)
                          have hlI3 : decide (p4 < s.size) = false := decide_eq_false hl
                          have hlI4 : ¬ (((p4 : Nat) : Int) < (s.size : Int)) := by omega
                          go_wp2
                          go_meet
                          case rel => exact ⟨by first | rfl | simp, rfl⟩
                    case rest =>
                      obtain ⟨rfl, rfl⟩ := hcut
                      go_upto_if 118 with fail
                      go_cut [4, 10] from 13 (fun s4 s10 wx => s4 = .int .i64 (p5 : Int) ∧ s10 = .bool ng2 ∧ wx = wc)
                      case first =>
                        as_aux_lemma =>
                          clear HN hW0 d6 c33 e4I
                          cases b3 with
                          | true =>
                            have hq := HQ5.out
                            rw [if_pos rfl] at hq
                            have hl := sg_lt s p4 HB.out
                            have hlI : (p4 : Int) < (s.size : Int) := by omega
                            obtain ⟨c, hc⟩ : ∃ c, s[p4].toNat = c := ⟨_, rfl⟩
                            have hn := HNg.out.symm.trans (neg_at s p4 c hl hc)
                            subst hq
                            by_cases h45 : c = 45
                            · have e1 : ((c : Int) == 45) = true := by rw [h45]; rfl
                              rw [decide_eq_true h45] at hn
                              subst hn
                              clear h45
                              go_wp2
                              go_meet
                              case rel => exact ⟨by first | rfl | simp, by first | rfl | simp, rfl⟩
                            · have e1 : ((c : Int) == 45) = false := by simpa using (by omega : ¬ (c : Int) = 45)
                              rw [decide_eq_false h45] at hn
                              subst hn
                              clear h45
                              go_wp2
                              go_meet
                              case rel => exact ⟨by first | rfl | simp, by first | rfl | simp, rfl⟩
                          | false =>
                            have hq := HQ5.out
                            rw [if_neg (by decide)] at hq
                            have hn := HNg.out.symm.trans (neg_no s p4 HB.out)
                            subst hq hn
                            go_wp2
                            go_meet
                            case rel => exact ⟨by first | rfl | simp, by first | rfl | simp, rfl⟩
                      case rest =>
                        obtain ⟨rfl, rfl, rfl⟩ := hcut
                        clear e4I
                        go_wp2_with (go_at_call 56; refine Stop.mk ?_)
                        refine Stop.out (d6.mono ?_)
                        rintro e W1 ⟨rfl, rfl⟩
                        clear d6
                        by_cases hc6 : c6 < 1
                        · have hpe : pe = p5 := by have := HEnd.out; omega
                          have hc0 : c6 = 0 := by omega
                          have hbad : nBad s = true := HBd.out.trans (decide_eq_true hc6)
                          have hen := EPE.out.trans hpe
                          subst hc0
                          clear hc6 c33 HBd HX HWv HQ5 HEnd
                          rw [show ((0 : Nat) : Int) = 0 from rfl]
                          have c31 := no_any (p5 : Int) 100 wc
                          have HM : Hid (PM s ⟨false, 0, 0⟩ (some ((p5 : Int), 100))) := .inr ⟨fun hh => (by have := hh.2.1; rw [hbad] at this; cases this), rfl, by unfold erN; rw [if_pos h, hen]⟩
                          go_wp2_with (go_at_call 31; refine Stop.mk ?_)
                          refine Stop.out (c31.mono ?_)
                          rintro e W1 ⟨v, rfl, hv, hb⟩
                          have N1 := HN.out.on hb
                          have HV : Hid (RErr W1 v (some ((p5 : Int), 100))) := hv
                          obtain ⟨g, k, rfl, _, _⟩ := hv
                          obtain ⟨z0, z1, z2, zff, a0, a1, af, r0, r1, r2, q0, q1, q2, q3⟩ := putNF_all N1 ⟨false, 0, 0⟩ (.slice (some ⟨g, 0, none⟩) 1 k) (.int .i64 100) rfl
                          have HB3 : Hid _ := q3
                          have HV2 : Hid (RErr _ _ _) := q2 HV.out
                          have HP : Hid _ := And.intro r0 (And.intro r1 (And.intro r2 (And.intro q0 q1)))
                          clear hb c31 N1 hW0 HN HV q3 r0 r1 r2 q0 q1 q2
                          go_wp2
                          obtain ⟨r0, r1, r2, q0, q1⟩ := HP.out
                          unfold putNF putF put3 at *
                          dsimp only at *
                          rw [show ((0 : Nat) : Int) = 0 from rfl] at *
                          refine bodyPost_ret (v := .tuple #[nv ⟨false, 0, 0⟩, .agg #[.slice (some ⟨g, 0, none⟩) 1 k, .int .i64 100]]) (by simp [results, Tryz.results34, go_sem, nv, r0, r1, r2, q0, q1]) rfl ⟨_, _, _, rfl, HV2.out, HM.out, HB3.out⟩
                        · have hc6I : ((c6 : Int) == 0) = false := by simpa using (by omega : ¬ (c6 : Int) = 0)
                          have HNB : Hid (nBad s = false) := HBd.out.trans (decide_eq_false hc6)
                          have hpe := HEnd.out
                          have hpeI : (p5 : Int) + (c6 : Int) = (pe : Int) := by omega
                          rw [← hpe] at c33
                          have b5e : (p5 : Int) ≤ (pe : Int) := by omega
                          have b5s : (pe : Int) ≤ (s.size : Int) := by omega
                          have hpe16 : pe ≤ 16 := by omega
                          clear hc6 hpe HBd HQ5 HEnd
                          go_wp2_with (go_at_call 57; refine Stop.mk ?_)
                          refine Stop.out (c33.mono ?_)
                          rintro e W1 ⟨rfl, rfl⟩
                          clear c33
                          go_upto_region 30 with fail
                          have HV3 : Hid (V = if ng2 = true then -(N : Int) else (N : Int)) := by
                            show _ = _
                            rw [HWv.out, ← HNg.out]
                            by_cases ht : tk s p4 43 45 = 45
                            · rw [if_pos ht, if_pos (decide_eq_true ht)]
                            · rw [if_neg ht, if_neg (by simpa using ht)]
                          clear HWv HNg HB
                          have hXv := HX.out
                          clear HX HN hW0
                          cases ng2 with
                          | true =>
                            have hv := HV3.out
                            rw [if_pos rfl] at hv
                            subst hv
                            clear HV3
                            subst hXv
                            go_wp2
                            go_meet
                            case rel => exact ⟨by first | rfl | simp, by first | rfl | simp, rfl, by omega, by omega, by omega, HNB⟩
                          | false =>
                            have hv := HV3.out
                            rw [if_neg (by decide)] at hv
                            subst hv
                            clear HV3
                            subst hXv
                            go_wp2
                            go_meet
                            case rel => exact ⟨by first | rfl | simp, by first | rfl | simp, rfl, by omega, by omega, by omega, HNB⟩
              case rest =>
                obtain ⟨rfl, rfl, rfl, hpe16, hx1, hx2, HNB⟩ := hcut
                clear HX HEnd Hn4
                by_cases hend : pe < s.size
                · have hendI : (pe : Int) < (s.size : Int) := by omega
                  have hen := EPE.out
                  have HEN : Hid (nEnd s = pe) := hen
                  clear hen
                  have c31 := no_any (pe : Int) 100 wc
                  have HM : Hid (PM s ⟨false, 0, 0⟩ (some ((pe : Int), 100))) := .inr ⟨fun hh => hh.2.2 (by rw [HEN.out]; exact hend), rfl, by unfold erN; rw [if_pos h, HEN.out]⟩
                  go_wp2_with (go_at_call 31; refine Stop.mk ?_)
                  refine Stop.out (c31.mono ?_)
                  rintro e W1 ⟨v, rfl, hv, hb⟩
                  have N1 := HN.out.on hb
                  have HV : Hid (RErr W1 v (some ((pe : Int), 100))) := hv
                  obtain ⟨g, k, rfl, _, _⟩ := hv
                  obtain ⟨z0, z1, z2, zff, a0, a1, af, r0, r1, r2, q0, q1, q2, q3⟩ := putNF_all N1 ⟨false, 0, 0⟩ (.slice (some ⟨g, 0, none⟩) 1 k) (.int .i64 100) rfl
                  have HB3 : Hid _ := q3
                  have HV2 : Hid (RErr _ _ _) := q2 HV.out
                  have HP : Hid _ := And.intro r0 (And.intro r1 (And.intro r2 (And.intro q0 q1)))
                  clear hb c31 N1 hW0 HN HV q3 r0 r1 r2 q0 q1 q2
                  go_wp2
                  obtain ⟨r0, r1, r2, q0, q1⟩ := HP.out
                  unfold putNF putF put3 at *
                  dsimp only at *
                  rw [show ((0 : Nat) : Int) = 0 from rfl] at *
                  refine bodyPost_ret (v := .tuple #[nv ⟨false, 0, 0⟩, .agg #[.slice (some ⟨g, 0, none⟩) 1 k, .int .i64 100]]) (by simp [results, Tryz.results34, go_sem, nv, r0, r1, r2, q0, q1]) rfl ⟨_, _, _, rfl, HV2.out, HM.out, HB3.out⟩
                · have hendI : ¬ ((pe : Int) < (s.size : Int)) := by omega
                  have HOk : Hid (Ok s) := ⟨h, HNB.out, by rw [EPE.out]; exact hend⟩
                  have c36 := short36_any wc ng U X HUd.out hU16 hx1 hx2
                  unfold nv at c36
                  clear hend
                  go_wp2_with (go_at_call 58; refine Stop.mk ?_)
                  refine Stop.out (c36.mono ?_)
                  rintro e W1 ⟨⟨r, rfl, hr⟩, hb⟩
                  have HN1 : Hid (NC w W1) := HN.out.on hb
                  have HM : Hid (PM s r none) := .inl ⟨HOk.out, by rw [ENg.out, EU.out, EX.out]; exact hr, rfl⟩
                  have c34 := none34_any W1
                  clear hr hb c36 HN hW0
                  go_wp2_with (go_at_call 27; refine Stop.mk ?_)
                  refine Stop.out (c34.mono ?_)
                  rintro e W2 ⟨rfl, hb⟩
                  have N1 := HN1.out.on hb
                  obtain ⟨z0, z1, z2, zff, a0, a1, af, r0, r1, r2, q0, q1, q2, q3⟩ := putNF_all N1 r (.slice none 0 0) (.int .i64 0) rfl
                  have HB3 : Hid _ := q3
                  have HP : Hid _ := And.intro r0 (And.intro r1 (And.intro r2 (And.intro q0 q1)))
                  clear hb c34 N1 HN1 q3 r0 r1 r2 q0 q1 q2
                  go_wp2
                  obtain ⟨r0, r1, r2, q0, q1⟩ := HP.out
                  unfold putNF putF put3 at *
                  refine bodyPost_ret (v := .tuple #[nv r, .agg #[.slice none 0 0, .int .i64 0]]) (by simp [results, Tryz.results34, go_sem, nv, r0, r1, r2, q0, q1]) rfl ⟨_, r, none, rfl, rfl, HM.out, HB3.out⟩
theorem rparse_any (w : World) (s : ByteArray) : Calls Tryz.prog 34 #[.string s] w (PostRM w s) := by
  by_cases h : s.size ≤ 16
  · exact rparse_short w s h
  · exact rparse_long w s h
end Go.Proofs.YtehgeninocbpeaaGreatDoor.Nu
