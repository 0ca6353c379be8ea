import Derived.Test.YtaingbnfalibjaaDoorDd
import Derived.Deep.Cut
import Derived.Deep.CutRange
/-
  DERIVED. The document's ParseWhole.
-/
namespace Go.Proofs.YtaingbnfalibjaaDoor
open Go Go.Proofs Go.RowKit NumLine

/-- Is the byte here one of these two? -/
def sg (s : ByteArray) (a x y : Nat) : Bool := decide (nx s a false = x ∨ nx s a false = y)
theorem sg_no {s : ByteArray} {a x y : Nat} (h : ¬ a < s.size) (hx : x ≠ 0) (hy : y ≠ 0) : sg s a x y = false := by
  unfold sg nx
  rw [if_pos (.inr h)]
  exact decide_eq_false (by omega)
theorem nx_at {s : ByteArray} {a c : Nat} (h : a < s.size) (hc : s[a].toNat = c) : nx s a false = c := by
  unfold nx
  rw [if_neg (by simp; exact h), ← get_get! s a h, hc]
theorem sg_at {s : ByteArray} {a x y c : Nat} (h : a < s.size) (hc : s[a].toNat = c) : sg s a x y = decide (c = x ∨ c = y) := by
  unfold sg
  rw [nx_at h hc]
theorem tP_sg (s : ByteArray) (a x y : Nat) : tP s a x y = if sg s a x y = true then a + 1 else a := by
  unfold tP sg
  by_cases h : nx s a false = x ∨ nx s a false = y
  · rw [if_pos h, if_pos (decide_eq_true h)]
  · rw [if_neg h, if_neg (by simp only [decide_eq_true_eq]; exact h)]

theorem wP_le (s : ByteArray) : wP s ≤ s.size := tP_le (Nat.zero_le _) (by decide) (by decide)
theorem wC_le (s : ByteArray) : wP s + wC s ≤ s.size := cnt_size s s.size _ (wP_le s)

set_option maxRecDepth 100000 in
set_option maxHeartbeats 1000000 in
theorem rwhole_any (w : World) (s : ByteArray) : Calls Tryd.prog 11 #[.string s] w (PostF w (.int .i64 (WR s).1) (WR s).2) := by
  obtain ⟨R1, R2, hR⟩ : ∃ a o, WR s = (a, o) := ⟨_, _, rfl⟩
  rw [hR]
  have HR : Hid (WR s = (R1, R2)) := hR
  clear hR
  dsimp only
  obtain ⟨W0, hW0⟩ : ∃ W0, w.alloc (.cells #[.slice none 0 0, .int .i64 0] 35) = W0 := ⟨_, rfl⟩
  have HF : Hid (FC w W0 w.heap.size) := hW0 ▸ FC.start w
  by_cases h12 : 12 < s.size
  · obtain ⟨rfl, rfl⟩ := Prod.mk.inj (HR.out.symm.trans (WR_long h12))
    clear HR
    have hI : (12 : Int) < (s.size : Int) := by omega
    have c31 := no_any 12 103 W0
    go_enter Tryd.func11, Tryd.ntmps11
    go_wp2_with (go_at_call 31; refine Stop.mk ?_)
    refine Stop.out (c31.mono ?_)
    rintro e W1 ⟨v, rfl, hv, hb⟩
    have F1 := HF.out.on hb
    have HV : Hid (RErr W1 v (some (12, 103))) := hv
    obtain ⟨g, k, rfl, _, _⟩ := hv
    obtain ⟨a0, a1, af⟩ := F1.facts
    obtain ⟨p0, p1, p2⟩ := putF_all F1.row (.slice (some ⟨g, 0, none⟩) 1 k) (.int .i64 103) rfl
    have HB : Hid _ := putF_below F1.bel (Nat.le_refl _) (.slice (some ⟨g, 0, none⟩) 1 k) (.int .i64 103)
    have HV2 : Hid (RErr _ _ _) := p2 HV.out
    clear hb c31 F1 hW0 HF
    unfold putF at *
    go_wp2
    refine bodyPost_ret (v := .tuple #[.int .i64 0, .agg #[.slice (some ⟨g, 0, none⟩) 1 k, .int .i64 103]]) (by simp [results, Tryd.results11, go_sem, p0, p1]) rfl ⟨_, rfl, HV2.out, HB.out⟩
  · have hI : ¬ ((12 : Int) < (s.size : Int)) := by omega
    have hs : s.size ≤ 12 := by omega
    obtain ⟨b, hb⟩ : ∃ b, sg s 0 43 45 = b := ⟨_, rfl⟩
    have HB : Hid (sg s 0 43 45 = b) := hb
    clear hb
    go_enter Tryd.func11, Tryd.ntmps11
    go_upto_region 4 with fail
    go_cut [26] from 7 (fun s26 wx => s26 = .bool b ∧ wx = W0)
    case first =>
      clear HF hW0 HR
      by_cases hl : 0 < s.size
      · have hlI : (0 : Int) < (s.size : Int) := by omega
        have hlI2 : decide ((0 : Int) < (s.size : Int)) = true := by simp; omega
        obtain ⟨c, hc⟩ : ∃ c, s[0].toNat = c := ⟨_, rfl⟩
        have hsg := HB.out.symm.trans (sg_at (x := 43) (y := 45) hl hc)
        by_cases h43 : c = 43
        · have e1 : ((c : Int) == 43) = true := by rw [h43]; rfl
          rw [decide_eq_true (.inl h43)] at hsg
          subst hsg
          clear h43
          go_wp2
          go_meet
          case rel => exact ⟨by first | rfl | simp, rfl⟩
        · have e1 : ((c : Int) == 43) = false := by simp; omega
          by_cases h45 : c = 45
          · have e2 : ((c : Int) == 45) = true := by rw [h45]; rfl
            rw [decide_eq_true (.inr h45)] at hsg
            subst hsg
            clear h43 h45
            go_wp2
            go_meet
            case rel => exact ⟨by first | rfl | simp, rfl⟩
          · have e2 : ((c : Int) == 45) = false := by simp; omega
            rw [decide_eq_false (by omega)] at hsg
            subst hsg
            clear h43 h45
            go_wp2
            go_meet
            case rel => exact ⟨by first | rfl | simp, rfl⟩
      · have hsg := HB.out.symm.trans (sg_no (x := 43) (y := 45) hl (by decide) (by decide))
        subst hsg
        have hlI2 : decide ((0 : Int) < (s.size : Int)) = false := decide_eq_false (by omega)
        have hlI3 : decide (0 < s.size) = false := decide_eq_false hl
        go_wp2
        go_meet
        case rel => exact ⟨by first | rfl | simp, rfl⟩
    case rest =>
      obtain ⟨rfl, rfl⟩ := hcut
      have hp := tP_sg s 0 43 45
      rw [HB.out] at hp
      have HP : Hid (wP s = if b = true then 0 + 1 else 0) := hp
      have hple := wP_le s
      have hcle := wC_le s
      have c32 := digits32_any wc s (wP s) 12 hple (by omega) (by omega)
      rw [cnt_more s 12 s.size (wP s) (by omega) (by omega)] at c32
      obtain ⟨p, hpp⟩ : ∃ p, wP s = p := ⟨_, rfl⟩
      obtain ⟨C, hCC⟩ : ∃ C, wC s = C := ⟨_, rfl⟩
      have HC : Hid (wC s = C) := hCC
      have HPP : Hid (wP s = p) := hpp
      unfold wC at hCC
      rw [hpp] at hCC
      rw [hpp, hCC] at c32
      rw [HPP.out, HC.out] at hcle
      rw [HPP.out] at HP
      clear hp hpp hple
      go_upto_if 26 with fail
      go_cut [4] from 7 (fun s4 wx => s4 = .int .i64 (p : Int) ∧ wx = wc)
      case first =>
        cases b with
        | true =>
          have hq := HP.out
          rw [if_pos rfl] at hq
          subst hq
          clear HF c32
          go_wp2
          go_meet
          case rel => exact ⟨by first | rfl | simp, rfl⟩
        | false =>
          have hq := HP.out
          rw [if_neg (by decide)] at hq
          subst hq
          clear HF c32
          go_wp2
          go_meet
          case rel => exact ⟨by first | rfl | simp, rfl⟩
      case rest =>
        obtain ⟨rfl, rfl⟩ := hcut
        go_wp2_with (go_at_call 32; refine Stop.mk ?_)
        refine Stop.out (c32.mono ?_)
        rintro e W1 ⟨rfl, rfl⟩
        clear c32
        by_cases hbad : C < 1 ∨ p + C < s.size
        · obtain ⟨rfl, rfl⟩ := Prod.mk.inj (HR.out.symm.trans (WR_bad h12 (by rw [HC.out, HPP.out]; exact hbad)))
          have c31 := no_any ((p : Int) + (C : Int)) 100 wc
          have HPC : Hid (((wP s + wC s : Nat) : Int) = (p : Int) + (C : Int)) := by show _ = _; rw [HC.out, HPP.out]; omega
          have hb2 : ((C : Int) == 0) = true ∨ (((C : Int) == 0) = false ∧ (p : Int) + (C : Int) < (s.size : Int)) := by
            by_cases h0 : C = 0
            · exact .inl (by rw [h0]; rfl)
            · exact .inr ⟨by simp; exact h0, by rcases hbad with h | h <;> omega⟩
          clear hbad HC HPP HP HB hCC
          rcases hb2 with hb2 | ⟨hb2, hb3⟩
          all_goals
            go_wp2_with (go_at_call 31; refine Stop.mk ?_)
            refine Stop.out (c31.mono ?_)
            rintro e W1 ⟨v, rfl, hv, hb⟩
            have F1 := HF.out.on hb
            have HV : Hid (RErr W1 v (some ((p : Int) + (C : Int), 100))) := hv
            obtain ⟨g, k, rfl, _, _⟩ := hv
            obtain ⟨a0, a1, af⟩ := F1.facts
            obtain ⟨p0, p1, p2⟩ := putF_all F1.row (.slice (some ⟨g, 0, none⟩) 1 k) (.int .i64 100) rfl
            have HB : Hid _ := putF_below F1.bel (Nat.le_refl _) (.slice (some ⟨g, 0, none⟩) 1 k) (.int .i64 100)
            have HV2 : Hid (RErr _ _ _) := p2 HV.out
            clear hb c31 F1 hW0 HF HV
            unfold putF at *
            go_wp2
            refine bodyPost_ret (v := .tuple #[.int .i64 0, .agg #[.slice (some ⟨g, 0, none⟩) 1 k, .int .i64 100]]) (by simp [results, Tryd.results11, go_sem, p0, p1]) rfl ⟨_, rfl, by rw [HPC.out]; exact HV2.out, HB.out⟩
        · have hC0 : ((C : Int) == 0) = false := by simp; omega
          have hpc : p + C = s.size := by omega
          have hpcI : decide ((p : Int) + (C : Int) < (s.size : Int)) = false := by simp; omega
          have hpcI3 : decide (p + C < s.size) = false := by simp; omega
          have hpcI2 : ¬ ((p : Int) + (C : Int) < (s.size : Int)) := by omega
          have hdg : Digs (s.extract p s.size) := by rw [← hpc]; exact digs_ext s p C s.size (by rw [hCC]; exact Nat.le_refl _)
          have hzz : (s.extract p s.size).size ≤ 18 := by rw [ByteArray.size_extract]; omega
          have c33 := number33_any wc (s.extract p s.size) hdg hzz
          have hwv : whV s 0 = if tk s 0 43 45 = 45 then -((val (s.extract p s.size).data.toList : Nat) : Int) else ((val (s.extract p s.size).data.toList : Nat) : Int) := by
            have h1 : tP s 0 43 45 = p := HPP.out
            unfold whV
            dsimp only
            rw [h1, hCC, hpc]
          have hlt := valN_lt (s.extract p s.size).data.toList 0 hdg
          have hlt2 : (s.extract p s.size).data.toList.length ≤ 12 := by rw [Array.length_toList]; show (s.extract p s.size).size ≤ 12; rw [ByteArray.size_extract]; omega
          have hlt3 : 10 ^ (s.extract p s.size).data.toList.length ≤ 10 ^ 12 := Nat.pow_le_pow_right (by decide) hlt2
          have hN12 : val (s.extract p s.size).data.toList ≤ 1000000000000 := by unfold val; omega
          obtain ⟨N, hN⟩ : ∃ N, val (s.extract p s.size).data.toList = N := ⟨_, rfl⟩
          rw [hN] at c33 hwv hN12
          have hs0 : 0 < s.size := by omega
          have hs0I : (0 : Int) < (s.size : Int) := by omega
          obtain ⟨c, hc⟩ : ∃ c, s[0].toNat = c := ⟨_, rfl⟩
          have htk : tk s 0 43 45 = 45 ↔ c = 45 := by
            unfold tk
            rw [nx_at hs0 hc]
            split
            · exact Iff.rfl
            · rename_i hn; constructor
              · intro h; omega
              · intro h; exact absurd (.inr h) hn
          have HWV : Hid (whV s 0 = if c = 45 then -(N : Int) else (N : Int)) := by
            show _ = _
            rw [hwv]
            by_cases h : c = 45
            · rw [if_pos (htk.2 h), if_pos h]
            · rw [if_neg (fun q => h (htk.1 q)), if_neg h]
          have HBad : Hid (¬ (wC s < 1 ∨ wP s + wC s < s.size)) := by show ¬ _; rw [HC.out, HPP.out]; exact hbad
          have hpI : (p : Int) ≤ (s.size : Int) := by omega
          clear hwv htk hlt hlt2 hlt3 hN hdg hzz hbad hCC HC HPP HP HB hpc
          go_wp2_with (go_at_call 33; refine Stop.mk ?_)
          refine Stop.out (c33.mono ?_)
          rintro e W1 ⟨rfl, rfl⟩
          clear c33
          go_upto_region 10 with fail
          obtain ⟨b2, hb2⟩ : ∃ b2, decide (c = 45) = b2 := ⟨_, rfl⟩
          have HB2 : Hid (decide (c = 45) = b2) := hb2
          clear hb2
          go_cut [52] from 7 (fun s52 wx => s52 = .bool b2 ∧ wx = wc)
          case first =>
            by_cases h45 : c = 45
            · have e1 : ((c : Int) == 45) = true := by rw [h45]; rfl
              obtain rfl : b2 = true := HB2.out.symm.trans (decide_eq_true h45)
              clear h45 HF hW0
              go_wp2
              go_meet
              case rel => exact ⟨by first | rfl | simp, rfl⟩
            · have e1 : ((c : Int) == 45) = false := by simp; omega
              obtain rfl : b2 = false := HB2.out.symm.trans (decide_eq_false h45)
              clear h45 HF hW0
              go_wp2
              go_meet
              case rel => exact ⟨by first | rfl | simp, rfl⟩
          case rest =>
            obtain ⟨rfl, rfl⟩ := hcut
            obtain ⟨V, hV⟩ : ∃ V, whV s 0 = V := ⟨_, rfl⟩
            have HV0 : Hid (whV s 0 = V) := hV
            have hb9 : -1000000000000 ≤ V ∧ V ≤ 1000000000000 := by
              rw [← hV, HWV.out]
              split <;> omega
            go_upto_if 52 with fail
            go_cut [6] from 7 (fun s6 wx => s6 = .int .i64 V ∧ wx = wc)
            case first =>
              rw [hV] at HWV
              have hq := HWV.out
              clear hV HV0
              by_cases h45 : c = 45
              · rw [if_pos h45] at hq
                obtain rfl : b2 = true := HB2.out.symm.trans (decide_eq_true h45)
                clear h45 HF hW0 HWV
                subst hq
                go_wp2
                go_meet
                case rel => exact ⟨by first | rfl | simp, rfl⟩
              · rw [if_neg h45] at hq
                obtain rfl : b2 = false := HB2.out.symm.trans (decide_eq_false h45)
                clear h45 HF hW0 HWV
                subst hq
                go_wp2
                go_meet
                case rel => exact ⟨by first | rfl | simp, rfl⟩
            case rest =>
              obtain ⟨rfl, rfl⟩ := hcut
              clear hV
              by_cases hw : wrong V
              · obtain ⟨rfl, rfl⟩ := Prod.mk.inj (HR.out.symm.trans (WR_far h12 HBad.out (HV0.out.symm ▸ hw)))
                have c31 := no_any 0 101 wc
                have hb2 : decide (V < -2147483648) = true ∨ (decide (V < -2147483648) = false ∧ 2147483647 < V) := by
                  unfold wrong at hw
                  by_cases h0 : V < -2147483648
                  · exact .inl (decide_eq_true h0)
                  · exact .inr ⟨decide_eq_false h0, by omega⟩
                clear hw HWV HBad HV0 hpI
                rcases hb2 with hb2 | ⟨hb2, hb3⟩
                all_goals
                  go_wp2_with (go_at_call 31; refine Stop.mk ?_)
                  refine Stop.out (c31.mono ?_)
                  rintro e W1 ⟨v, rfl, hv, hb⟩
                  have F1 := HF.out.on hb
                  have HV : Hid (RErr W1 v (some (0, 101))) := hv
                  obtain ⟨g, k, rfl, _, _⟩ := hv
                  obtain ⟨a0, a1, af⟩ := F1.facts
                  obtain ⟨p0, p1, p2⟩ := putF_all F1.row (.slice (some ⟨g, 0, none⟩) 1 k) (.int .i64 101) rfl
                  have HB : Hid _ := putF_below F1.bel (Nat.le_refl _) (.slice (some ⟨g, 0, none⟩) 1 k) (.int .i64 101)
                  have HV2 : Hid (RErr _ _ _) := p2 HV.out
                  clear hb c31 F1 hW0 HF HV
                  unfold putF at *
                  go_wp2
                  refine bodyPost_ret (v := .tuple #[.int .i64 0, .agg #[.slice (some ⟨g, 0, none⟩) 1 k, .int .i64 101]]) (by simp [results, Tryd.results11, go_sem, p0, p1]) rfl ⟨_, rfl, HV2.out, HB.out⟩
              · obtain ⟨rfl, rfl⟩ := Prod.mk.inj (HR.out.symm.trans ((WR_ok h12 HBad.out (HV0.out.symm ▸ hw)).trans (by rw [HV0.out])))
                have c34 := none34_any wc
                have hb2 : decide (R1 < -2147483648) = false := decide_eq_false (fun h => hw (.inl h))
                have hb3 : decide (2147483647 < R1) = false := decide_eq_false (fun h => hw (.inr h))
                clear hw HWV HBad HV0 hpI
                go_wp2_with (go_at_call 34; refine Stop.mk ?_)
                refine Stop.out (c34.mono ?_)
                rintro e W1 ⟨rfl, hb⟩
                have F1 := HF.out.on hb
                obtain ⟨a0, a1, af⟩ := F1.facts
                obtain ⟨p0, p1, p2⟩ := putF_all F1.row (.slice none 0 0) (.int .i64 0) rfl
                have HB : Hid _ := putF_below F1.bel (Nat.le_refl _) (.slice none 0 0) (.int .i64 0)
                clear hb c34 F1 hW0 HF
                unfold putF at *
                go_wp2
                refine bodyPost_ret (v := .tuple #[.int .i64 R1, .agg #[.slice none 0 0, .int .i64 0]]) (by simp [results, Tryd.results11, go_sem, p0, p1]) rfl ⟨_, rfl, rfl, HB.out⟩
end Go.Proofs.YtaingbnfalibjaaDoor
