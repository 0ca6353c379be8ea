
import Derived.Test.YtmocofmlehmneaaGreatDoorWK
import Derived.Deep.LoopGhost
import Derived.Deep.AppendLies
/-
  DERIVED. Rows of nodes that share nothing: written over, grown, and looked at again.
-/
namespace Go.Proofs.YtmocofmlehmneaaGreatDoor.Wk
open Go Go.Proofs Go.RowKit

def L1 (W0 : World) (n G B : Nat) (us : Nat → Value) (ln : Nat → Nat) (g : Nat) (s3 : Value) (wx : World) : Prop :=
  ∃ (i : Nat) (c : Nat → List Value), s3 = .int .i64 (i : Int) ∧ g + i = n ∧ FA W0 n G B us ln c wx ∧ (∀ j, j < n → (c j).length = ln j * 4) ∧ (∀ j, j < i → ∀ t, t < ln j → (c j)[t * 4 + 2]? = some (mkA j t))
def L2 (W0 : World) (n G B : Nat) (us : Nat → Value) (ln : Nat → Nat) (i g : Nat) (s4 : Value) (wx : World) : Prop :=
  ∃ (k : Nat) (c : Nat → List Value), s4 = .int .i64 (k : Int) ∧ g + k = ln i ∧ FA W0 n G B us ln c wx ∧ (∀ j, j < n → (c j).length = ln j * 4) ∧ (∀ j, j < i → ∀ t, t < ln j → (c j)[t * 4 + 2]? = some (mkA j t)) ∧ ∀ t, t < k → (c i)[t * 4 + 2]? = some (mkA i t)

def L3 (W0 W1 : World) (n G B : Nat) (us : Nat → Value) (ln : Nat → Nat) (c : Nat → List Value) (g : Nat) (s5 s6 : Value) (wx : World) : Prop :=
  ∃ (i : Nat) (vs : Nat → Value), s6 = .int .i64 (i : Int) ∧ g + i = n ∧ P3 W0 W1 n G B us ln c i i vs s5 wx
def L4 (Wi : World) (B i : Nat) (u : Value) (ln : Nat) (c : List Value) (g : Nat) (s7 s8 : Value) (wx : World) : Prop :=
  ∃ k : Nat, s8 = .int .i64 (k : Int) ∧ g + k = 64 ∧ P4 Wi B i u ln c k s7 wx

set_option maxRecDepth 100000 in
set_option maxHeartbeats 4000000 in
theorem free_any (W0 : World) (n G B cap : Nat) (us : Nat → Value) (ln : Nat → Nat) (c0 : Nat → List Value) (hF : Fam n G B us ln) (h0 : FA W0 n G B us ln c0 W0) (hl0 : ∀ j, j < n → (c0 j).length = ln j * 4) (hB : B ≤ W0.heap.size) :
    Calls Tryz.prog 11 #[.slice (some ⟨G, 0, none⟩) n cap] W0 fun e w' => e = .returned (.bool true) ∧ KR n us W0 w' := by
  have HF : Hid (Fam n G B us ln) := hF
  have H0 : Hid (FA W0 n G B us ln c0 W0 ∧ ∀ j, j < n → (c0 j).length = ln j * 4) := ⟨h0, hl0⟩
  have hn1000 := hF.n0
  clear hF h0 hl0
  go_enter Tryz.func11, Tryz.ntmps11
  go_wp2
  go_loopg [3] n (fun g s3 wx => Hid (L1 W0 n G B us ln g s3 wx))
  case atStart => exact ⟨0, c0, rfl, by omega, H0.out.1, H0.out.2, fun j hj => by omega⟩
  case round =>
    obtain ⟨i, c, rfl, hgi, hfa, hlen, hmk⟩ := hrel.out
    by_cases hin : i < n
    · obtain ⟨ua, uc, hu, -⟩ := HF.out.form i hin
      have hsm := HF.out.small i hin
      obtain ⟨m, hm⟩ : ∃ m, ln i = m := ⟨_, rfl⟩
      rw [hm] at hu hsm
      have hcl := hfa.l i hin
      rw [hu] at hcl
      have hI : (i : Int) < (n : Int) := by omega
      have HC : Hid (FA W0 n G B us ln c wr ∧ (∀ j, j < n → (c j).length = ln j * 4) ∧ (∀ j, j < i → ∀ t, t < ln j → (c j)[t * 4 + 2]? = some (mkA j t))) := ⟨hfa, hlen, hmk⟩
      have HU : Hid _ := hu
      have HM : Hid _ := hm
      clear hfa hlen hmk hu hm hrel
      go_wp2
      go_loopg [4] m (fun g2 s4 wx => Hid (L2 W0 n G B us ln i g2 s4 wx))
      case atStart => exact ⟨0, c, rfl, by rw [HM.out]; omega, HC.out.1, HC.out.2.1, HC.out.2.2, fun t ht => by omega⟩
      case round =>
        obtain ⟨k, c2, rfl, hgk, hfa, hlen, hmk, hmi⟩ := hrel.out
        rw [HM.out] at hgk
        have hcl := hfa.l i hin
        rw [HU.out] at hcl
        by_cases hkm : k < m
        · have hown := hfa.own i hin
          rw [HU.out, HM.out] at hown
          obtain ⟨gu, cu, heq, -, -⟩ := hown.form (by omega)
          cases heq
          have hfz := hown.frozenAt (k * 4 + 2)
          have hcc := hown.cellAt (k * 4 + 2) (by omega)
          obtain ⟨y, hy⟩ : ∃ y, (c2 i)[k * 4 + 2]? = some y := ⟨_, List.getElem?_eq_getElem (by rw [hlen i hin, HM.out]; omega)⟩
          rw [hy] at hcc
          clear hy
          have hkI : (k : Int) < (m : Int) := by omega
          have HFA : Hid _ := hfa.set (k := k * 4 + 2) (b := mkA i k) HF.out hin HU.out HM.out.symm
          have HL : Hid (∀ j, j < n → (c2 j).length = ln j * 4) := hlen
          have HK : Hid ((∀ j, j < i → ∀ t, t < ln j → (c2 j)[t * 4 + 2]? = some (mkA j t)) ∧ ∀ t, t < k → (c2 i)[t * 4 + 2]? = some (mkA i t)) := ⟨hmk, hmi⟩
          clear hfa hlen hmk hmi hrel hown
          unfold mkA at HFA
          go_wp2
          go_roundg (m - (k + 1))
          case measure => omega
          case rel =>
            refine ⟨k + 1, _, by simp, by rw [HM.out]; omega, HFA.out, fun j hj => ?_, fun j hj t ht => ?_, fun t ht => ?_⟩
            · by_cases e : j = i
              · subst e; simp only [if_pos]; rw [List.length_set]; exact HL.out j hj
              · simp only [if_neg e]; exact HL.out j hj
            · simp only [if_neg (show ¬ j = i by omega)]
              exact HK.out.1 j hj t ht
            · simp only [if_pos]
              by_cases e : k = t
              · subst e
                rw [List.getElem?_set_self (by rw [HL.out i hin, HM.out]; omega)]
                rfl
              · rw [List.getElem?_set_ne (by omega)]
                exact HK.out.2 t (by omega)
        · obtain rfl : k = m := by omega
          have HC2 : Hid (FA W0 n G B us ln c2 wr ∧ (∀ j, j < n → (c2 j).length = ln j * 4) ∧ (∀ j, j < i + 1 → ∀ t, t < ln j → (c2 j)[t * 4 + 2]? = some (mkA j t))) := by
            refine ⟨hfa, hlen, fun j hj t ht => ?_⟩
            by_cases e : j = i
            · subst e; exact hmi t (by rw [HM.out] at ht; exact ht)
            · exact hmk j (by omega) t ht
          have hkI : ¬ (k : Int) < (k : Int) := by omega
          clear hfa hlen hmk hmi hrel
          go_wp2
          go_roundg (n - (i + 1))
          case measure => omega
          case rel => exact ⟨i + 1, c2, by simp, by omega, HC2.out.1, HC2.out.2.1, HC2.out.2.2⟩
    · obtain rfl : i = n := by omega
      have hI : ¬ (i : Int) < (i : Int) := by omega
      have HC : Hid (FA W0 i G B us ln c wr ∧ (∀ j, j < i → (c j).length = ln j * 4) ∧ (∀ j, j < i → ∀ t, t < ln j → (c j)[t * 4 + 2]? = some (mkA j t))) := ⟨hfa, hlen, hmk⟩
      clear hfa hlen hmk hrel
      have hn0 : i = 0 ∨ 0 < i := by omega
      have HPC : Hid (PC wr i G us ln c) := ⟨HC.out.2.1, HC.out.2.2, fun j hj g hg => ((HC.out.1.own j hj).lt g hg).2, fun h => cell_lt (HC.out.1.l 0 h)⟩
      have HP0 : Hid (P3 W0 wr i G B us ln c 0 0 us (.slice none 0 0) wr) := by
        refine ⟨HC.out.1.l, fun j _ hj => ?_, fun j hj g hg t ht => ?_, fun j hj => by omega, World.ownsRow_nil _ _ _ _, .inl rfl, HC.out.1.b, Nat.le_refl _⟩
        · exact HC.out.1.own j hj
        · have ho := HC.out.1.own j hj
          obtain ⟨ua, uc, hu, -⟩ := HF.out.form j hj
          rw [hu] at ho hg
          obtain ⟨g2, c2, e2, -, -⟩ := ho.form (by omega)
          rw [e2] at hg ho
          cases hg
          rw [ho.cellAt (t * 4 + 2) (by omega), HC.out.2.2 j hj t ht]
      have H01 : Hid (W0.heap.size ≤ wr.heap.size) := HC.out.1.b.size
      obtain ⟨W1, hW1⟩ : ∃ W1, W1 = wr := ⟨_, rfl⟩
      rw [← hW1] at HPC HP0 H01 ⊢
      clear hW1 HC
      go_wp2
      go_loopg [5, 6] i (fun g s5 s6 wx => Hid (L3 W0 W1 i G B us ln c g s5 s6 wx))
      case atStart => exact ⟨0, us, rfl, by omega, HP0.out⟩
      case round =>
        obtain ⟨a, vs, rfl, hga, hp3⟩ := hrel.out
        by_cases han : a < i
        · obtain ⟨ua, uc, hu, -⟩ := HF.out.form a han
          have hsm := HF.out.small a han
          have hcl := hp3.l a han
          rw [hu] at hcl
          have hA : (a : Int) < (i : Int) := by omega
          have HU : Hid _ := hu
          have HP4 : Hid (P4 wr B a (us a) (ln a) (c a) 0 (us a) wr) := by
            refine ⟨?_, .inl rfl, fun g hg t ht => hp3.rd a han g hg t ht, KR.refl _ _ _⟩
            have := hp3.un a (Nat.le_refl _) han
            rw [show apn a 0 = [] from rfl, List.append_nil]
            exact this
          have HP3 : Hid _ := hp3
          obtain ⟨Wi, hWi⟩ : ∃ Wi, Wi = wr := ⟨_, rfl⟩
          rw [hu] at HP4
          rw [← hWi] at HP3 HP4 hcl ⊢
          obtain ⟨m, hm⟩ : ∃ m, ln a = m := ⟨_, rfl⟩
          rw [hm] at hcl HP4 HU hsm
          have HM : Hid _ := hm
          clear hp3 hu hrel hWi hm
          go_wp2
          go_loopg [7, 8] 64 (fun g s7 s8 wx => Hid (L4 Wi B a (us a) m (c a) g s7 s8 wx))
          case atStart => exact ⟨0, rfl, rfl, by rw [HU.out]; exact HP4.out⟩
          case round =>
            obtain ⟨k, rfl, hgk, hp4⟩ := hrel.out
            have hWs := hp4.ke.size
            have hBi : Hid (B ≤ Wi.heap.size) := Nat.le_trans hB (Nat.le_trans H01.out HP3.out.sz)
            have hBw : B ≤ wr.heap.size := Nat.le_trans hBi.out hWs
            have HQ : Hid _ := hp4
            by_cases hk : k < 64
            · have hkI : (k : Int) < 64 := by omega
              clear hp4 hrel
              go_wp2_with (at_builtin; refine Stop.mk ?_)
              refine Stop.out (keeps24 rfl (.tmp 53) (.tmp 60) rfl B u7 (m + k) _ rfl (World.ownsRow.alloc HQ.out.own _) ⟨wr.heap.size, 0, none⟩ (nd 0 0 (-1000 * (a : Int) - (k : Int) - 1) ⟨#[]⟩) rfl (news_new rfl _ _) (nd_one _ _ _ _) rfl (by omega) (by rw [size_alloc]; omega) ?_)
              intro g9 c9 W9 ho9 hg9 hd9
              have HP9 : Hid (P4 Wi B a (us a) m (c a) (k + 1) (.slice (some ⟨g9, 0, none⟩) (m + k + 1) c9) W9) := by
                exact HQ.out.app (by rw [HPC.out.len a han, HM.out]) (fun t ht => HPC.out.mark a han t (by rw [HM.out]; exact ht)) (fun g hg => Nat.lt_of_lt_of_le (HPC.out.lt a han g hg) HP3.out.sz) ((Below.refl _ _).alloc (Nat.le_refl _) _) ho9 hg9 hd9
              clear ho9 hg9 hd9
              go_wp2
              go_roundg (64 - (k + 1))
              case measure => omega
              case rel => exact ⟨k + 1, by simp, by omega, HP9.out⟩
            · obtain rfl : k = 64 := by omega
              have hkI : ¬ ((64 : Nat) : Int) < 64 := by omega
              obtain ⟨gm, cm, hmv, -, -⟩ := hp4.own.form (by omega)
              have HG : Hid (P3 W0 W1 i G B us ln c (a + 1) a (fun j => if j = a then u7 else vs j) u5 wr) := by
                refine HP3.out.grow HF.out HPC.out han ?_
                rw [HM.out]
                exact hp4
              obtain ⟨i1, hi1, hy0, hy1, hy2⟩ := info_parts info22
              have hW1w : W1.heap.size ≤ wr.heap.size := HG.out.sz
              subst hmv
              clear hp4 hrel HQ HP4
              go_wp2_with (at_builtin; refine Stop.mk ?_)
              refine Stop.out (wpList_append_lies _ rfl (.tmp 62) (.tmp 64) 36 rfl W1.heap.size 22 i1 _ 1 24 Tryz.underlying36 hi1 hy0 hy1 hy2 rfl (by decide) u5 a _ rfl (World.ownsRow.alloc HG.out.pw _) ⟨wr.heap.size, 0, none⟩ 1 1 [.slice (some ⟨gm, 0, none⟩) (m + 64) cm] rfl rfl (World.news_of_block (heap_new wr _)) (by intro u hu; simp at hu; subst hu; rfl) (by decide) (by unfold maxLen; omega) (by omega) (by simp; omega) _ rfl ?_)
              intro g9 c9 W9 ho9 hg9 _ _
              have HP9 : Hid (P3 W0 W1 i G B us ln c (a + 1) (a + 1) (fun j => if j = a then .slice (some ⟨gm, 0, none⟩) (m + 64) cm else vs j) (.slice (some ⟨g9, 0, none⟩) (a + 1) c9) W9) := by
                refine HG.out.push H01.out HPC.out (by omega) ((Below.refl _ _).alloc (Nat.le_refl _) _) hg9 ?_
                simp only [if_pos]
                exact ho9
              clear ho9 hg9
              go_wp2
              go_roundg (i - (a + 1))
              case measure => omega
              case rel => exact ⟨a + 1, _, by simp, by omega, HP9.out⟩
        · obtain rfl : a = i := by omega
          have hA : ¬ (a : Int) < (a : Int) := by omega
          have HP3 : Hid _ := hp3
          clear hp3 hrel
          obtain ⟨W2, hW2⟩ : ∃ W2, W2 = wr := ⟨_, rfl⟩
          rw [← hW2] at HP3 ⊢
          clear hW2
          go_wp2
          go_loopg [9] a (fun g s9 wx => ∃ b : Nat, s9 = .int .i64 (b : Int) ∧ g + b = a ∧ wx = W2)
          case atStart => exact ⟨0, rfl, by omega, rfl⟩
          case round =>
            obtain ⟨b, rfl, hgb, rfl⟩ := hrel
            by_cases hba : b < a
            · obtain ⟨ua, uc, hu, hua⟩ := HF.out.form b hba
              have HUA : Hid _ := hua
              have hsm := HF.out.small b hba
              have hcl := HP3.out.l b hba
              rw [hu] at hcl
              obtain ⟨gp, cp, hpe, -, -⟩ := HP3.out.pw.form (by omega)
              have hpw := HP3.out.pw
              rw [hpe] at hpw
              have hpc := hpw.cellAt b (by omega)
              rw [List.getElem?_map, List.getElem?_range hba] at hpc
              simp only [Option.map_some] at hpc
              obtain ⟨gv, cv, hv1, -, -, hv3⟩ := HP3.out.vg b hba
              rw [hv1] at hpc
              have HRD : Hid _ := HP3.out.rd b hba
              have HV3 : Hid _ := hv3
              obtain ⟨m, hm⟩ : ∃ m, ln b = m := ⟨_, rfl⟩
              rw [hm] at hcl hpc hu hsm
              have HM : Hid _ := hm
              have HU : Hid _ := hu
              have hbI : (b : Int) < (a : Int) := by omega
              subst hpe
              clear hv3 hm hu hpw hv1 hua
              go_wp2
              go_loopg [11] m (fun g s11 wx => ∃ k : Nat, s11 = .int .i64 (k : Int) ∧ g + k = m ∧ wx = wr)
              case atStart => exact ⟨0, rfl, by omega, rfl⟩
              case round =>
                obtain ⟨k, rfl, hgk, rfl⟩ := hrel
                by_cases hkm : k < m
                · obtain ⟨gu, rfl⟩ : ∃ gu, ua = some ⟨gu, 0, none⟩ := HUA.out (by rw [HM.out]; omega)
                  have hc := HRD.out gu (by rw [HU.out]; rfl) k (by rw [HM.out]; exact hkm)
                  unfold mkA at hc
                  have hkI : (k : Int) < (m : Int) := by omega
                  go_wp2
                  go_roundg (m - (k + 1))
                  case measure => omega
                  case rel => exact ⟨k + 1, by simp, by omega, rfl⟩
                · obtain rfl : k = m := by omega
                  have hkI : ¬ (k : Int) < (k : Int) := by omega
                  go_wp2
                  go_loopg [12] 64 (fun g s12 wx => ∃ y : Nat, s12 = .int .i64 (y : Int) ∧ g + y = 64 ∧ wx = wr)
                  case atStart => exact ⟨0, rfl, rfl, rfl⟩
                  case round =>
                    obtain ⟨y, rfl, hgy, rfl⟩ := hrel
                    by_cases hy : y < 64
                    · have hc := HV3.out (k + y) (by rw [HM.out]; omega)
                      rw [if_neg (by rw [HM.out]; omega), HM.out, show k + y - k = y by omega] at hc
                      unfold mkB at hc
                      have hc2 : wr.cell? ⟨gv, (k + y) * 4 + 2, none⟩ = some (.int .i64 (-1000 * (b : Int) - (y : Int) - 1)) := hc
                      have hyI : (y : Int) < 64 := by omega
                      clear hc
                      go_wp2
                      go_roundg (64 - (y + 1))
                      case measure => omega
                      case rel => exact ⟨y + 1, by simp, by omega, rfl⟩
                    · obtain rfl : y = 64 := by omega
                      have hyI : ¬ ((64 : Nat) : Int) < 64 := by omega
                      go_wp2
                      go_roundg (a - (b + 1))
                      case measure => omega
                      case rel => exact ⟨b + 1, by simp, by omega, rfl⟩
            · obtain rfl : b = a := by omega
              have hbI : ¬ (b : Int) < (b : Int) := by omega
              go_wp2
              go_ret
              exact ⟨rfl, HP3.out.kr⟩
end Go.Proofs.YtmocofmlehmneaaGreatDoor.Wk
