import Derived.Test.YtoikdpjjcnmgeaaGreatDoorWK
import Derived.Deep.LoopGhost
import Derived.Deep.AppendLies
import Derived.Test.YtoikdpjjcnmgeaaGreatDoorVj
import Derived.Lib.ConvBytes
import Derived.Laws.IdiomStrings
section
/-
  DERIVED. Rows of nodes that share nothing: written over, grown, and looked at again.
-/
namespace Go.Proofs.YtoikdpjjcnmgeaaGreatDoor.Wk
open Go Go.Proofs Go.RowKit

def L1 (W0 : World) (n G B : Nat) (us : Nat → Value) (ln : Nat → Nat) (g : Nat) (s3 : Value) (wx : World) : Prop :=
  ∃ (i : Nat) (c : Nat → List Value), s3 = .int .i64 (i : Int) ∧ g + i = n ∧ FA W0 n G B us ln c wx ∧ (∀ j, j < n → (c j).length = ln j * 4) ∧ (∀ j, j < i → ∀ t, t < ln j → (c j)[t * 4 + 2]? = some (mkA j t))
def L2 (W0 : World) (n G B : Nat) (us : Nat → Value) (ln : Nat → Nat) (i g : Nat) (s4 : Value) (wx : World) : Prop :=
  ∃ (k : Nat) (c : Nat → List Value), s4 = .int .i64 (k : Int) ∧ g + k = ln i ∧ FA W0 n G B us ln c wx ∧ (∀ j, j < n → (c j).length = ln j * 4) ∧ (∀ j, j < i → ∀ t, t < ln j → (c j)[t * 4 + 2]? = some (mkA j t)) ∧ ∀ t, t < k → (c i)[t * 4 + 2]? = some (mkA i t)

def L3 (W0 W1 : World) (n G B : Nat) (us : Nat → Value) (ln : Nat → Nat) (c : Nat → List Value) (g : Nat) (s5 s6 : Value) (wx : World) : Prop :=
  ∃ (i : Nat) (vs : Nat → Value), s6 = .int .i64 (i : Int) ∧ g + i = n ∧ P3 W0 W1 n G B us ln c i i vs s5 wx
def L4 (Wi : World) (B i : Nat) (u : Value) (ln : Nat) (c : List Value) (g : Nat) (s7 s8 : Value) (wx : World) : Prop :=
  ∃ k : Nat, s8 = .int .i64 (k : Int) ∧ g + k = 64 ∧ P4 Wi B i u ln c k s7 wx

set_option maxRecDepth 100000 in
set_option maxHeartbeats 4000000 in
theorem free_any (W0 : World) (n G B cap : Nat) (us : Nat → Value) (ln : Nat → Nat) (c0 : Nat → List Value) (hF : Fam n G B us ln) (h0 : FA W0 n G B us ln c0 W0) (hl0 : ∀ j, j < n → (c0 j).length = ln j * 4) (hB : B ≤ W0.heap.size) :
    Calls Tryz.prog 17 #[.slice (some ⟨G, 0, none⟩) n cap] W0 fun e w' => e = .returned (.bool true) ∧ KR n us W0 w' := by
  have HF : Hid (Fam n G B us ln) := hF
  have H0 : Hid (FA W0 n G B us ln c0 W0 ∧ ∀ j, j < n → (c0 j).length = ln j * 4) := ⟨h0, hl0⟩
  have hn1000 := hF.n0
  clear hF h0 hl0
  go_enter Tryz.func17, Tryz.ntmps17
  go_wp2
  go_loopg [3] n (fun g s3 wx => Hid (L1 W0 n G B us ln g s3 wx))
  case atStart => exact ⟨0, c0, rfl, by omega, H0.out.1, H0.out.2, fun j hj => by omega⟩
  case round =>
    obtain ⟨i, c, rfl, hgi, hfa, hlen, hmk⟩ := hrel.out
    by_cases hin : i < n
    · obtain ⟨ua, uc, hu, -⟩ := HF.out.form i hin
      have hsm := HF.out.small i hin
      obtain ⟨m, hm⟩ : ∃ m, ln i = m := ⟨_, rfl⟩
      rw [hm] at hu hsm
      have hcl := hfa.l i hin
      rw [hu] at hcl
      have hI : (i : Int) < (n : Int) := by omega
      have HC : Hid (FA W0 n G B us ln c wr ∧ (∀ j, j < n → (c j).length = ln j * 4) ∧ (∀ j, j < i → ∀ t, t < ln j → (c j)[t * 4 + 2]? = some (mkA j t))) := ⟨hfa, hlen, hmk⟩
      have HU : Hid _ := hu
      have HM : Hid _ := hm
      clear hfa hlen hmk hu hm hrel
      go_wp2
      go_loopg [4] m (fun g2 s4 wx => Hid (L2 W0 n G B us ln i g2 s4 wx))
      case atStart => exact ⟨0, c, rfl, by rw [HM.out]; omega, HC.out.1, HC.out.2.1, HC.out.2.2, fun t ht => by omega⟩
      case round =>
        obtain ⟨k, c2, rfl, hgk, hfa, hlen, hmk, hmi⟩ := hrel.out
        rw [HM.out] at hgk
        have hcl := hfa.l i hin
        rw [HU.out] at hcl
        by_cases hkm : k < m
        · have hown := hfa.own i hin
          rw [HU.out, HM.out] at hown
          obtain ⟨gu, cu, heq, -, -⟩ := hown.form (by omega)
          cases heq
          have hfz := hown.frozenAt (k * 4 + 2)
          have hcc := hown.cellAt (k * 4 + 2) (by omega)
          obtain ⟨y, hy⟩ : ∃ y, (c2 i)[k * 4 + 2]? = some y := ⟨_, List.getElem?_eq_getElem (by rw [hlen i hin, HM.out]; omega)⟩
          rw [hy] at hcc
          clear hy
          have hkI : (k : Int) < (m : Int) := by omega
          have HFA : Hid _ := hfa.set (k := k * 4 + 2) (b := mkA i k) HF.out hin HU.out HM.out.symm
          have HL : Hid (∀ j, j < n → (c2 j).length = ln j * 4) := hlen
          have HK : Hid ((∀ j, j < i → ∀ t, t < ln j → (c2 j)[t * 4 + 2]? = some (mkA j t)) ∧ ∀ t, t < k → (c2 i)[t * 4 + 2]? = some (mkA i t)) := ⟨hmk, hmi⟩
          clear hfa hlen hmk hmi hrel hown
          unfold mkA at HFA
          go_wp2
          go_roundg (m - (k + 1))
          case measure => omega
          case rel =>
            refine ⟨k + 1, _, by simp, by rw [HM.out]; omega, HFA.out, fun j hj => ?_, fun j hj t ht => ?_, fun t ht => ?_⟩
            · by_cases e : j = i
              · subst e; simp only [if_pos]; rw [List.length_set]; exact HL.out j hj
              · simp only [if_neg e]; exact HL.out j hj
            · simp only [if_neg (show ¬ j = i by omega)]
              exact HK.out.1 j hj t ht
            · simp only [if_pos]
              by_cases e : k = t
              · subst e
                rw [List.getElem?_set_self (by rw [HL.out i hin, HM.out]; omega)]
                rfl
              · rw [List.getElem?_set_ne (by omega)]
                exact HK.out.2 t (by omega)
        · obtain rfl : k = m := by omega
          have HC2 : Hid (FA W0 n G B us ln c2 wr ∧ (∀ j, j < n → (c2 j).length = ln j * 4) ∧ (∀ j, j < i + 1 → ∀ t, t < ln j → (c2 j)[t * 4 + 2]? = some (mkA j t))) := by
            refine ⟨hfa, hlen, fun j hj t ht => ?_⟩
            by_cases e : j = i
            · subst e; exact hmi t (by rw [HM.out] at ht; exact ht)
            · exact hmk j (by omega) t ht
          have hkI : ¬ (k : Int) < (k : Int) := by omega
          clear hfa hlen hmk hmi hrel
          go_wp2
          go_roundg (n - (i + 1))
          case measure => omega
          case rel => exact ⟨i + 1, c2, by simp, by omega, HC2.out.1, HC2.out.2.1, HC2.out.2.2⟩
    · obtain rfl : i = n := by omega
      have hI : ¬ (i : Int) < (i : Int) := by omega
      have HC : Hid (FA W0 i G B us ln c wr ∧ (∀ j, j < i → (c j).length = ln j * 4) ∧ (∀ j, j < i → ∀ t, t < ln j → (c j)[t * 4 + 2]? = some (mkA j t))) := ⟨hfa, hlen, hmk⟩
      clear hfa hlen hmk hrel
      have hn0 : i = 0 ∨ 0 < i := by omega
      have HPC : Hid (PC wr i G us ln c) := ⟨HC.out.2.1, HC.out.2.2, fun j hj g hg => ((HC.out.1.own j hj).lt g hg).2, fun h => cell_lt (HC.out.1.l 0 h)⟩
      have HP0 : Hid (P3 W0 wr i G B us ln c 0 0 us (.slice none 0 0) wr) := by
        refine ⟨HC.out.1.l, fun j _ hj => ?_, fun j hj g hg t ht => ?_, fun j hj => by omega, World.ownsRow_nil _ _ _ _, .inl rfl, HC.out.1.b, Nat.le_refl _⟩
        · exact HC.out.1.own j hj
        · have ho := HC.out.1.own j hj
          obtain ⟨ua, uc, hu, -⟩ := HF.out.form j hj
          rw [hu] at ho hg
          obtain ⟨g2, c2, e2, -, -⟩ := ho.form (by omega)
          rw [e2] at hg ho
          cases hg
          rw [ho.cellAt (t * 4 + 2) (by omega), HC.out.2.2 j hj t ht]
      have H01 : Hid (W0.heap.size ≤ wr.heap.size) := HC.out.1.b.size
      obtain ⟨W1, hW1⟩ : ∃ W1, W1 = wr := ⟨_, rfl⟩
      rw [← hW1] at HPC HP0 H01 ⊢
      clear hW1 HC
      go_wp2
      go_loopg [5, 6] i (fun g s5 s6 wx => Hid (L3 W0 W1 i G B us ln c g s5 s6 wx))
      case atStart => exact ⟨0, us, rfl, by omega, HP0.out⟩
      case round =>
        obtain ⟨a, vs, rfl, hga, hp3⟩ := hrel.out
        by_cases han : a < i
        · obtain ⟨ua, uc, hu, -⟩ := HF.out.form a han
          have hsm := HF.out.small a han
          have hcl := hp3.l a han
          rw [hu] at hcl
          have hA : (a : Int) < (i : Int) := by omega
          have HU : Hid _ := hu
          have HP4 : Hid (P4 wr B a (us a) (ln a) (c a) 0 (us a) wr) := by
            refine ⟨?_, .inl rfl, fun g hg t ht => hp3.rd a han g hg t ht, KR.refl _ _ _⟩
            have := hp3.un a (Nat.le_refl _) han
            rw [show apn a 0 = [] from rfl, List.append_nil]
            exact this
          have HP3 : Hid _ := hp3
          obtain ⟨Wi, hWi⟩ : ∃ Wi, Wi = wr := ⟨_, rfl⟩
          rw [hu] at HP4
          rw [← hWi] at HP3 HP4 hcl ⊢
          obtain ⟨m, hm⟩ : ∃ m, ln a = m := ⟨_, rfl⟩
          rw [hm] at hcl HP4 HU hsm
          have HM : Hid _ := hm
          clear hp3 hu hrel hWi hm
          go_wp2
          go_loopg [7, 8] 64 (fun g s7 s8 wx => Hid (L4 Wi B a (us a) m (c a) g s7 s8 wx))
          case atStart => exact ⟨0, rfl, rfl, by rw [HU.out]; exact HP4.out⟩
          case round =>
            obtain ⟨k, rfl, hgk, hp4⟩ := hrel.out
            have hWs := hp4.ke.size
            have hBi : Hid (B ≤ Wi.heap.size) := Nat.le_trans hB (Nat.le_trans H01.out HP3.out.sz)
            have hBw : B ≤ wr.heap.size := Nat.le_trans hBi.out hWs
            have HQ : Hid _ := hp4
            by_cases hk : k < 64
            · have hkI : (k : Int) < 64 := by omega
              clear hp4 hrel
              go_wp2_with (at_builtin; refine Stop.mk ?_)
              refine Stop.out (keeps24 rfl (.tmp 53) (.tmp 60) rfl B u7 (m + k) _ rfl (World.ownsRow.alloc HQ.out.own _) ⟨wr.heap.size, 0, none⟩ (nd 0 0 (-1000 * (a : Int) - (k : Int) - 1) ⟨#[]⟩) rfl (news_new rfl _ _) (nd_one _ _ _ _) rfl (by omega) (by rw [size_alloc]; omega) ?_)
              intro g9 c9 W9 ho9 hg9 hd9
              have HP9 : Hid (P4 Wi B a (us a) m (c a) (k + 1) (.slice (some ⟨g9, 0, none⟩) (m + k + 1) c9) W9) := by
                exact HQ.out.app (by rw [HPC.out.len a han, HM.out]) (fun t ht => HPC.out.mark a han t (by rw [HM.out]; exact ht)) (fun g hg => Nat.lt_of_lt_of_le (HPC.out.lt a han g hg) HP3.out.sz) ((Below.refl _ _).alloc (Nat.le_refl _) _) ho9 hg9 hd9
              clear ho9 hg9 hd9
              go_wp2
              go_roundg (64 - (k + 1))
              case measure => omega
              case rel => exact ⟨k + 1, by simp, by omega, HP9.out⟩
            · obtain rfl : k = 64 := by omega
              have hkI : ¬ ((64 : Nat) : Int) < 64 := by omega
              obtain ⟨gm, cm, hmv, -, -⟩ := hp4.own.form (by omega)
              have HG : Hid (P3 W0 W1 i G B us ln c (a + 1) a (fun j => if j = a then u7 else vs j) u5 wr) := by
                refine HP3.out.grow HF.out HPC.out han ?_
                rw [HM.out]
                exact hp4
              obtain ⟨i1, hi1, hy0, hy1, hy2⟩ := info_parts info22
              have hW1w : W1.heap.size ≤ wr.heap.size := HG.out.sz
              subst hmv
              clear hp4 hrel HQ HP4
              go_wp2_with (at_builtin; refine Stop.mk ?_)
              refine Stop.out (wpList_append_lies _ rfl (.tmp 62) (.tmp 64) 40 rfl W1.heap.size 25 i1 _ 1 24 Tryz.underlying40 hi1 hy0 hy1 hy2 rfl (by decide) u5 a _ rfl (World.ownsRow.alloc HG.out.pw _) ⟨wr.heap.size, 0, none⟩ 1 1 [.slice (some ⟨gm, 0, none⟩) (m + 64) cm] rfl rfl (World.news_of_block (heap_new wr _)) (by intro u hu; simp at hu; subst hu; rfl) (by decide) (by unfold maxLen; omega) (by omega) (by simp; omega) _ rfl ?_)
              intro g9 c9 W9 ho9 hg9 _ _
              have HP9 : Hid (P3 W0 W1 i G B us ln c (a + 1) (a + 1) (fun j => if j = a then .slice (some ⟨gm, 0, none⟩) (m + 64) cm else vs j) (.slice (some ⟨g9, 0, none⟩) (a + 1) c9) W9) := by
                refine HG.out.push H01.out HPC.out (by omega) ((Below.refl _ _).alloc (Nat.le_refl _) _) hg9 ?_
                simp only [if_pos]
                exact ho9
              clear ho9 hg9
              go_wp2
              go_roundg (i - (a + 1))
              case measure => omega
              case rel => exact ⟨a + 1, _, by simp, by omega, HP9.out⟩
        · obtain rfl : a = i := by omega
          have hA : ¬ (a : Int) < (a : Int) := by omega
          have HP3 : Hid _ := hp3
          clear hp3 hrel
          obtain ⟨W2, hW2⟩ : ∃ W2, W2 = wr := ⟨_, rfl⟩
          rw [← hW2] at HP3 ⊢
          clear hW2
          go_wp2
          go_loopg [9] a (fun g s9 wx => ∃ b : Nat, s9 = .int .i64 (b : Int) ∧ g + b = a ∧ wx = W2)
          case atStart => exact ⟨0, rfl, by omega, rfl⟩
          case round =>
            obtain ⟨b, rfl, hgb, rfl⟩ := hrel
            by_cases hba : b < a
            · obtain ⟨ua, uc, hu, hua⟩ := HF.out.form b hba
              have HUA : Hid _ := hua
              have hsm := HF.out.small b hba
              have hcl := HP3.out.l b hba
              rw [hu] at hcl
              obtain ⟨gp, cp, hpe, -, -⟩ := HP3.out.pw.form (by omega)
              have hpw := HP3.out.pw
              rw [hpe] at hpw
              have hpc := hpw.cellAt b (by omega)
              rw [List.getElem?_map, List.getElem?_range hba] at hpc
              simp only [Option.map_some] at hpc
              obtain ⟨gv, cv, hv1, -, -, hv3⟩ := HP3.out.vg b hba
              rw [hv1] at hpc
              have HRD : Hid _ := HP3.out.rd b hba
              have HV3 : Hid _ := hv3
              obtain ⟨m, hm⟩ : ∃ m, ln b = m := ⟨_, rfl⟩
              rw [hm] at hcl hpc hu hsm
              have HM : Hid _ := hm
              have HU : Hid _ := hu
              have hbI : (b : Int) < (a : Int) := by omega
              subst hpe
              clear hv3 hm hu hpw hv1 hua
              go_wp2
              go_loopg [11] m (fun g s11 wx => ∃ k : Nat, s11 = .int .i64 (k : Int) ∧ g + k = m ∧ wx = wr)
              case atStart => exact ⟨0, rfl, by omega, rfl⟩
              case round =>
                obtain ⟨k, rfl, hgk, rfl⟩ := hrel
                by_cases hkm : k < m
                · obtain ⟨gu, rfl⟩ : ∃ gu, ua = some ⟨gu, 0, none⟩ := HUA.out (by rw [HM.out]; omega)
                  have hc := HRD.out gu (by rw [HU.out]; rfl) k (by rw [HM.out]; exact hkm)
                  unfold mkA at hc
                  have hkI : (k : Int) < (m : Int) := by omega
                  go_wp2
                  go_roundg (m - (k + 1))
                  case measure => omega
                  case rel => exact ⟨k + 1, by simp, by omega, rfl⟩
                · obtain rfl : k = m := by omega
                  have hkI : ¬ (k : Int) < (k : Int) := by omega
                  go_wp2
                  go_loopg [12] 64 (fun g s12 wx => ∃ y : Nat, s12 = .int .i64 (y : Int) ∧ g + y = 64 ∧ wx = wr)
                  case atStart => exact ⟨0, rfl, rfl, rfl⟩
                  case round =>
                    obtain ⟨y, rfl, hgy, rfl⟩ := hrel
                    by_cases hy : y < 64
                    · have hc := HV3.out (k + y) (by rw [HM.out]; omega)
                      rw [if_neg (by rw [HM.out]; omega), HM.out, show k + y - k = y by omega] at hc
                      unfold mkB at hc
                      have hc2 : wr.cell? ⟨gv, (k + y) * 4 + 2, none⟩ = some (.int .i64 (-1000 * (b : Int) - (y : Int) - 1)) := hc
                      have hyI : (y : Int) < 64 := by omega
                      clear hc
                      go_wp2
                      go_roundg (64 - (y + 1))
                      case measure => omega
                      case rel => exact ⟨y + 1, by simp, by omega, rfl⟩
                    · obtain rfl : y = 64 := by omega
                      have hyI : ¬ ((64 : Nat) : Int) < 64 := by omega
                      go_wp2
                      go_roundg (a - (b + 1))
                      case measure => omega
                      case rel => exact ⟨b + 1, by simp, by omega, rfl⟩
            · obtain rfl : b = a := by omega
              have hbI : ¬ (b : Int) < (b : Int) := by omega
              go_wp2
              go_ret
              exact ⟨rfl, HP3.out.kr⟩
end Go.Proofs.YtoikdpjjcnmgeaaGreatDoor.Wk
end

section
/-
  DERIVED. A text that is bumped; nodes that are turned where they lie.
-/
namespace Go.Proofs.YtoikdpjjcnmgeaaGreatDoor.Wk
open Go Go.Proofs Go.RowKit

theorem cell_set_ne {W : World} {b i j : Nat} {v : Value} (h : i ≠ j) : (W.setCell ⟨b, i, none⟩ v).cell? ⟨b, j, none⟩ = W.cell? ⟨b, j, none⟩ := by
  apply World.cell?_setCell_other; simp
theorem cell_set_eq {W : World} {b i : Nat} {v u : Value} (h : W.cell? ⟨b, i, none⟩ = some u) : (W.setCell ⟨b, i, none⟩ v).cell? ⟨b, i, none⟩ = some v := by
  apply World.cell?_setCell_same; exact h

set_option maxRecDepth 100000 in
set_option maxHeartbeats 2000000 in
theorem bump_any (w : World) (s : ByteArray) (hss : s.size ≤ 140737488351232) : Calls Tryz.prog 15 #[.string s] w fun e w' => ∃ q : ByteArray, e = .returned (.string q) ∧ Hid (Below w.heap.size w w') := by
  by_cases h0 : s.size = 0
  · have hs : s = ⟨#[]⟩ := by
      cases s with
      | mk d => cases d with
        | mk l => cases l with
          | nil => rfl
          | cons a l => simp [ByteArray.size] at h0
    subst hs
    go_enter Tryz.func15, Tryz.ntmps15
    go_wp2
    go_ret
    exact ⟨_, rfl, Below.refl _ _⟩
  · have hcv := Lib.run_convert_string_bytes (P := Tryz.prog) w 9 22 5 s Tryz.underlying9 Tryz.underlying22 Tryz.underlying5
    obtain ⟨W1, hW1⟩ : ∃ W1, Lib.bytesWorld w 5 s = W1 := ⟨_, rfl⟩
    have hnew := Lib.bytesWorld_at_new w 5 s
    have hcell : ∀ j, j < s.size → W1.cell? ⟨w.heap.size, j, none⟩ = some (.int .u8 (s.data.toList.getD j 0).toNat) := fun j hj => by rw [← hW1]; exact Lib.bytesWorld_cell w 5 s j hj
    have hsz : s.size ≤ (Lib.bytesCells w 5 s).size := by
      rcases Nat.lt_or_ge (s.size - 1) (Lib.bytesCells w 5 s).size with q | q
      · omega
      · have := Lib.bytesWorld_cell w 5 s (s.size - 1) (by omega)
        rw [cell_of_row _ _ _ _ _ _ hnew] at this
        have := (Array.getElem?_eq_some_iff.1 this).1
        omega
    have hfz : ∀ j, j < s.size → W1.frozen? ⟨w.heap.size, j, none⟩ = false := fun j hj => by
      rw [← hW1, World.frozen?, hnew]
      simp
      omega
    have HB : Hid (Below w.heap.size w W1) := by
      rw [← hW1]
      exact ⟨rfl, rfl, rfl, by rw [Lib.bytesWorld_size]; omega, fun j hj => Lib.bytesWorld_at_old w 5 s j hj⟩
    obtain ⟨cap, hcap⟩ : ∃ cap, grownCap w s.size 0 5 = cap := ⟨_, rfl⟩
    rw [hW1, hcap] at hcv
    obtain ⟨n, hn⟩ : ∃ n, s.size = n + 1 := ⟨s.size - 1, by omega⟩
    rw [hn] at hcv
    have hl : s.data.toList.length = n + 1 := by rw [← hn]; rfl
    have hcn := hcell n (by omega)
    have hfn := hfz n (by omega)
    have hb1 : (convert 22 9 (.slice (some ⟨w.heap.size, 0, none⟩) (n + 1) cap)).run Tryz.prog W1 = .ok (.string ⟨s.data.toList.toArray⟩) W1 := by
      have := run_convert_bytes_back (P := Tryz.prog) W1 22 9 5 ⟨w.heap.size, 0, none⟩ cap s.data.toList Tryz.underlying22 Tryz.underlying5 Tryz.underlying9 (fun j hj => by
        have hc := hcell j (by omega)
        have ha : (⟨w.heap.size, 0, none⟩ : Addr).add j = ⟨w.heap.size, j, none⟩ := by unfold Addr.add; split <;> simp_all
        rw [ha, hc, List.getD_eq_getElem?_getD, List.getElem?_eq_getElem hj]
        rfl)
      rw [hl] at this
      exact this
    obtain ⟨c, hc⟩ : ∃ c, s.data.toList.getD n 0 = c := ⟨_, rfl⟩
    rw [hc] at hcn
    have hb2 : (convert 22 9 (.slice (some ⟨w.heap.size, 0, none⟩) (n + 1) cap)).run Tryz.prog (W1.setCell ⟨w.heap.size, n, none⟩ (.int .u8 ((c + 1).toNat : Int))) = .ok (.string ⟨(s.data.toList.set n (c + 1)).toArray⟩) (W1.setCell ⟨w.heap.size, n, none⟩ (.int .u8 ((c + 1).toNat : Int))) := by
      have := run_convert_bytes_back (P := Tryz.prog) (W1.setCell ⟨w.heap.size, n, none⟩ (.int .u8 ((c + 1).toNat : Int))) 22 9 5 ⟨w.heap.size, 0, none⟩ cap (s.data.toList.set n (c + 1)) Tryz.underlying22 Tryz.underlying5 Tryz.underlying9 (fun j hj => by
        rw [List.length_set] at hj
        have hcj := hcell j (by omega)
        have ha : (⟨w.heap.size, 0, none⟩ : Addr).add j = ⟨w.heap.size, j, none⟩ := by unfold Addr.add; split <;> simp_all
        rw [ha]
        by_cases e : n = j
        · subst e
          rw [cell_set_eq hcn, List.getElem_set_self]
        · rw [cell_set_ne e, hcj, List.getElem_set_ne e, List.getD_eq_getElem?_getD, List.getElem?_eq_getElem hj]
          rfl)
      rw [List.length_set, hl] at this
      exact this
    have HB2 : Hid (Below w.heap.size w (W1.setCell ⟨w.heap.size, n, none⟩ (.int .u8 ((c + 1).toNat : Int)))) := HB.out.setCell (Nat.le_refl _) _
    obtain ⟨z, hz⟩ : ∃ z : Nat, c.toNat = z := ⟨_, rfl⟩
    have hz256 : z < 256 := by rw [← hz]; exact UInt8.toNat_lt c
    rw [hz] at hcn
    have hbe : ((s.toList == ([] : List UInt8))) = false := by
      rw [ByteArray.toList_eq]
      cases h : s.data.toList with
      | nil => rw [h] at hl; simp at hl
      | cons a l => rfl
    have hn2 : n ≤ 140737488351232 := by omega
    by_cases hcd : (48 ≤ z ∧ z ≤ 56) ∨ (65 ≤ z ∧ z ≤ 89) ∨ (97 ≤ z ∧ z ≤ 121)
    · have hz1 : ((c + 1).toNat : Int) = (z : Int) + 1 := by
        rw [UInt8.toNat_add, hz]
        simp
        omega
      rw [hz1] at hb2 HB2
      have hw : ((z : Int) + 1) % 256 = (z : Int) + 1 := by omega
      clear hcell hfz hsz hnew hW1 hl hc hz hcap hb1
      rcases hcd with ⟨h1, h2⟩ | ⟨h1, h2⟩ | ⟨h1, h2⟩
      · have e1 : (48 : Int) ≤ (z : Int) := by omega
        have e2 : (z : Int) ≤ 56 := by omega
        go_enter Tryz.func15, Tryz.ntmps15
        go_wp2
        go_ret
        first | exact ⟨⟨_, rfl⟩, HB2⟩ | exact ⟨_, rfl, HB2⟩
      · have e1 : (48 : Int) ≤ (z : Int) := by omega
        have e2 : ¬ (z : Int) ≤ 56 := by omega
        have e3 : (65 : Int) ≤ (z : Int) := by omega
        have e4 : (z : Int) ≤ 89 := by omega
        go_enter Tryz.func15, Tryz.ntmps15
        go_wp2
        go_ret
        first | exact ⟨⟨_, rfl⟩, HB2⟩ | exact ⟨_, rfl, HB2⟩
      · have e1 : (48 : Int) ≤ (z : Int) := by omega
        have e2 : ¬ (z : Int) ≤ 56 := by omega
        have e3 : (65 : Int) ≤ (z : Int) := by omega
        have e4 : ¬ (z : Int) ≤ 89 := by omega
        have e5 : (97 : Int) ≤ (z : Int) := by omega
        have e6 : (z : Int) ≤ 121 := by omega
        go_enter Tryz.func15, Tryz.ntmps15
        go_wp2
        go_ret
        first | exact ⟨⟨_, rfl⟩, HB2⟩ | exact ⟨_, rfl, HB2⟩
    · clear hcell hfz hsz hnew hW1 hl hc hz hcap hb2 HB2
      have hk : z < 48 ∨ (56 < z ∧ z < 65) ∨ (89 < z ∧ z < 97) ∨ 121 < z := by omega
      clear hcd
      rcases hk with h1 | ⟨h1, h2⟩ | ⟨h1, h2⟩ | h1
      · have e1 : ¬ (48 : Int) ≤ (z : Int) := by omega
        have e3 : ¬ (65 : Int) ≤ (z : Int) := by omega
        have e5 : ¬ (97 : Int) ≤ (z : Int) := by omega
        go_enter Tryz.func15, Tryz.ntmps15
        go_wp2
        go_ret
        first | exact ⟨⟨_, rfl⟩, HB⟩ | exact ⟨_, rfl, HB⟩
      · have e1 : (48 : Int) ≤ (z : Int) := by omega
        have e2 : ¬ (z : Int) ≤ 56 := by omega
        have e3 : ¬ (65 : Int) ≤ (z : Int) := by omega
        have e5 : ¬ (97 : Int) ≤ (z : Int) := by omega
        go_enter Tryz.func15, Tryz.ntmps15
        go_wp2
        go_ret
        first | exact ⟨⟨_, rfl⟩, HB⟩ | exact ⟨_, rfl, HB⟩
      · have e1 : (48 : Int) ≤ (z : Int) := by omega
        have e2 : ¬ (z : Int) ≤ 56 := by omega
        have e3 : (65 : Int) ≤ (z : Int) := by omega
        have e4 : ¬ (z : Int) ≤ 89 := by omega
        have e5 : ¬ (97 : Int) ≤ (z : Int) := by omega
        go_enter Tryz.func15, Tryz.ntmps15
        go_wp2
        go_ret
        first | exact ⟨⟨_, rfl⟩, HB⟩ | exact ⟨_, rfl, HB⟩
      · have e1 : (48 : Int) ≤ (z : Int) := by omega
        have e2 : ¬ (z : Int) ≤ 56 := by omega
        have e3 : (65 : Int) ≤ (z : Int) := by omega
        have e4 : ¬ (z : Int) ≤ 89 := by omega
        have e5 : (97 : Int) ≤ (z : Int) := by omega
        have e6 : ¬ (z : Int) ≤ 121 := by omega
        go_enter Tryz.func15, Tryz.ntmps15
        go_wp2
        go_ret
        first | exact ⟨⟨_, rfl⟩, HB⟩ | exact ⟨_, rfl, HB⟩
end Go.Proofs.YtoikdpjjcnmgeaaGreatDoor.Wk
end

section
/-
  DERIVED. A text that is bumped has its length.
-/
namespace Go.Proofs.YtoikdpjjcnmgeaaGreatDoor.Wk
open Go Go.Proofs Go.RowKit

theorem sz_set (s : ByteArray) (n : Nat) (c : UInt8) : (⟨(s.data.toList.set n c).toArray⟩ : ByteArray).size = s.size := by
  show (s.data.toList.set n c).toArray.size = s.data.size
  rw [List.size_toArray, List.length_set, Array.length_toList]
def BmP (s : ByteArray) (w : World) (e : Ending) (w' : World) : Prop := ∃ q : ByteArray, e = .returned (.string q) ∧ q.size = s.size ∧ Below w.heap.size w w'
set_option maxRecDepth 100000 in
set_option maxHeartbeats 2000000 in
theorem bump_sz (w : World) (s : ByteArray) (hss : s.size ≤ 140737488351232) : Calls Tryz.prog 15 #[.string s] w (BmP s w) := by
  by_cases h0 : s.size = 0
  · have hs : s = ⟨#[]⟩ := by
      cases s with
      | mk d => cases d with
        | mk l => cases l with
          | nil => rfl
          | cons a l => simp [ByteArray.size] at h0
    subst hs
    go_enter Tryz.func15, Tryz.ntmps15
    go_wp2
    go_ret
    exact ⟨_, rfl, rfl, Below.refl _ _⟩
  · have hcv := Lib.run_convert_string_bytes (P := Tryz.prog) w 9 22 5 s Tryz.underlying9 Tryz.underlying22 Tryz.underlying5
    obtain ⟨W1, hW1⟩ : ∃ W1, Lib.bytesWorld w 5 s = W1 := ⟨_, rfl⟩
    have hnew := Lib.bytesWorld_at_new w 5 s
    have hcell : ∀ j, j < s.size → W1.cell? ⟨w.heap.size, j, none⟩ = some (.int .u8 (s.data.toList.getD j 0).toNat) := fun j hj => by rw [← hW1]; exact Lib.bytesWorld_cell w 5 s j hj
    have hsz : s.size ≤ (Lib.bytesCells w 5 s).size := by
      rcases Nat.lt_or_ge (s.size - 1) (Lib.bytesCells w 5 s).size with q | q
      · omega
      · have := Lib.bytesWorld_cell w 5 s (s.size - 1) (by omega)
        rw [cell_of_row _ _ _ _ _ _ hnew] at this
        have := (Array.getElem?_eq_some_iff.1 this).1
        omega
    have hfz : ∀ j, j < s.size → W1.frozen? ⟨w.heap.size, j, none⟩ = false := fun j hj => by
      rw [← hW1, World.frozen?, hnew]
      simp
      omega
    have HB : Hid (Below w.heap.size w W1) := by
      rw [← hW1]
      exact ⟨rfl, rfl, rfl, by rw [Lib.bytesWorld_size]; omega, fun j hj => Lib.bytesWorld_at_old w 5 s j hj⟩
    obtain ⟨cap, hcap⟩ : ∃ cap, grownCap w s.size 0 5 = cap := ⟨_, rfl⟩
    rw [hW1, hcap] at hcv
    obtain ⟨n, hn⟩ : ∃ n, s.size = n + 1 := ⟨s.size - 1, by omega⟩
    rw [hn] at hcv
    have hl : s.data.toList.length = n + 1 := by rw [← hn]; rfl
    have hcn := hcell n (by omega)
    have hfn := hfz n (by omega)
    have hb1 : (convert 22 9 (.slice (some ⟨w.heap.size, 0, none⟩) (n + 1) cap)).run Tryz.prog W1 = .ok (.string ⟨s.data.toList.toArray⟩) W1 := by
      have := run_convert_bytes_back (P := Tryz.prog) W1 22 9 5 ⟨w.heap.size, 0, none⟩ cap s.data.toList Tryz.underlying22 Tryz.underlying5 Tryz.underlying9 (fun j hj => by
        have hc := hcell j (by omega)
        have ha : (⟨w.heap.size, 0, none⟩ : Addr).add j = ⟨w.heap.size, j, none⟩ := by unfold Addr.add; split <;> simp_all
        rw [ha, hc, List.getD_eq_getElem?_getD, List.getElem?_eq_getElem hj]
        rfl)
      rw [hl] at this
      exact this
    obtain ⟨c, hc⟩ : ∃ c, s.data.toList.getD n 0 = c := ⟨_, rfl⟩
    rw [hc] at hcn
    have hb2 : (convert 22 9 (.slice (some ⟨w.heap.size, 0, none⟩) (n + 1) cap)).run Tryz.prog (W1.setCell ⟨w.heap.size, n, none⟩ (.int .u8 ((c + 1).toNat : Int))) = .ok (.string ⟨(s.data.toList.set n (c + 1)).toArray⟩) (W1.setCell ⟨w.heap.size, n, none⟩ (.int .u8 ((c + 1).toNat : Int))) := by
      have := run_convert_bytes_back (P := Tryz.prog) (W1.setCell ⟨w.heap.size, n, none⟩ (.int .u8 ((c + 1).toNat : Int))) 22 9 5 ⟨w.heap.size, 0, none⟩ cap (s.data.toList.set n (c + 1)) Tryz.underlying22 Tryz.underlying5 Tryz.underlying9 (fun j hj => by
        rw [List.length_set] at hj
        have hcj := hcell j (by omega)
        have ha : (⟨w.heap.size, 0, none⟩ : Addr).add j = ⟨w.heap.size, j, none⟩ := by unfold Addr.add; split <;> simp_all
        rw [ha]
        by_cases e : n = j
        · subst e
          rw [cell_set_eq hcn, List.getElem_set_self]
        · rw [cell_set_ne e, hcj, List.getElem_set_ne e, List.getD_eq_getElem?_getD, List.getElem?_eq_getElem hj]
          rfl)
      rw [List.length_set, hl] at this
      exact this
    have HB2 : Hid (Below w.heap.size w (W1.setCell ⟨w.heap.size, n, none⟩ (.int .u8 ((c + 1).toNat : Int)))) := HB.out.setCell (Nat.le_refl _) _
    obtain ⟨z, hz⟩ : ∃ z : Nat, c.toNat = z := ⟨_, rfl⟩
    have hz256 : z < 256 := by rw [← hz]; exact UInt8.toNat_lt c
    rw [hz] at hcn
    have hbe : ((s.toList == ([] : List UInt8))) = false := by
      rw [ByteArray.toList_eq]
      cases h : s.data.toList with
      | nil => rw [h] at hl; simp at hl
      | cons a l => rfl
    have hn2 : n ≤ 140737488351232 := by omega
    by_cases hcd : (48 ≤ z ∧ z ≤ 56) ∨ (65 ≤ z ∧ z ≤ 89) ∨ (97 ≤ z ∧ z ≤ 121)
    · have hz1 : ((c + 1).toNat : Int) = (z : Int) + 1 := by
        rw [UInt8.toNat_add, hz]
        simp
        omega
      rw [hz1] at hb2 HB2
      have hw : ((z : Int) + 1) % 256 = (z : Int) + 1 := by omega
      clear hcell hfz hsz hnew hW1 hl hc hz hcap hb1
      rcases hcd with ⟨h1, h2⟩ | ⟨h1, h2⟩ | ⟨h1, h2⟩
      · have e1 : (48 : Int) ≤ (z : Int) := by omega
        have e2 : (z : Int) ≤ 56 := by omega
        go_enter Tryz.func15, Tryz.ntmps15
        go_wp2
        go_ret
        exact ⟨_, rfl, sz_set _ _ _, HB2.out⟩
      · have e1 : (48 : Int) ≤ (z : Int) := by omega
        have e2 : ¬ (z : Int) ≤ 56 := by omega
        have e3 : (65 : Int) ≤ (z : Int) := by omega
        have e4 : (z : Int) ≤ 89 := by omega
        go_enter Tryz.func15, Tryz.ntmps15
        go_wp2
        go_ret
        exact ⟨_, rfl, sz_set _ _ _, HB2.out⟩
      · have e1 : (48 : Int) ≤ (z : Int) := by omega
        have e2 : ¬ (z : Int) ≤ 56 := by omega
        have e3 : (65 : Int) ≤ (z : Int) := by omega
        have e4 : ¬ (z : Int) ≤ 89 := by omega
        have e5 : (97 : Int) ≤ (z : Int) := by omega
        have e6 : (z : Int) ≤ 121 := by omega
        go_enter Tryz.func15, Tryz.ntmps15
        go_wp2
        go_ret
        exact ⟨_, rfl, sz_set _ _ _, HB2.out⟩
    · clear hcell hfz hsz hnew hW1 hl hc hz hcap hb2 HB2
      have hk : z < 48 ∨ (56 < z ∧ z < 65) ∨ (89 < z ∧ z < 97) ∨ 121 < z := by omega
      clear hcd
      rcases hk with h1 | ⟨h1, h2⟩ | ⟨h1, h2⟩ | h1
      · have e1 : ¬ (48 : Int) ≤ (z : Int) := by omega
        have e3 : ¬ (65 : Int) ≤ (z : Int) := by omega
        have e5 : ¬ (97 : Int) ≤ (z : Int) := by omega
        go_enter Tryz.func15, Tryz.ntmps15
        go_wp2
        go_ret
        exact ⟨_, rfl, rfl, HB.out⟩
      · have e1 : (48 : Int) ≤ (z : Int) := by omega
        have e2 : ¬ (z : Int) ≤ 56 := by omega
        have e3 : ¬ (65 : Int) ≤ (z : Int) := by omega
        have e5 : ¬ (97 : Int) ≤ (z : Int) := by omega
        go_enter Tryz.func15, Tryz.ntmps15
        go_wp2
        go_ret
        exact ⟨_, rfl, rfl, HB.out⟩
      · have e1 : (48 : Int) ≤ (z : Int) := by omega
        have e2 : ¬ (z : Int) ≤ 56 := by omega
        have e3 : (65 : Int) ≤ (z : Int) := by omega
        have e4 : ¬ (z : Int) ≤ 89 := by omega
        have e5 : ¬ (97 : Int) ≤ (z : Int) := by omega
        go_enter Tryz.func15, Tryz.ntmps15
        go_wp2
        go_ret
        exact ⟨_, rfl, rfl, HB.out⟩
      · have e1 : (48 : Int) ≤ (z : Int) := by omega
        have e2 : ¬ (z : Int) ≤ 56 := by omega
        have e3 : (65 : Int) ≤ (z : Int) := by omega
        have e4 : ¬ (z : Int) ≤ 89 := by omega
        have e5 : (97 : Int) ≤ (z : Int) := by omega
        have e6 : ¬ (z : Int) ≤ 121 := by omega
        go_enter Tryz.func15, Tryz.ntmps15
        go_wp2
        go_ret
        exact ⟨_, rfl, rfl, HB.out⟩
end Go.Proofs.YtoikdpjjcnmgeaaGreatDoor.Wk
end
