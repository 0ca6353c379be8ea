import Derived.Test.YtmhjjpdfjilobaaDoorTl
/-
  DERIVED. The law of there and back.
-/
namespace Go.Proofs.YtmhjjpdfjilobaaDoor
open Go Go.Proofs Go.RowKit

def plS (A : List Nat) : List Nat := (A.map fun b => 32 + b % 95).take 65534
/-- The loop that makes ASCII of bytes. -/
def PlInv (W8 : World) (A : List Nat) (n : Nat) (p y : Value) (wr : World) : Prop := ∃ i : Nat, y = .int .i64 (i : Int) ∧ i ≤ n ∧ i ≤ 65534 ∧ Hid (wr.ownsRow W8.heap.size 5 1 p i (u8s ((A.map fun b => 32 + b % 95).take i))) ∧ Hid (Below W8.heap.size W8 wr)
theorem bsZ_tz (s : ByteArray) : bsZ (tz s.data.toList) = s := by
  apply ByteArray.ext
  apply Array.ext'
  rw [bsZ_list, zb_tz]

set_option maxRecDepth 100000 in
set_option maxHeartbeats 8000000 in
theorem back_yes (w : World) (v : Value) (T : List ByteArray) (N : List (Nat × ByteArray)) (x : Bool) (k : Int) (text : ByteArray) (ro ao : Option Addr) (rc ac : Nat) (B A : List Nat) (hr : newS T = .inr (N, x)) (hT : TS w v T) (hsz : ∀ s ∈ T, s.size ≤ 140737488351232)
    (he : Env w) (hVB : V w (.slice ro B.length rc) B) (hVA : V w (.slice ao A.length ac) A) (hlA : A.length ≤ 140737488351232) (hlB : B.length ≤ 140737488351232) :
    Calls Tryd.prog 6 #[v, .int .i64 k, .string text, .slice ro B.length rc, .slice ao A.length ac] w fun e w' => e = .returned (.bool true) ∧ Below w.heap.size w w' := by
  have c18 := known_any w he.sp he.t he.k he.u
  have HNEW : Hid (∀ W, Below w.heap.size w W → Calls Tryd.prog 13 #[v] W fun e w' => ∃ p er, e = .returned (.tuple #[p, er]) ∧ NewAt w' W.heap.size p er (.inr (N, x)) ∧ Below W.heap.size W w') := fun W hb => by
    have := newAll W v T (hT.next hb) hsz (he.sp.on hb)
    rw [hr] at this
    exact this
  have HR : Hid _ := hr
  obtain ⟨tao, tc, rfl, _⟩ := hT
  obtain ⟨n, hn⟩ : ∃ n, A.length = n := ⟨_, rfl⟩
  obtain ⟨m, hm⟩ : ∃ m, B.length = m := ⟨_, rfl⟩
  rw [hn] at hVA hlA ⊢
  rw [hm] at hVB hlB ⊢
  have HN : Hid _ := hn
  have HM : Hid _ := hm
  have HVA : Hid (V w (.slice ao n ac) A) := hVA
  have HVB : Hid (V w (.slice ro m rc) B) := hVB
  have HE : Hid (Env w) := he
  clear hr hsz hVA hVB hn hm he
  go_enter Tryd.func6, Tryd.ntmps6
  go_wp2_with (go_at_call 18; refine Stop.mk ?_)
  refine Stop.out (c18.mono ?_)
  rintro e' W1 ⟨rfl, hb1⟩
  have c13 := HNEW.out W1 hb1
  have HB1 : Hid _ := hb1
  clear c18 hb1
  go_wp2_with (go_at_call 13; refine Stop.mk ?_)
  refine Stop.out (c13.mono ?_)
  rintro e' W2 ⟨p, er, rfl, ⟨q, u, R, rfl, rfl, hq, hset, hnames⟩, hb2⟩
  obtain ⟨a, R0, rfl⟩ : ∃ a R0, R = a :: R0 := by
    cases R with
    | nil =>
      have := (newS_good HR.out).2.1
      rw [← hnames] at this
      simp [namesOf] at this
    | cons a b => exact ⟨a, b, rfl⟩
  obtain ⟨hC, hR6, hterm, ha7⟩ := cond_of HR.out hnames
  have hHC : Hid (Cond x a R0) := hC
  have hLW2 : Hid (Lw w q u a R0 x W2) := by
    have hin := hset.ask hC.n7 (by have := hC.nd; unfold namesOf; rw [List.map_map]; exact this) (by
      cases x with
      | false => exact .inl (by rw [hC.x0 rfl]; rfl)
      | true => exact .inr (fun b hb => by have := hC.x6 rfl b hb; omega))
    exact ⟨HB1.out.trans (hb2.mono HB1.out.size), hin, hset.c1, Nat.le_trans HB1.out.size hq⟩
  have HTRM : Hid (a.2.1 = wri x a.1 ∧ a.1 < 7) := ⟨hterm, ha7⟩
  have HC6 : Hid ((a :: R0).length ≤ 6) := hR6
  clear hset hb2 hnames hC hR6 hterm ha7 c13 HNEW hq HR
  have c21 := encL hLW2.out HE.out HC6.out hHC.out k text
  obtain ⟨F1, hF1⟩ : ∃ F, enS (Pz a R0) a R0 k text = F := ⟨_, rfl⟩
  rw [hF1] at c21
  have HF1 : Hid _ := hF1
  clear hF1
  cases F1 with
  | error ic =>
    go_wp2_with (go_at_call 21; refine Stop.mk ?_)
    refine Stop.out (c21.mono ?_)
    rintro e' W3 ⟨⟨gq, rfl⟩, hl3, -⟩
    have HL : Hid (Lw w q u a R0 x W3) := hl3
    clear c21 hl3
    have c20 := decL HL.out HE.out HC6.out hHC.out k (HVB.out.next HL.out.b)
    obtain ⟨F2, hF2⟩ : ∃ F, dcS x a R0 k (arr B) = F := ⟨_, rfl⟩
    rw [hF2] at c20
    have HF2 : Hid _ := hF2
    clear hF2
    cases F2 with
    | error ic2 =>
      obtain ⟨i2, c2⟩ := ic2
      simp only [strF, errF] at c20
      go_wp2_with (go_at_call 20; refine Stop.mk ?_)
      refine Stop.out (c20.mono ?_)
      rintro e' W5 ⟨er, rfl, ⟨gq2, rfl, -⟩, hb5⟩
      have HL8 : Hid (Lw w q u a R0 x W5) := HL.out.on hb5
      clear c20 hb5
      obtain ⟨W8, hW8⟩ : ∃ W8, W8 = W5 := ⟨_, rfl⟩
      rw [← hW8] at HL8 ⊢
      clear hW8
      go_wp2
      go_loopw [23, 24] (fun p y wr => PlInv W8 A n p y wr) (fun _ y _ => n - (intOf y).toNat)
      case atStart => exact ⟨0, rfl, by omega, by omega, World.ownsRow_nil _ _ _ _, Below.refl _ _⟩
      case round =>
        obtain ⟨i, rfl, hi, hi2, HO, HBr⟩ := hrel
        have HLr : Hid (Lw w q u a R0 x wr) := HL8.out.on HBr.out
        by_cases h12 : i < n ∧ i < 65534
        · obtain ⟨h1, h2⟩ := h12
          obtain ⟨b, off, rfl, hAt⟩ : ∃ b off, ao = some ⟨b, off, none⟩ ∧ At wr b off A := by
            obtain ⟨ao', cap', he, hf, -⟩ := (HVA.out.next HLr.out.b).form
            cases he
            exact hf (by rw [HN.out]; omega)
          obtain ⟨y, hy⟩ : ∃ y, A.getD i 0 = y := ⟨_, rfl⟩
          have hc := hAt.1 i (by rw [HN.out]; exact h1)
          rw [hy] at hc
          have hy256 : y < 256 := by
            rw [← hy, List.getD_eq_getElem?_getD, List.getElem?_eq_getElem (by rw [HN.out]; exact h1)]
            exact hAt.2 _ (List.getElem_mem _)
          have HTK : Hid ((A.map fun b => 32 + b % 95).take (i + 1) = (A.map fun b => 32 + b % 95).take i ++ [32 + y % 95]) := by
            show _ = _
            have hlt : i < A.length := by rw [HN.out]; exact h1
            rw [List.take_add_one, List.getElem?_map, List.getElem?_eq_getElem hlt]
            have : A[i]'hlt = y := by rw [← hy, List.getD_eq_getElem?_getD, List.getElem?_eq_getElem hlt]; rfl
            rw [this]
            rfl
          obtain ⟨z, hz⟩ : ∃ z, y % 95 = z := ⟨_, rfl⟩
          rw [hz] at HTK
          have hzl : z < 95 := by omega
          have hmod : Int.tmod (y : Int) 95 = (z : Int) := by rw [Int.tmod_eq_emod_of_nonneg (by omega)]; omega
          have hI1 : (i : Int) < (n : Int) := by omega
          have hI2 : (i : Int) < 65534 := by omega
          obtain ⟨i0, hi0, hz0, hz1, hz2⟩ := info_parts Tryd.info5
          clear hAt hy hz
          go_wp2_with (at_builtin; refine Stop.mk ?_)
          refine Stop.out (wpList_append_own _ rfl (.tmp 144) (.tmp 151) 43 rfl W8.heap.size 5 i0 _ 1 1 Tryd.underlying43 hi0 hz0 hz1 hz2 rfl (by decide) u23 i _ rfl (World.ownsRow.alloc HO.out _) ⟨wr.heap.size, 0, none⟩ 1 1 [.int .u8 (32 + (z : Int))] rfl rfl ?_ ?_ ?_ ?_ ?_ ?_)
          · exact cell_one_new _ _ _
          · intro z hz; simp at hz; subst hz; rfl
          · unfold maxLen; omega
          · omega
          · have := HBr.out.size; simp; omega
          · intro v4 W4 hown4 hg4 _
            have HO4 : Hid (W4.ownsRow W8.heap.size 5 1 v4 (i + 1) (u8s ((A.map fun b => 32 + b % 95).take (i + 1)))) := by
              show W4.ownsRow _ _ _ _ _ _
              rw [HTK.out, u8s_append]
              exact hown4
            have HB4 : Hid (Below W8.heap.size W8 W4) := (HBr.out.alloc HBr.out.size _).grown hg4 (by have := HBr.out.size; simp; omega) (fun r e => (World.ownsRow.lt HO.out r e).1)
            clear hown4 hg4
            go_wp2
            go_roundw
            case rel => exact ⟨i + 1, by simp, by omega, by omega, HO4.out, HB4.out⟩
            case measure => simp [intOf]; omega
        · have hw3 : ((i : Int) < (n : Int) ∧ ¬ (i : Int) < 65534) ∨ ¬ (i : Int) < (n : Int) := by omega
          have HI2 : Hid (i ≤ 65534) := hi2
          have hbyt : ∀ z ∈ (A.map fun b => 32 + b % 95).take i, 32 ≤ z ∧ z ≤ 126 := by
            intro z hz
            obtain ⟨b, -, rfl⟩ := List.mem_map.1 (List.mem_of_mem_take hz)
            omega
          have hpl : ((A.map fun b => 32 + b % 95).take i).length = i := by rw [List.length_take, List.length_map, HN.out]; omega
          generalize (A.map fun b => 32 + b % 95).take i = PL at *
          have hown := HO.out
          obtain ⟨pa, pc, rfl⟩ : ∃ pa pc, u23 = .slice pa i pc := by
            rcases hown.2 with ⟨rfl, h0⟩ | ⟨g, cap, cur, hv, _⟩
            · exact ⟨none, 0, by rw [h0]⟩
            · exact ⟨_, _, hv⟩
          have HVP : Hid (∀ W, W.ownsRow W8.heap.size 5 1 (.slice pa i pc) i (u8s PL) → V W (.slice pa i pc) PL ∧ (convert 43 9 (.slice pa i pc)).run Tryd.prog W = .ok (.string (arr PL)) W) := fun W ho => by
            have hV : V W (.slice pa i pc) PL := own_v (B := W8.heap.size) (by rw [hpl]; exact ho) (fun z hz => by have := hbyt z hz; omega)
            obtain ⟨ao', cap', he, -, hbs⟩ := hV.bs
            rw [arr_size, hpl] at he
            cases he
            have := hbs.conv (cap := pc)
            rw [arr_size, hpl] at this
            exact ⟨hV, this⟩
          have hcv := (HVP.out wr hown).2
          clear hi2 h12
          rcases (show k < 0 ∨ (¬ k < 0 ∧ 2 < k) ∨ (¬ k < 0 ∧ ¬ 2 < k) by omega) with hk1 | ⟨hk1, hk2⟩ | ⟨hk1, hk2⟩
          · rcases hw3 with ⟨ha1, ha2⟩ | ha1
            all_goals
              go_wp2
              go_ret
              exact ⟨rfl, HLr.out.b⟩
          · rcases hw3 with ⟨ha1, ha2⟩ | ha1
            all_goals
              go_wp2
              go_ret
              exact ⟨rfl, HLr.out.b⟩
          · obtain ⟨j, hj, rfl⟩ : ∃ j : Nat, j < 3 ∧ k = (j : Int) := ⟨k.toNat, by omega, by omega⟩
            have hab := ascii_both hHC.out hj (s := arr PL) (by rw [arr_size, hpl]; exact HI2.out) (fun b hb => by
              have : (arr PL).data.toList = PL.map fun b => b.toUInt8 := by simp [arr]
              rw [this] at hb
              obtain ⟨z, hz, rfl⟩ := List.mem_map.1 hb
              have := hbyt z hz
              have e : (z.toUInt8).toNat = z := by simp; omega
              rw [e]
              exact this)
            have hmap : (tz (arr PL).data.toList).map Int.toNat = PL := by
              have : (arr PL).data.toList = PL.map fun b => b.toUInt8 := by simp [arr]
              rw [this]
              unfold tz
              rw [List.map_map, List.map_map]
              have : PL.map (fun b => b) = PL := List.map_id' _
              refine Eq.trans (List.map_congr_left fun z hz => ?_) this
              have := hbyt z hz
              show (((z.toUInt8).toNat : Int)).toNat = z
              have e : (z.toUInt8).toNat = z := by simp; omega
              rw [e]
              rfl
            have c21 := encL HLr.out HE.out HC6.out hHC.out (j : Int) (arr PL)
            rw [hab.1] at c21
            have HAB : Hid _ := hab.2
            have HMAP : Hid _ := hmap
            have HPL : Hid (PL.length = i) := hpl
            clear hab hmap hbyt hown hpl
            generalize hAP : arr PL = AP at c21 hcv HAB HMAP HVP
            have hAPs : AP.size = i := by rw [← hAP, arr_size]; exact HPL.out
            have HAP : Hid _ := hAP
            clear hAP
            rcases hw3 with ⟨ha1, ha2⟩ | ha1
            all_goals
              go_wp2_with (go_at_call 21; refine Stop.mk ?_)
              refine Stop.out (c21.mono ?_)
              rintro e' W9 ⟨⟨co, cc, rfl, hVc⟩, hl9, hk9⟩
              have hVP9 := HVP.out W9 (own_far hk9 HO.out (fun r hr => (HL8.out.far r hr).2.2))
              have c22 := bytL hVc hVP9.1 (by rw [HMAP.out, HPL.out]; have := HI2.out; omega)
              rw [HMAP.out, decide_eq_true rfl] at c22
              have HL9 : Hid _ := hl9
              have HO9 : Hid _ := own_far hk9 HO.out (fun r hr => (HL8.out.far r hr).2.2)
              clear c21 hVc hl9 hk9 hVP9 hcv
              go_wp2_with (go_at_call 22; refine Stop.mk ?_)
              refine Stop.out (c22.mono ?_)
              rintro e' W10 ⟨rfl, hb10⟩
              have HL10 : Hid _ := HL9.out.on hb10
              have HO10 : Hid (W10.ownsRow W8.heap.size 5 1 (.slice pa i pc) i (u8s PL)) := ownsRow_below HO9.out hb10 (Nat.le_refl _)
              have c20 := decL HL10.out HE.out HC6.out hHC.out (j : Int) (HVP.out W10 HO10.out).1
              rw [HAP.out, HAB.out] at c20
              simp only [strF, errF] at c20
              rw [bsZ_tz] at c20
              clear c22 hb10
              go_wp2_with (go_at_call 20; refine Stop.mk ?_)
              refine Stop.out (c20.mono ?_)
              rintro e' W11 ⟨er, rfl, her, hb11⟩
              obtain rfl : er = .nilIface := her
              have hcv := (HVP.out W11 (ownsRow_below HO10.out hb11 (Nat.le_refl _))).2
              have HB11 : Hid (Below w.heap.size w W11) := (HL10.out.on hb11).b
              clear c20 hb11
              go_wp2
              go_ret
              exact ⟨by simp, HB11.out⟩
    | ok t =>
      simp only [strF, errF] at c20
      go_wp2_with (go_at_call 20; refine Stop.mk ?_)
      refine Stop.out (c20.mono ?_)
      rintro e' W5 ⟨er, rfl, her, hb5⟩
      obtain rfl : er = .nilIface := her
      have HL5 : Hid (Lw w q u a R0 x W5) := HL.out.on hb5
      obtain ⟨ht, hx0, h16⟩ := dc_en hHC.out HF2.out
      have HT : Hid _ := ht
      have c21 := encL HL5.out HE.out HC6.out hHC.out k (bsZ t)
      obtain ⟨F3, hF3⟩ : ∃ F, enS (Pz a R0) a R0 k (bsZ t) = F := ⟨_, rfl⟩
      rw [hF3] at c21 hx0 h16
      have HF3 : Hid _ := hF3
      have HX0 : Hid _ := hx0
      have H16 : Hid _ := h16
      have htl : (bsZ t).size = t.length := bsZ_size t
      clear hF3 ht hx0 h16 c20 hb5
      cases F3 with
      | error ic3 =>
        obtain rfl : x = true := by
          cases x with
          | true => rfl
          | false => have := HX0.out rfl; cases this
        have hlen : ¬ (((bsZ t).size : Int) ≤ 16000) := by
          intro hle
          obtain ⟨c, hc⟩ := H16.out (by omega)
          cases hc
        generalize bsZ t = tb at *
        go_wp2_with (go_at_call 21; refine Stop.mk ?_)
        refine Stop.out (c21.mono ?_)
        rintro e' W6 ⟨⟨g3, rfl⟩, hl6, -⟩
        have HL6 : Hid (Lw w q u a R0 true W6) := hl6
        have c9 := termL hl6 HC6.out
        clear c21 hl6
        obtain ⟨TT, hTT⟩ : ∃ TT, a.2.1 = TT := ⟨_, rfl⟩
        rw [hTT] at c9
        have hTf := wri_facts true ⟨a.1, HTRM.out.2⟩
        simp only at hTf
        rw [← HTRM.out.1, hTT] at hTf
        have hT8 : ¬ ((TT.size : Int) < 8) := by omega
        have hTz : 3 < TT.size := by omega
        have hT3 : ((TT[3]'hTz).toNat : Int) = 32 := by
          rw [← bsT_at hTz]
          have := hTf.2
          simp only [if_true] at this
          unfold bsT
          omega
        obtain ⟨nR, hnR⟩ : ∃ nR, R0.length = nR := ⟨_, rfl⟩
        rw [hnR] at c9
        have hnb : (((nR : Int) + 1) == 0) = false := by simp; omega
        clear hTf hTT hnR
        go_wp2_with (go_at_call 9; refine Stop.mk ?_)
        refine Stop.out (c9.mono ?_)
        rintro e' W7 ⟨g9, cp9, rfl, hc9, hb7⟩
        have HL8 : Hid (Lw w q u a R0 true W7) := HL6.out.on hb7
        clear c9 hb7
        obtain ⟨W8, hW8⟩ : ∃ W8, W8 = W7 := ⟨_, rfl⟩
        rw [← hW8] at HL8 hc9 ⊢
        clear hW8
        go_wp2
        clear hc9
        go_loopw [23, 24] (fun p y wr => PlInv W8 A n p y wr) (fun _ y _ => n - (intOf y).toNat)
        case atStart => exact ⟨0, rfl, by omega, by omega, World.ownsRow_nil _ _ _ _, Below.refl _ _⟩
        case round =>
          obtain ⟨i, rfl, hi, hi2, HO, HBr⟩ := hrel
          have HLr : Hid (Lw w q u a R0 true wr) := HL8.out.on HBr.out
          by_cases h12 : i < n ∧ i < 65534
          · obtain ⟨h1, h2⟩ := h12
            obtain ⟨b, off, rfl, hAt⟩ : ∃ b off, ao = some ⟨b, off, none⟩ ∧ At wr b off A := by
              obtain ⟨ao', cap', he, hf, -⟩ := (HVA.out.next HLr.out.b).form
              cases he
              exact hf (by rw [HN.out]; omega)
            obtain ⟨y, hy⟩ : ∃ y, A.getD i 0 = y := ⟨_, rfl⟩
            have hc := hAt.1 i (by rw [HN.out]; exact h1)
            rw [hy] at hc
            have hy256 : y < 256 := by
              rw [← hy, List.getD_eq_getElem?_getD, List.getElem?_eq_getElem (by rw [HN.out]; exact h1)]
              exact hAt.2 _ (List.getElem_mem _)
            have HTK : Hid ((A.map fun b => 32 + b % 95).take (i + 1) = (A.map fun b => 32 + b % 95).take i ++ [32 + y % 95]) := by
              show _ = _
              have hlt : i < A.length := by rw [HN.out]; exact h1
              rw [List.take_add_one, List.getElem?_map, List.getElem?_eq_getElem hlt]
              have : A[i]'hlt = y := by rw [← hy, List.getD_eq_getElem?_getD, List.getElem?_eq_getElem hlt]; rfl
              rw [this]
              rfl
            obtain ⟨z, hz⟩ : ∃ z, y % 95 = z := ⟨_, rfl⟩
            rw [hz] at HTK
            have hzl : z < 95 := by omega
            have hmod : Int.tmod (y : Int) 95 = (z : Int) := by rw [Int.tmod_eq_emod_of_nonneg (by omega)]; omega
            have hI1 : (i : Int) < (n : Int) := by omega
            have hI2 : (i : Int) < 65534 := by omega
            obtain ⟨i0, hi0, hz0, hz1, hz2⟩ := info_parts Tryd.info5
            clear hAt hy hz
            go_wp2_with (at_builtin; refine Stop.mk ?_)
            refine Stop.out (wpList_append_own _ rfl (.tmp 144) (.tmp 151) 43 rfl W8.heap.size 5 i0 _ 1 1 Tryd.underlying43 hi0 hz0 hz1 hz2 rfl (by decide) u23 i _ rfl (World.ownsRow.alloc HO.out _) ⟨wr.heap.size, 0, none⟩ 1 1 [.int .u8 (32 + (z : Int))] rfl rfl ?_ ?_ ?_ ?_ ?_ ?_)
            · exact cell_one_new _ _ _
            · intro z hz; simp at hz; subst hz; rfl
            · unfold maxLen; omega
            · omega
            · have := HBr.out.size; simp; omega
            · intro v4 W4 hown4 hg4 _
              have HO4 : Hid (W4.ownsRow W8.heap.size 5 1 v4 (i + 1) (u8s ((A.map fun b => 32 + b % 95).take (i + 1)))) := by
                show W4.ownsRow _ _ _ _ _ _
                rw [HTK.out, u8s_append]
                exact hown4
              have HB4 : Hid (Below W8.heap.size W8 W4) := (HBr.out.alloc HBr.out.size _).grown hg4 (by have := HBr.out.size; simp; omega) (fun r e => (World.ownsRow.lt HO.out r e).1)
              clear hown4 hg4
              go_wp2
              go_roundw
              case rel => exact ⟨i + 1, by simp, by omega, by omega, HO4.out, HB4.out⟩
              case measure => simp [intOf]; omega
          · have hw3 : ((i : Int) < (n : Int) ∧ ¬ (i : Int) < 65534) ∨ ¬ (i : Int) < (n : Int) := by omega
            have HI2 : Hid (i ≤ 65534) := hi2
            have hbyt : ∀ z ∈ (A.map fun b => 32 + b % 95).take i, 32 ≤ z ∧ z ≤ 126 := by
              intro z hz
              obtain ⟨b, -, rfl⟩ := List.mem_map.1 (List.mem_of_mem_take hz)
              omega
            have hpl : ((A.map fun b => 32 + b % 95).take i).length = i := by rw [List.length_take, List.length_map, HN.out]; omega
            generalize (A.map fun b => 32 + b % 95).take i = PL at *
            have hown := HO.out
            obtain ⟨pa, pc, rfl⟩ : ∃ pa pc, u23 = .slice pa i pc := by
              rcases hown.2 with ⟨rfl, h0⟩ | ⟨g, cap, cur, hv, _⟩
              · exact ⟨none, 0, by rw [h0]⟩
              · exact ⟨_, _, hv⟩
            have HVP : Hid (∀ W, W.ownsRow W8.heap.size 5 1 (.slice pa i pc) i (u8s PL) → V W (.slice pa i pc) PL ∧ (convert 43 9 (.slice pa i pc)).run Tryd.prog W = .ok (.string (arr PL)) W) := fun W ho => by
              have hV : V W (.slice pa i pc) PL := own_v (B := W8.heap.size) (by rw [hpl]; exact ho) (fun z hz => by have := hbyt z hz; omega)
              obtain ⟨ao', cap', he, -, hbs⟩ := hV.bs
              rw [arr_size, hpl] at he
              cases he
              have := hbs.conv (cap := pc)
              rw [arr_size, hpl] at this
              exact ⟨hV, this⟩
            have hcv := (HVP.out wr hown).2
            clear hi2 h12
            rcases (show k < 0 ∨ (¬ k < 0 ∧ 2 < k) ∨ (¬ k < 0 ∧ ¬ 2 < k) by omega) with hk1 | ⟨hk1, hk2⟩ | ⟨hk1, hk2⟩
            · rcases hw3 with ⟨ha1, ha2⟩ | ha1
              all_goals
                go_wp2
                go_ret
                exact ⟨rfl, HLr.out.b⟩
            · rcases hw3 with ⟨ha1, ha2⟩ | ha1
              all_goals
                go_wp2
                go_ret
                exact ⟨rfl, HLr.out.b⟩
            · obtain ⟨j, hj, rfl⟩ : ∃ j : Nat, j < 3 ∧ k = (j : Int) := ⟨k.toNat, by omega, by omega⟩
              have hab := ascii_both hHC.out hj (s := arr PL) (by rw [arr_size, hpl]; exact HI2.out) (fun b hb => by
                have : (arr PL).data.toList = PL.map fun b => b.toUInt8 := by simp [arr]
                rw [this] at hb
                obtain ⟨z, hz, rfl⟩ := List.mem_map.1 hb
                have := hbyt z hz
                have e : (z.toUInt8).toNat = z := by simp; omega
                rw [e]
                exact this)
              have hmap : (tz (arr PL).data.toList).map Int.toNat = PL := by
                have : (arr PL).data.toList = PL.map fun b => b.toUInt8 := by simp [arr]
                rw [this]
                unfold tz
                rw [List.map_map, List.map_map]
                have : PL.map (fun b => b) = PL := List.map_id' _
                refine Eq.trans (List.map_congr_left fun z hz => ?_) this
                have := hbyt z hz
                show (((z.toUInt8).toNat : Int)).toNat = z
                have e : (z.toUInt8).toNat = z := by simp; omega
                rw [e]
                rfl
              have c21 := encL HLr.out HE.out HC6.out hHC.out (j : Int) (arr PL)
              rw [hab.1] at c21
              have HAB : Hid _ := hab.2
              have HMAP : Hid _ := hmap
              have HPL : Hid (PL.length = i) := hpl
              clear hab hmap hbyt hown hpl
              generalize hAP : arr PL = AP at c21 hcv HAB HMAP HVP
              have hAPs : AP.size = i := by rw [← hAP, arr_size]; exact HPL.out
              have HAP : Hid _ := hAP
              clear hAP
              rcases hw3 with ⟨ha1, ha2⟩ | ha1
              all_goals
                go_wp2_with (go_at_call 21; refine Stop.mk ?_)
                refine Stop.out (c21.mono ?_)
                rintro e' W9 ⟨⟨co, cc, rfl, hVc⟩, hl9, hk9⟩
                have hVP9 := HVP.out W9 (own_far hk9 HO.out (fun r hr => (HL8.out.far r hr).2.2))
                have c22 := bytL hVc hVP9.1 (by rw [HMAP.out, HPL.out]; have := HI2.out; omega)
                rw [HMAP.out, decide_eq_true rfl] at c22
                have HL9 : Hid _ := hl9
                have HO9 : Hid _ := own_far hk9 HO.out (fun r hr => (HL8.out.far r hr).2.2)
                clear c21 hVc hl9 hk9 hVP9 hcv
                go_wp2_with (go_at_call 22; refine Stop.mk ?_)
                refine Stop.out (c22.mono ?_)
                rintro e' W10 ⟨rfl, hb10⟩
                have HL10 : Hid _ := HL9.out.on hb10
                have HO10 : Hid (W10.ownsRow W8.heap.size 5 1 (.slice pa i pc) i (u8s PL)) := ownsRow_below HO9.out hb10 (Nat.le_refl _)
                have c20 := decL HL10.out HE.out HC6.out hHC.out (j : Int) (HVP.out W10 HO10.out).1
                rw [HAP.out, HAB.out] at c20
                simp only [strF, errF] at c20
                rw [bsZ_tz] at c20
                clear c22 hb10
                go_wp2_with (go_at_call 20; refine Stop.mk ?_)
                refine Stop.out (c20.mono ?_)
                rintro e' W11 ⟨er, rfl, her, hb11⟩
                obtain rfl : er = .nilIface := her
                have hcv := (HVP.out W11 (ownsRow_below HO10.out hb11 (Nat.le_refl _))).2
                have HB11 : Hid (Below w.heap.size w W11) := (HL10.out.on hb11).b
                clear c20 hb11
                go_wp2
                go_ret
                exact ⟨by simp, HB11.out⟩
      | ok o3 =>
        cases x with
        | true =>
          have hd := en_dc hHC.out HF3.out
          have HD : Hid _ := hd
          clear hd
          generalize bsZ t = tb at *
          have hid2 : (tb.toList != tb.toList) = false := by simp
          go_wp2_with (go_at_call 21; refine Stop.mk ?_)
          refine Stop.out (c21.mono ?_)
          rintro e' W6 ⟨⟨co, cc, rfl, hV6⟩, hl6, -⟩
          have HL6 : Hid (Lw w q u a R0 true W6) := hl6
          have HV6 : Hid (V W6 (.slice co o3.length cc) (o3.map Int.toNat)) := hV6
          have c9 := termL hl6 HC6.out
          clear c21 hl6 hV6
          obtain ⟨TT, hTT⟩ : ∃ TT, a.2.1 = TT := ⟨_, rfl⟩
          rw [hTT] at c9
          have hTf := wri_facts true ⟨a.1, HTRM.out.2⟩
          simp only at hTf
          rw [← HTRM.out.1, hTT] at hTf
          have hT8 : ¬ ((TT.size : Int) < 8) := by omega
          have hTz : 3 < TT.size := by omega
          have hT3 : ((TT[3]'hTz).toNat : Int) = 32 := by
            rw [← bsT_at hTz]
            have := hTf.2
            simp only [if_true] at this
            unfold bsT
            omega
          obtain ⟨nR, hnR⟩ : ∃ nR, R0.length = nR := ⟨_, rfl⟩
          rw [hnR] at c9
          have hnb : (((nR : Int) + 1) == 0) = false := by simp; omega
          clear hTf hTT hnR
          go_wp2_with (go_at_call 9; refine Stop.mk ?_)
          refine Stop.out (c9.mono ?_)
          rintro e' W7 ⟨g9, cp9, rfl, hc9, hb7⟩
          have HL7 : Hid (Lw w q u a R0 true W7) := HL6.out.on hb7
          have HV7 : Hid (V W7 (.slice co o3.length cc) (o3.map Int.toNat)) := V.next HV6.out hb7
          clear c9 hb7
          have c20 := decL HL7.out HE.out HC6.out hHC.out k HV7.out
          rw [arr_z, HD.out] at c20
          simp only [strF, errF] at c20
          rw [bsZ_tz] at c20
          go_wp2_with (go_at_call 20; refine Stop.mk ?_)
          refine Stop.out (c20.mono ?_)
          rintro e' W8 ⟨er, rfl, her, hb8⟩
          obtain rfl : er = .nilIface := her
          have HL8 : Hid (Lw w q u a R0 true W8) := HL7.out.on hb8
          clear c20 hb8
          go_wp2
          go_loopw [23, 24] (fun p y wr => PlInv W8 A n p y wr) (fun _ y _ => n - (intOf y).toNat)
          case atStart => exact ⟨0, rfl, by omega, by omega, World.ownsRow_nil _ _ _ _, Below.refl _ _⟩
          case round =>
            obtain ⟨i, rfl, hi, hi2, HO, HBr⟩ := hrel
            have HLr : Hid (Lw w q u a R0 true wr) := HL8.out.on HBr.out
            by_cases h12 : i < n ∧ i < 65534
            · obtain ⟨h1, h2⟩ := h12
              obtain ⟨b, off, rfl, hAt⟩ : ∃ b off, ao = some ⟨b, off, none⟩ ∧ At wr b off A := by
                obtain ⟨ao', cap', he, hf, -⟩ := (HVA.out.next HLr.out.b).form
                cases he
                exact hf (by rw [HN.out]; omega)
              obtain ⟨y, hy⟩ : ∃ y, A.getD i 0 = y := ⟨_, rfl⟩
              have hc := hAt.1 i (by rw [HN.out]; exact h1)
              rw [hy] at hc
              have hy256 : y < 256 := by
                rw [← hy, List.getD_eq_getElem?_getD, List.getElem?_eq_getElem (by rw [HN.out]; exact h1)]
                exact hAt.2 _ (List.getElem_mem _)
              have HTK : Hid ((A.map fun b => 32 + b % 95).take (i + 1) = (A.map fun b => 32 + b % 95).take i ++ [32 + y % 95]) := by
                show _ = _
                have hlt : i < A.length := by rw [HN.out]; exact h1
                rw [List.take_add_one, List.getElem?_map, List.getElem?_eq_getElem hlt]
                have : A[i]'hlt = y := by rw [← hy, List.getD_eq_getElem?_getD, List.getElem?_eq_getElem hlt]; rfl
                rw [this]
                rfl
              obtain ⟨z, hz⟩ : ∃ z, y % 95 = z := ⟨_, rfl⟩
              rw [hz] at HTK
              have hzl : z < 95 := by omega
              have hmod : Int.tmod (y : Int) 95 = (z : Int) := by rw [Int.tmod_eq_emod_of_nonneg (by omega)]; omega
              have hI1 : (i : Int) < (n : Int) := by omega
              have hI2 : (i : Int) < 65534 := by omega
              obtain ⟨i0, hi0, hz0, hz1, hz2⟩ := info_parts Tryd.info5
              clear hAt hy hz
              go_wp2_with (at_builtin; refine Stop.mk ?_)
              refine Stop.out (wpList_append_own _ rfl (.tmp 144) (.tmp 151) 43 rfl W8.heap.size 5 i0 _ 1 1 Tryd.underlying43 hi0 hz0 hz1 hz2 rfl (by decide) u23 i _ rfl (World.ownsRow.alloc HO.out _) ⟨wr.heap.size, 0, none⟩ 1 1 [.int .u8 (32 + (z : Int))] rfl rfl ?_ ?_ ?_ ?_ ?_ ?_)
              · exact cell_one_new _ _ _
              · intro z hz; simp at hz; subst hz; rfl
              · unfold maxLen; omega
              · omega
              · have := HBr.out.size; simp; omega
              · intro v4 W4 hown4 hg4 _
                have HO4 : Hid (W4.ownsRow W8.heap.size 5 1 v4 (i + 1) (u8s ((A.map fun b => 32 + b % 95).take (i + 1)))) := by
                  show W4.ownsRow _ _ _ _ _ _
                  rw [HTK.out, u8s_append]
                  exact hown4
                have HB4 : Hid (Below W8.heap.size W8 W4) := (HBr.out.alloc HBr.out.size _).grown hg4 (by have := HBr.out.size; simp; omega) (fun r e => (World.ownsRow.lt HO.out r e).1)
                clear hown4 hg4
                go_wp2
                go_roundw
                case rel => exact ⟨i + 1, by simp, by omega, by omega, HO4.out, HB4.out⟩
                case measure => simp [intOf]; omega
            · have hw3 : ((i : Int) < (n : Int) ∧ ¬ (i : Int) < 65534) ∨ ¬ (i : Int) < (n : Int) := by omega
              have HI2 : Hid (i ≤ 65534) := hi2
              have hbyt : ∀ z ∈ (A.map fun b => 32 + b % 95).take i, 32 ≤ z ∧ z ≤ 126 := by
                intro z hz
                obtain ⟨b, -, rfl⟩ := List.mem_map.1 (List.mem_of_mem_take hz)
                omega
              have hpl : ((A.map fun b => 32 + b % 95).take i).length = i := by rw [List.length_take, List.length_map, HN.out]; omega
              generalize (A.map fun b => 32 + b % 95).take i = PL at *
              have hown := HO.out
              obtain ⟨pa, pc, rfl⟩ : ∃ pa pc, u23 = .slice pa i pc := by
                rcases hown.2 with ⟨rfl, h0⟩ | ⟨g, cap, cur, hv, _⟩
                · exact ⟨none, 0, by rw [h0]⟩
                · exact ⟨_, _, hv⟩
              have HVP : Hid (∀ W, W.ownsRow W8.heap.size 5 1 (.slice pa i pc) i (u8s PL) → V W (.slice pa i pc) PL ∧ (convert 43 9 (.slice pa i pc)).run Tryd.prog W = .ok (.string (arr PL)) W) := fun W ho => by
                have hV : V W (.slice pa i pc) PL := own_v (B := W8.heap.size) (by rw [hpl]; exact ho) (fun z hz => by have := hbyt z hz; omega)
                obtain ⟨ao', cap', he, -, hbs⟩ := hV.bs
                rw [arr_size, hpl] at he
                cases he
                have := hbs.conv (cap := pc)
                rw [arr_size, hpl] at this
                exact ⟨hV, this⟩
              have hcv := (HVP.out wr hown).2
              clear hi2 h12
              rcases (show k < 0 ∨ (¬ k < 0 ∧ 2 < k) ∨ (¬ k < 0 ∧ ¬ 2 < k) by omega) with hk1 | ⟨hk1, hk2⟩ | ⟨hk1, hk2⟩
              · rcases hw3 with ⟨ha1, ha2⟩ | ha1
                all_goals
                  go_wp2
                  go_ret
                  exact ⟨rfl, HLr.out.b⟩
              · rcases hw3 with ⟨ha1, ha2⟩ | ha1
                all_goals
                  go_wp2
                  go_ret
                  exact ⟨rfl, HLr.out.b⟩
              · obtain ⟨j, hj, rfl⟩ : ∃ j : Nat, j < 3 ∧ k = (j : Int) := ⟨k.toNat, by omega, by omega⟩
                have hab := ascii_both hHC.out hj (s := arr PL) (by rw [arr_size, hpl]; exact HI2.out) (fun b hb => by
                  have : (arr PL).data.toList = PL.map fun b => b.toUInt8 := by simp [arr]
                  rw [this] at hb
                  obtain ⟨z, hz, rfl⟩ := List.mem_map.1 hb
                  have := hbyt z hz
                  have e : (z.toUInt8).toNat = z := by simp; omega
                  rw [e]
                  exact this)
                have hmap : (tz (arr PL).data.toList).map Int.toNat = PL := by
                  have : (arr PL).data.toList = PL.map fun b => b.toUInt8 := by simp [arr]
                  rw [this]
                  unfold tz
                  rw [List.map_map, List.map_map]
                  have : PL.map (fun b => b) = PL := List.map_id' _
                  refine Eq.trans (List.map_congr_left fun z hz => ?_) this
                  have := hbyt z hz
                  show (((z.toUInt8).toNat : Int)).toNat = z
                  have e : (z.toUInt8).toNat = z := by simp; omega
                  rw [e]
                  rfl
                have c21 := encL HLr.out HE.out HC6.out hHC.out (j : Int) (arr PL)
                rw [hab.1] at c21
                have HAB : Hid _ := hab.2
                have HMAP : Hid _ := hmap
                have HPL : Hid (PL.length = i) := hpl
                clear hab hmap hbyt hown hpl
                generalize hAP : arr PL = AP at c21 hcv HAB HMAP HVP
                have hAPs : AP.size = i := by rw [← hAP, arr_size]; exact HPL.out
                have HAP : Hid _ := hAP
                clear hAP
                rcases hw3 with ⟨ha1, ha2⟩ | ha1
                all_goals
                  go_wp2_with (go_at_call 21; refine Stop.mk ?_)
                  refine Stop.out (c21.mono ?_)
                  rintro e' W9 ⟨⟨co, cc, rfl, hVc⟩, hl9, hk9⟩
                  have hVP9 := HVP.out W9 (own_far hk9 HO.out (fun r hr => (HL8.out.far r hr).2.2))
                  have c22 := bytL hVc hVP9.1 (by rw [HMAP.out, HPL.out]; have := HI2.out; omega)
                  rw [HMAP.out, decide_eq_true rfl] at c22
                  have HL9 : Hid _ := hl9
                  have HO9 : Hid _ := own_far hk9 HO.out (fun r hr => (HL8.out.far r hr).2.2)
                  clear c21 hVc hl9 hk9 hVP9 hcv
                  go_wp2_with (go_at_call 22; refine Stop.mk ?_)
                  refine Stop.out (c22.mono ?_)
                  rintro e' W10 ⟨rfl, hb10⟩
                  have HL10 : Hid _ := HL9.out.on hb10
                  have HO10 : Hid (W10.ownsRow W8.heap.size 5 1 (.slice pa i pc) i (u8s PL)) := ownsRow_below HO9.out hb10 (Nat.le_refl _)
                  have c20 := decL HL10.out HE.out HC6.out hHC.out (j : Int) (HVP.out W10 HO10.out).1
                  rw [HAP.out, HAB.out] at c20
                  simp only [strF, errF] at c20
                  rw [bsZ_tz] at c20
                  clear c22 hb10
                  go_wp2_with (go_at_call 20; refine Stop.mk ?_)
                  refine Stop.out (c20.mono ?_)
                  rintro e' W11 ⟨er, rfl, her, hb11⟩
                  obtain rfl : er = .nilIface := her
                  have hcv := (HVP.out W11 (ownsRow_below HO10.out hb11 (Nat.le_refl _))).2
                  have HB11 : Hid (Below w.heap.size w W11) := (HL10.out.on hb11).b
                  clear c20 hb11
                  go_wp2
                  go_ret
                  exact ⟨by simp, HB11.out⟩
        | false =>
          have hd := en_dc hHC.out HF3.out
          have HD : Hid _ := hd
          clear hd
          have HO3 : Hid (o3.map Int.toNat = B) := by
            have ho3 := HX0.out rfl
            have hB := HVB.out.form
            obtain ⟨_, _, _, _, hB⟩ := hB
            cases ho3
            show _ = _
            have : (arr B).data.toList = B.map fun b => b.toUInt8 := by simp [arr]
            rw [this]
            unfold tz
            rw [List.map_map, List.map_map]
            have : B.map (fun b => b) = B := List.map_id' _
            refine Eq.trans (List.map_congr_left fun z hz => ?_) this
            have := hB z hz
            show (((z.toUInt8).toNat : Int)).toNat = z
            have e : (z.toUInt8).toNat = z := by simp; omega
            rw [e]
            rfl
          generalize bsZ t = tb at *
          have hid2 : (tb.toList != tb.toList) = false := by simp
          go_wp2_with (go_at_call 21; refine Stop.mk ?_)
          refine Stop.out (c21.mono ?_)
          rintro e' W6 ⟨⟨co, cc, rfl, hV6⟩, hl6, -⟩
          have HL6 : Hid (Lw w q u a R0 false W6) := hl6
          have HV6 : Hid (V W6 (.slice co o3.length cc) (o3.map Int.toNat)) := hV6
          have c9 := termL hl6 HC6.out
          clear c21 hl6 hV6
          obtain ⟨TT, hTT⟩ : ∃ TT, a.2.1 = TT := ⟨_, rfl⟩
          rw [hTT] at c9
          have hTf := wri_facts false ⟨a.1, HTRM.out.2⟩
          simp only at hTf
          rw [← HTRM.out.1, hTT] at hTf
          have hT8 : ¬ ((TT.size : Int) < 8) := by omega
          have hTz : 3 < TT.size := by omega
          have hT3 : ((TT[3]'hTz).toNat : Int) = 95 := by
            rw [← bsT_at hTz]
            have := hTf.2
            simp only [Bool.false_eq_true, if_false] at this
            unfold bsT
            omega
          obtain ⟨nR, hnR⟩ : ∃ nR, R0.length = nR := ⟨_, rfl⟩
          rw [hnR] at c9
          have hnb : (((nR : Int) + 1) == 0) = false := by simp; omega
          clear hTf hTT hnR
          go_wp2_with (go_at_call 9; refine Stop.mk ?_)
          refine Stop.out (c9.mono ?_)
          rintro e' W7 ⟨g9, cp9, rfl, hc9, hb7⟩
          have HL7 : Hid (Lw w q u a R0 false W7) := HL6.out.on hb7
          have HV7 : Hid (V W7 (.slice co o3.length cc) (o3.map Int.toNat)) := V.next HV6.out hb7
          clear c9 hb7
          have c22 := bytL HV7.out (HVB.out.next HL7.out.b) (by rw [HO3.out, HM.out]; exact hlB)
          rw [HO3.out, decide_eq_true rfl] at c22
          go_wp2_with (go_at_call 22; refine Stop.mk ?_)
          refine Stop.out (c22.mono ?_)
          rintro e' W7b ⟨rfl, hb7b⟩
          have HL7b : Hid (Lw w q u a R0 false W7b) := HL7.out.on hb7b
          have HV7b : Hid (V W7b (.slice co o3.length cc) (o3.map Int.toNat)) := V.next HV7.out hb7b
          have c20 := decL HL7b.out HE.out HC6.out hHC.out k HV7b.out
          clear c22 hb7b hc9
          rw [arr_z, HD.out] at c20
          simp only [strF, errF] at c20
          rw [bsZ_tz] at c20
          go_wp2_with (go_at_call 20; refine Stop.mk ?_)
          refine Stop.out (c20.mono ?_)
          rintro e' W8 ⟨er, rfl, her, hb8⟩
          obtain rfl : er = .nilIface := her
          have HL8 : Hid (Lw w q u a R0 false W8) := HL7b.out.on hb8
          clear c20 hb8
          go_wp2
          go_loopw [23, 24] (fun p y wr => PlInv W8 A n p y wr) (fun _ y _ => n - (intOf y).toNat)
          case atStart => exact ⟨0, rfl, by omega, by omega, World.ownsRow_nil _ _ _ _, Below.refl _ _⟩
          case round =>
            obtain ⟨i, rfl, hi, hi2, HO, HBr⟩ := hrel
            have HLr : Hid (Lw w q u a R0 false wr) := HL8.out.on HBr.out
            by_cases h12 : i < n ∧ i < 65534
            · obtain ⟨h1, h2⟩ := h12
              obtain ⟨b, off, rfl, hAt⟩ : ∃ b off, ao = some ⟨b, off, none⟩ ∧ At wr b off A := by
                obtain ⟨ao', cap', he, hf, -⟩ := (HVA.out.next HLr.out.b).form
                cases he
                exact hf (by rw [HN.out]; omega)
              obtain ⟨y, hy⟩ : ∃ y, A.getD i 0 = y := ⟨_, rfl⟩
              have hc := hAt.1 i (by rw [HN.out]; exact h1)
              rw [hy] at hc
              have hy256 : y < 256 := by
                rw [← hy, List.getD_eq_getElem?_getD, List.getElem?_eq_getElem (by rw [HN.out]; exact h1)]
                exact hAt.2 _ (List.getElem_mem _)
              have HTK : Hid ((A.map fun b => 32 + b % 95).take (i + 1) = (A.map fun b => 32 + b % 95).take i ++ [32 + y % 95]) := by
                show _ = _
                have hlt : i < A.length := by rw [HN.out]; exact h1
                rw [List.take_add_one, List.getElem?_map, List.getElem?_eq_getElem hlt]
                have : A[i]'hlt = y := by rw [← hy, List.getD_eq_getElem?_getD, List.getElem?_eq_getElem hlt]; rfl
                rw [this]
                rfl
              obtain ⟨z, hz⟩ : ∃ z, y % 95 = z := ⟨_, rfl⟩
              rw [hz] at HTK
              have hzl : z < 95 := by omega
              have hmod : Int.tmod (y : Int) 95 = (z : Int) := by rw [Int.tmod_eq_emod_of_nonneg (by omega)]; omega
              have hI1 : (i : Int) < (n : Int) := by omega
              have hI2 : (i : Int) < 65534 := by omega
              obtain ⟨i0, hi0, hz0, hz1, hz2⟩ := info_parts Tryd.info5
              clear hAt hy hz
              go_wp2_with (at_builtin; refine Stop.mk ?_)
              refine Stop.out (wpList_append_own _ rfl (.tmp 144) (.tmp 151) 43 rfl W8.heap.size 5 i0 _ 1 1 Tryd.underlying43 hi0 hz0 hz1 hz2 rfl (by decide) u23 i _ rfl (World.ownsRow.alloc HO.out _) ⟨wr.heap.size, 0, none⟩ 1 1 [.int .u8 (32 + (z : Int))] rfl rfl ?_ ?_ ?_ ?_ ?_ ?_)
              · exact cell_one_new _ _ _
              · intro z hz; simp at hz; subst hz; rfl
              · unfold maxLen; omega
              · omega
              · have := HBr.out.size; simp; omega
              · intro v4 W4 hown4 hg4 _
                have HO4 : Hid (W4.ownsRow W8.heap.size 5 1 v4 (i + 1) (u8s ((A.map fun b => 32 + b % 95).take (i + 1)))) := by
                  show W4.ownsRow _ _ _ _ _ _
                  rw [HTK.out, u8s_append]
                  exact hown4
                have HB4 : Hid (Below W8.heap.size W8 W4) := (HBr.out.alloc HBr.out.size _).grown hg4 (by have := HBr.out.size; simp; omega) (fun r e => (World.ownsRow.lt HO.out r e).1)
                clear hown4 hg4
                go_wp2
                go_roundw
                case rel => exact ⟨i + 1, by simp, by omega, by omega, HO4.out, HB4.out⟩
                case measure => simp [intOf]; omega
            · have hw3 : ((i : Int) < (n : Int) ∧ ¬ (i : Int) < 65534) ∨ ¬ (i : Int) < (n : Int) := by omega
              have HI2 : Hid (i ≤ 65534) := hi2
              have hbyt : ∀ z ∈ (A.map fun b => 32 + b % 95).take i, 32 ≤ z ∧ z ≤ 126 := by
                intro z hz
                obtain ⟨b, -, rfl⟩ := List.mem_map.1 (List.mem_of_mem_take hz)
                omega
              have hpl : ((A.map fun b => 32 + b % 95).take i).length = i := by rw [List.length_take, List.length_map, HN.out]; omega
              generalize (A.map fun b => 32 + b % 95).take i = PL at *
              have hown := HO.out
              obtain ⟨pa, pc, rfl⟩ : ∃ pa pc, u23 = .slice pa i pc := by
                rcases hown.2 with ⟨rfl, h0⟩ | ⟨g, cap, cur, hv, _⟩
                · exact ⟨none, 0, by rw [h0]⟩
                · exact ⟨_, _, hv⟩
              have HVP : Hid (∀ W, W.ownsRow W8.heap.size 5 1 (.slice pa i pc) i (u8s PL) → V W (.slice pa i pc) PL ∧ (convert 43 9 (.slice pa i pc)).run Tryd.prog W = .ok (.string (arr PL)) W) := fun W ho => by
                have hV : V W (.slice pa i pc) PL := own_v (B := W8.heap.size) (by rw [hpl]; exact ho) (fun z hz => by have := hbyt z hz; omega)
                obtain ⟨ao', cap', he, -, hbs⟩ := hV.bs
                rw [arr_size, hpl] at he
                cases he
                have := hbs.conv (cap := pc)
                rw [arr_size, hpl] at this
                exact ⟨hV, this⟩
              have hcv := (HVP.out wr hown).2
              clear hi2 h12
              rcases (show k < 0 ∨ (¬ k < 0 ∧ 2 < k) ∨ (¬ k < 0 ∧ ¬ 2 < k) by omega) with hk1 | ⟨hk1, hk2⟩ | ⟨hk1, hk2⟩
              · rcases hw3 with ⟨ha1, ha2⟩ | ha1
                all_goals
                  go_wp2
                  go_ret
                  exact ⟨rfl, HLr.out.b⟩
              · rcases hw3 with ⟨ha1, ha2⟩ | ha1
                all_goals
                  go_wp2
                  go_ret
                  exact ⟨rfl, HLr.out.b⟩
              · obtain ⟨j, hj, rfl⟩ : ∃ j : Nat, j < 3 ∧ k = (j : Int) := ⟨k.toNat, by omega, by omega⟩
                have hab := ascii_both hHC.out hj (s := arr PL) (by rw [arr_size, hpl]; exact HI2.out) (fun b hb => by
                  have : (arr PL).data.toList = PL.map fun b => b.toUInt8 := by simp [arr]
                  rw [this] at hb
                  obtain ⟨z, hz, rfl⟩ := List.mem_map.1 hb
                  have := hbyt z hz
                  have e : (z.toUInt8).toNat = z := by simp; omega
                  rw [e]
                  exact this)
                have hmap : (tz (arr PL).data.toList).map Int.toNat = PL := by
                  have : (arr PL).data.toList = PL.map fun b => b.toUInt8 := by simp [arr]
                  rw [this]
                  unfold tz
                  rw [List.map_map, List.map_map]
                  have : PL.map (fun b => b) = PL := List.map_id' _
                  refine Eq.trans (List.map_congr_left fun z hz => ?_) this
                  have := hbyt z hz
                  show (((z.toUInt8).toNat : Int)).toNat = z
                  have e : (z.toUInt8).toNat = z := by simp; omega
                  rw [e]
                  rfl
                have c21 := encL HLr.out HE.out HC6.out hHC.out (j : Int) (arr PL)
                rw [hab.1] at c21
                have HAB : Hid _ := hab.2
                have HMAP : Hid _ := hmap
                have HPL : Hid (PL.length = i) := hpl
                clear hab hmap hbyt hown hpl
                generalize hAP : arr PL = AP at c21 hcv HAB HMAP HVP
                have hAPs : AP.size = i := by rw [← hAP, arr_size]; exact HPL.out
                have HAP : Hid _ := hAP
                clear hAP
                rcases hw3 with ⟨ha1, ha2⟩ | ha1
                all_goals
                  go_wp2_with (go_at_call 21; refine Stop.mk ?_)
                  refine Stop.out (c21.mono ?_)
                  rintro e' W9 ⟨⟨co, cc, rfl, hVc⟩, hl9, hk9⟩
                  have hVP9 := HVP.out W9 (own_far hk9 HO.out (fun r hr => (HL8.out.far r hr).2.2))
                  have c22 := bytL hVc hVP9.1 (by rw [HMAP.out, HPL.out]; have := HI2.out; omega)
                  rw [HMAP.out, decide_eq_true rfl] at c22
                  have HL9 : Hid _ := hl9
                  have HO9 : Hid _ := own_far hk9 HO.out (fun r hr => (HL8.out.far r hr).2.2)
                  clear c21 hVc hl9 hk9 hVP9 hcv
                  go_wp2_with (go_at_call 22; refine Stop.mk ?_)
                  refine Stop.out (c22.mono ?_)
                  rintro e' W10 ⟨rfl, hb10⟩
                  have HL10 : Hid _ := HL9.out.on hb10
                  have HO10 : Hid (W10.ownsRow W8.heap.size 5 1 (.slice pa i pc) i (u8s PL)) := ownsRow_below HO9.out hb10 (Nat.le_refl _)
                  have c20 := decL HL10.out HE.out HC6.out hHC.out (j : Int) (HVP.out W10 HO10.out).1
                  rw [HAP.out, HAB.out] at c20
                  simp only [strF, errF] at c20
                  rw [bsZ_tz] at c20
                  clear c22 hb10
                  go_wp2_with (go_at_call 20; refine Stop.mk ?_)
                  refine Stop.out (c20.mono ?_)
                  rintro e' W11 ⟨er, rfl, her, hb11⟩
                  obtain rfl : er = .nilIface := her
                  have hcv := (HVP.out W11 (ownsRow_below HO10.out hb11 (Nat.le_refl _))).2
                  have HB11 : Hid (Below w.heap.size w W11) := (HL10.out.on hb11).b
                  clear c20 hb11
                  go_wp2
                  go_ret
                  exact ⟨by simp, HB11.out⟩
  | ok o1 =>
    go_wp2_with (go_at_call 21; refine Stop.mk ?_)
    refine Stop.out (c21.mono ?_)
    rintro e' W3 ⟨⟨bo, bc, rfl, hV3⟩, hl3, -⟩
    have hd := en_dc hHC.out HF1.out
    have c20 := decL hl3 HE.out HC6.out hHC.out k hV3
    rw [arr_z, hd] at c20
    simp only [strF, errF] at c20
    rw [bsZ_tz] at c20
    have HL3 : Hid (Lw w q u a R0 x W3) := hl3
    have hid : (text.toList != text.toList) = false := by simp
    clear c21 hl3 hd hV3
    go_wp2_with (go_at_call 20; refine Stop.mk ?_)
    refine Stop.out (c20.mono ?_)
    rintro e' W4 ⟨er, rfl, her, hb4⟩
    obtain rfl : er = .nilIface := her
    have HL : Hid (Lw w q u a R0 x W4) := HL3.out.on hb4
    clear c20 hb4
    have c20 := decL HL.out HE.out HC6.out hHC.out k (HVB.out.next HL.out.b)
    obtain ⟨F2, hF2⟩ : ∃ F, dcS x a R0 k (arr B) = F := ⟨_, rfl⟩
    rw [hF2] at c20
    have HF2 : Hid _ := hF2
    clear hF2
    cases F2 with
    | error ic2 =>
      obtain ⟨i2, c2⟩ := ic2
      simp only [strF, errF] at c20
      go_wp2_with (go_at_call 20; refine Stop.mk ?_)
      refine Stop.out (c20.mono ?_)
      rintro e' W5 ⟨er, rfl, ⟨gq2, rfl, -⟩, hb5⟩
      have HL8 : Hid (Lw w q u a R0 x W5) := HL.out.on hb5
      clear c20 hb5
      obtain ⟨W8, hW8⟩ : ∃ W8, W8 = W5 := ⟨_, rfl⟩
      rw [← hW8] at HL8 ⊢
      clear hW8
      go_wp2
      go_loopw [23, 24] (fun p y wr => PlInv W8 A n p y wr) (fun _ y _ => n - (intOf y).toNat)
      case atStart => exact ⟨0, rfl, by omega, by omega, World.ownsRow_nil _ _ _ _, Below.refl _ _⟩
      case round =>
        obtain ⟨i, rfl, hi, hi2, HO, HBr⟩ := hrel
        have HLr : Hid (Lw w q u a R0 x wr) := HL8.out.on HBr.out
        by_cases h12 : i < n ∧ i < 65534
        · obtain ⟨h1, h2⟩ := h12
          obtain ⟨b, off, rfl, hAt⟩ : ∃ b off, ao = some ⟨b, off, none⟩ ∧ At wr b off A := by
            obtain ⟨ao', cap', he, hf, -⟩ := (HVA.out.next HLr.out.b).form
            cases he
            exact hf (by rw [HN.out]; omega)
          obtain ⟨y, hy⟩ : ∃ y, A.getD i 0 = y := ⟨_, rfl⟩
          have hc := hAt.1 i (by rw [HN.out]; exact h1)
          rw [hy] at hc
          have hy256 : y < 256 := by
            rw [← hy, List.getD_eq_getElem?_getD, List.getElem?_eq_getElem (by rw [HN.out]; exact h1)]
            exact hAt.2 _ (List.getElem_mem _)
          have HTK : Hid ((A.map fun b => 32 + b % 95).take (i + 1) = (A.map fun b => 32 + b % 95).take i ++ [32 + y % 95]) := by
            show _ = _
            have hlt : i < A.length := by rw [HN.out]; exact h1
            rw [List.take_add_one, List.getElem?_map, List.getElem?_eq_getElem hlt]
            have : A[i]'hlt = y := by rw [← hy, List.getD_eq_getElem?_getD, List.getElem?_eq_getElem hlt]; rfl
            rw [this]
            rfl
          obtain ⟨z, hz⟩ : ∃ z, y % 95 = z := ⟨_, rfl⟩
          rw [hz] at HTK
          have hzl : z < 95 := by omega
          have hmod : Int.tmod (y : Int) 95 = (z : Int) := by rw [Int.tmod_eq_emod_of_nonneg (by omega)]; omega
          have hI1 : (i : Int) < (n : Int) := by omega
          have hI2 : (i : Int) < 65534 := by omega
          obtain ⟨i0, hi0, hz0, hz1, hz2⟩ := info_parts Tryd.info5
          clear hAt hy hz
          go_wp2_with (at_builtin; refine Stop.mk ?_)
          refine Stop.out (wpList_append_own _ rfl (.tmp 144) (.tmp 151) 43 rfl W8.heap.size 5 i0 _ 1 1 Tryd.underlying43 hi0 hz0 hz1 hz2 rfl (by decide) u23 i _ rfl (World.ownsRow.alloc HO.out _) ⟨wr.heap.size, 0, none⟩ 1 1 [.int .u8 (32 + (z : Int))] rfl rfl ?_ ?_ ?_ ?_ ?_ ?_)
          · exact cell_one_new _ _ _
          · intro z hz; simp at hz; subst hz; rfl
          · unfold maxLen; omega
          · omega
          · have := HBr.out.size; simp; omega
          · intro v4 W4 hown4 hg4 _
            have HO4 : Hid (W4.ownsRow W8.heap.size 5 1 v4 (i + 1) (u8s ((A.map fun b => 32 + b % 95).take (i + 1)))) := by
              show W4.ownsRow _ _ _ _ _ _
              rw [HTK.out, u8s_append]
              exact hown4
            have HB4 : Hid (Below W8.heap.size W8 W4) := (HBr.out.alloc HBr.out.size _).grown hg4 (by have := HBr.out.size; simp; omega) (fun r e => (World.ownsRow.lt HO.out r e).1)
            clear hown4 hg4
            go_wp2
            go_roundw
            case rel => exact ⟨i + 1, by simp, by omega, by omega, HO4.out, HB4.out⟩
            case measure => simp [intOf]; omega
        · have hw3 : ((i : Int) < (n : Int) ∧ ¬ (i : Int) < 65534) ∨ ¬ (i : Int) < (n : Int) := by omega
          have HI2 : Hid (i ≤ 65534) := hi2
          have hbyt : ∀ z ∈ (A.map fun b => 32 + b % 95).take i, 32 ≤ z ∧ z ≤ 126 := by
            intro z hz
            obtain ⟨b, -, rfl⟩ := List.mem_map.1 (List.mem_of_mem_take hz)
            omega
          have hpl : ((A.map fun b => 32 + b % 95).take i).length = i := by rw [List.length_take, List.length_map, HN.out]; omega
          generalize (A.map fun b => 32 + b % 95).take i = PL at *
          have hown := HO.out
          obtain ⟨pa, pc, rfl⟩ : ∃ pa pc, u23 = .slice pa i pc := by
            rcases hown.2 with ⟨rfl, h0⟩ | ⟨g, cap, cur, hv, _⟩
            · exact ⟨none, 0, by rw [h0]⟩
            · exact ⟨_, _, hv⟩
          have HVP : Hid (∀ W, W.ownsRow W8.heap.size 5 1 (.slice pa i pc) i (u8s PL) → V W (.slice pa i pc) PL ∧ (convert 43 9 (.slice pa i pc)).run Tryd.prog W = .ok (.string (arr PL)) W) := fun W ho => by
            have hV : V W (.slice pa i pc) PL := own_v (B := W8.heap.size) (by rw [hpl]; exact ho) (fun z hz => by have := hbyt z hz; omega)
            obtain ⟨ao', cap', he, -, hbs⟩ := hV.bs
            rw [arr_size, hpl] at he
            cases he
            have := hbs.conv (cap := pc)
            rw [arr_size, hpl] at this
            exact ⟨hV, this⟩
          have hcv := (HVP.out wr hown).2
          clear hi2 h12
          rcases (show k < 0 ∨ (¬ k < 0 ∧ 2 < k) ∨ (¬ k < 0 ∧ ¬ 2 < k) by omega) with hk1 | ⟨hk1, hk2⟩ | ⟨hk1, hk2⟩
          · rcases hw3 with ⟨ha1, ha2⟩ | ha1
            all_goals
              go_wp2
              go_ret
              exact ⟨rfl, HLr.out.b⟩
          · rcases hw3 with ⟨ha1, ha2⟩ | ha1
            all_goals
              go_wp2
              go_ret
              exact ⟨rfl, HLr.out.b⟩
          · obtain ⟨j, hj, rfl⟩ : ∃ j : Nat, j < 3 ∧ k = (j : Int) := ⟨k.toNat, by omega, by omega⟩
            have hab := ascii_both hHC.out hj (s := arr PL) (by rw [arr_size, hpl]; exact HI2.out) (fun b hb => by
              have : (arr PL).data.toList = PL.map fun b => b.toUInt8 := by simp [arr]
              rw [this] at hb
              obtain ⟨z, hz, rfl⟩ := List.mem_map.1 hb
              have := hbyt z hz
              have e : (z.toUInt8).toNat = z := by simp; omega
              rw [e]
              exact this)
            have hmap : (tz (arr PL).data.toList).map Int.toNat = PL := by
              have : (arr PL).data.toList = PL.map fun b => b.toUInt8 := by simp [arr]
              rw [this]
              unfold tz
              rw [List.map_map, List.map_map]
              have : PL.map (fun b => b) = PL := List.map_id' _
              refine Eq.trans (List.map_congr_left fun z hz => ?_) this
              have := hbyt z hz
              show (((z.toUInt8).toNat : Int)).toNat = z
              have e : (z.toUInt8).toNat = z := by simp; omega
              rw [e]
              rfl
            have c21 := encL HLr.out HE.out HC6.out hHC.out (j : Int) (arr PL)
            rw [hab.1] at c21
            have HAB : Hid _ := hab.2
            have HMAP : Hid _ := hmap
            have HPL : Hid (PL.length = i) := hpl
            clear hab hmap hbyt hown hpl
            generalize hAP : arr PL = AP at c21 hcv HAB HMAP HVP
            have hAPs : AP.size = i := by rw [← hAP, arr_size]; exact HPL.out
            have HAP : Hid _ := hAP
            clear hAP
            rcases hw3 with ⟨ha1, ha2⟩ | ha1
            all_goals
              go_wp2_with (go_at_call 21; refine Stop.mk ?_)
              refine Stop.out (c21.mono ?_)
              rintro e' W9 ⟨⟨co, cc, rfl, hVc⟩, hl9, hk9⟩
              have hVP9 := HVP.out W9 (own_far hk9 HO.out (fun r hr => (HL8.out.far r hr).2.2))
              have c22 := bytL hVc hVP9.1 (by rw [HMAP.out, HPL.out]; have := HI2.out; omega)
              rw [HMAP.out, decide_eq_true rfl] at c22
              have HL9 : Hid _ := hl9
              have HO9 : Hid _ := own_far hk9 HO.out (fun r hr => (HL8.out.far r hr).2.2)
              clear c21 hVc hl9 hk9 hVP9 hcv
              go_wp2_with (go_at_call 22; refine Stop.mk ?_)
              refine Stop.out (c22.mono ?_)
              rintro e' W10 ⟨rfl, hb10⟩
              have HL10 : Hid _ := HL9.out.on hb10
              have HO10 : Hid (W10.ownsRow W8.heap.size 5 1 (.slice pa i pc) i (u8s PL)) := ownsRow_below HO9.out hb10 (Nat.le_refl _)
              have c20 := decL HL10.out HE.out HC6.out hHC.out (j : Int) (HVP.out W10 HO10.out).1
              rw [HAP.out, HAB.out] at c20
              simp only [strF, errF] at c20
              rw [bsZ_tz] at c20
              clear c22 hb10
              go_wp2_with (go_at_call 20; refine Stop.mk ?_)
              refine Stop.out (c20.mono ?_)
              rintro e' W11 ⟨er, rfl, her, hb11⟩
              obtain rfl : er = .nilIface := her
              have hcv := (HVP.out W11 (ownsRow_below HO10.out hb11 (Nat.le_refl _))).2
              have HB11 : Hid (Below w.heap.size w W11) := (HL10.out.on hb11).b
              clear c20 hb11
              go_wp2
              go_ret
              exact ⟨by simp, HB11.out⟩
    | ok t =>
      simp only [strF, errF] at c20
      go_wp2_with (go_at_call 20; refine Stop.mk ?_)
      refine Stop.out (c20.mono ?_)
      rintro e' W5 ⟨er, rfl, her, hb5⟩
      obtain rfl : er = .nilIface := her
      have HL5 : Hid (Lw w q u a R0 x W5) := HL.out.on hb5
      obtain ⟨ht, hx0, h16⟩ := dc_en hHC.out HF2.out
      have HT : Hid _ := ht
      have c21 := encL HL5.out HE.out HC6.out hHC.out k (bsZ t)
      obtain ⟨F3, hF3⟩ : ∃ F, enS (Pz a R0) a R0 k (bsZ t) = F := ⟨_, rfl⟩
      rw [hF3] at c21 hx0 h16
      have HF3 : Hid _ := hF3
      have HX0 : Hid _ := hx0
      have H16 : Hid _ := h16
      have htl : (bsZ t).size = t.length := bsZ_size t
      clear hF3 ht hx0 h16 c20 hb5
      cases F3 with
      | error ic3 =>
        obtain rfl : x = true := by
          cases x with
          | true => rfl
          | false => have := HX0.out rfl; cases this
        have hlen : ¬ (((bsZ t).size : Int) ≤ 16000) := by
          intro hle
          obtain ⟨c, hc⟩ := H16.out (by omega)
          cases hc
        generalize bsZ t = tb at *
        go_wp2_with (go_at_call 21; refine Stop.mk ?_)
        refine Stop.out (c21.mono ?_)
        rintro e' W6 ⟨⟨g3, rfl⟩, hl6, -⟩
        have HL6 : Hid (Lw w q u a R0 true W6) := hl6
        have c9 := termL hl6 HC6.out
        clear c21 hl6
        obtain ⟨TT, hTT⟩ : ∃ TT, a.2.1 = TT := ⟨_, rfl⟩
        rw [hTT] at c9
        have hTf := wri_facts true ⟨a.1, HTRM.out.2⟩
        simp only at hTf
        rw [← HTRM.out.1, hTT] at hTf
        have hT8 : ¬ ((TT.size : Int) < 8) := by omega
        have hTz : 3 < TT.size := by omega
        have hT3 : ((TT[3]'hTz).toNat : Int) = 32 := by
          rw [← bsT_at hTz]
          have := hTf.2
          simp only [if_true] at this
          unfold bsT
          omega
        obtain ⟨nR, hnR⟩ : ∃ nR, R0.length = nR := ⟨_, rfl⟩
        rw [hnR] at c9
        have hnb : (((nR : Int) + 1) == 0) = false := by simp; omega
        clear hTf hTT hnR
        go_wp2_with (go_at_call 9; refine Stop.mk ?_)
        refine Stop.out (c9.mono ?_)
        rintro e' W7 ⟨g9, cp9, rfl, hc9, hb7⟩
        have HL8 : Hid (Lw w q u a R0 true W7) := HL6.out.on hb7
        clear c9 hb7
        obtain ⟨W8, hW8⟩ : ∃ W8, W8 = W7 := ⟨_, rfl⟩
        rw [← hW8] at HL8 hc9 ⊢
        clear hW8
        go_wp2
        clear hc9
        go_loopw [23, 24] (fun p y wr => PlInv W8 A n p y wr) (fun _ y _ => n - (intOf y).toNat)
        case atStart => exact ⟨0, rfl, by omega, by omega, World.ownsRow_nil _ _ _ _, Below.refl _ _⟩
        case round =>
          obtain ⟨i, rfl, hi, hi2, HO, HBr⟩ := hrel
          have HLr : Hid (Lw w q u a R0 true wr) := HL8.out.on HBr.out
          by_cases h12 : i < n ∧ i < 65534
          · obtain ⟨h1, h2⟩ := h12
            obtain ⟨b, off, rfl, hAt⟩ : ∃ b off, ao = some ⟨b, off, none⟩ ∧ At wr b off A := by
              obtain ⟨ao', cap', he, hf, -⟩ := (HVA.out.next HLr.out.b).form
              cases he
              exact hf (by rw [HN.out]; omega)
            obtain ⟨y, hy⟩ : ∃ y, A.getD i 0 = y := ⟨_, rfl⟩
            have hc := hAt.1 i (by rw [HN.out]; exact h1)
            rw [hy] at hc
            have hy256 : y < 256 := by
              rw [← hy, List.getD_eq_getElem?_getD, List.getElem?_eq_getElem (by rw [HN.out]; exact h1)]
              exact hAt.2 _ (List.getElem_mem _)
            have HTK : Hid ((A.map fun b => 32 + b % 95).take (i + 1) = (A.map fun b => 32 + b % 95).take i ++ [32 + y % 95]) := by
              show _ = _
              have hlt : i < A.length := by rw [HN.out]; exact h1
              rw [List.take_add_one, List.getElem?_map, List.getElem?_eq_getElem hlt]
              have : A[i]'hlt = y := by rw [← hy, List.getD_eq_getElem?_getD, List.getElem?_eq_getElem hlt]; rfl
              rw [this]
              rfl
            obtain ⟨z, hz⟩ : ∃ z, y % 95 = z := ⟨_, rfl⟩
            rw [hz] at HTK
            have hzl : z < 95 := by omega
            have hmod : Int.tmod (y : Int) 95 = (z : Int) := by rw [Int.tmod_eq_emod_of_nonneg (by omega)]; omega
            have hI1 : (i : Int) < (n : Int) := by omega
            have hI2 : (i : Int) < 65534 := by omega
            obtain ⟨i0, hi0, hz0, hz1, hz2⟩ := info_parts Tryd.info5
            clear hAt hy hz
            go_wp2_with (at_builtin; refine Stop.mk ?_)
            refine Stop.out (wpList_append_own _ rfl (.tmp 144) (.tmp 151) 43 rfl W8.heap.size 5 i0 _ 1 1 Tryd.underlying43 hi0 hz0 hz1 hz2 rfl (by decide) u23 i _ rfl (World.ownsRow.alloc HO.out _) ⟨wr.heap.size, 0, none⟩ 1 1 [.int .u8 (32 + (z : Int))] rfl rfl ?_ ?_ ?_ ?_ ?_ ?_)
            · exact cell_one_new _ _ _
            · intro z hz; simp at hz; subst hz; rfl
            · unfold maxLen; omega
            · omega
            · have := HBr.out.size; simp; omega
            · intro v4 W4 hown4 hg4 _
              have HO4 : Hid (W4.ownsRow W8.heap.size 5 1 v4 (i + 1) (u8s ((A.map fun b => 32 + b % 95).take (i + 1)))) := by
                show W4.ownsRow _ _ _ _ _ _
                rw [HTK.out, u8s_append]
                exact hown4
              have HB4 : Hid (Below W8.heap.size W8 W4) := (HBr.out.alloc HBr.out.size _).grown hg4 (by have := HBr.out.size; simp; omega) (fun r e => (World.ownsRow.lt HO.out r e).1)
              clear hown4 hg4
              go_wp2
              go_roundw
              case rel => exact ⟨i + 1, by simp, by omega, by omega, HO4.out, HB4.out⟩
              case measure => simp [intOf]; omega
          · have hw3 : ((i : Int) < (n : Int) ∧ ¬ (i : Int) < 65534) ∨ ¬ (i : Int) < (n : Int) := by omega
            have HI2 : Hid (i ≤ 65534) := hi2
            have hbyt : ∀ z ∈ (A.map fun b => 32 + b % 95).take i, 32 ≤ z ∧ z ≤ 126 := by
              intro z hz
              obtain ⟨b, -, rfl⟩ := List.mem_map.1 (List.mem_of_mem_take hz)
              omega
            have hpl : ((A.map fun b => 32 + b % 95).take i).length = i := by rw [List.length_take, List.length_map, HN.out]; omega
            generalize (A.map fun b => 32 + b % 95).take i = PL at *
            have hown := HO.out
            obtain ⟨pa, pc, rfl⟩ : ∃ pa pc, u23 = .slice pa i pc := by
              rcases hown.2 with ⟨rfl, h0⟩ | ⟨g, cap, cur, hv, _⟩
              · exact ⟨none, 0, by rw [h0]⟩
              · exact ⟨_, _, hv⟩
            have HVP : Hid (∀ W, W.ownsRow W8.heap.size 5 1 (.slice pa i pc) i (u8s PL) → V W (.slice pa i pc) PL ∧ (convert 43 9 (.slice pa i pc)).run Tryd.prog W = .ok (.string (arr PL)) W) := fun W ho => by
              have hV : V W (.slice pa i pc) PL := own_v (B := W8.heap.size) (by rw [hpl]; exact ho) (fun z hz => by have := hbyt z hz; omega)
              obtain ⟨ao', cap', he, -, hbs⟩ := hV.bs
              rw [arr_size, hpl] at he
              cases he
              have := hbs.conv (cap := pc)
              rw [arr_size, hpl] at this
              exact ⟨hV, this⟩
            have hcv := (HVP.out wr hown).2
            clear hi2 h12
            rcases (show k < 0 ∨ (¬ k < 0 ∧ 2 < k) ∨ (¬ k < 0 ∧ ¬ 2 < k) by omega) with hk1 | ⟨hk1, hk2⟩ | ⟨hk1, hk2⟩
            · rcases hw3 with ⟨ha1, ha2⟩ | ha1
              all_goals
                go_wp2
                go_ret
                exact ⟨rfl, HLr.out.b⟩
            · rcases hw3 with ⟨ha1, ha2⟩ | ha1
              all_goals
                go_wp2
                go_ret
                exact ⟨rfl, HLr.out.b⟩
            · obtain ⟨j, hj, rfl⟩ : ∃ j : Nat, j < 3 ∧ k = (j : Int) := ⟨k.toNat, by omega, by omega⟩
              have hab := ascii_both hHC.out hj (s := arr PL) (by rw [arr_size, hpl]; exact HI2.out) (fun b hb => by
                have : (arr PL).data.toList = PL.map fun b => b.toUInt8 := by simp [arr]
                rw [this] at hb
                obtain ⟨z, hz, rfl⟩ := List.mem_map.1 hb
                have := hbyt z hz
                have e : (z.toUInt8).toNat = z := by simp; omega
                rw [e]
                exact this)
              have hmap : (tz (arr PL).data.toList).map Int.toNat = PL := by
                have : (arr PL).data.toList = PL.map fun b => b.toUInt8 := by simp [arr]
                rw [this]
                unfold tz
                rw [List.map_map, List.map_map]
                have : PL.map (fun b => b) = PL := List.map_id' _
                refine Eq.trans (List.map_congr_left fun z hz => ?_) this
                have := hbyt z hz
                show (((z.toUInt8).toNat : Int)).toNat = z
                have e : (z.toUInt8).toNat = z := by simp; omega
                rw [e]
                rfl
              have c21 := encL HLr.out HE.out HC6.out hHC.out (j : Int) (arr PL)
              rw [hab.1] at c21
              have HAB : Hid _ := hab.2
              have HMAP : Hid _ := hmap
              have HPL : Hid (PL.length = i) := hpl
              clear hab hmap hbyt hown hpl
              generalize hAP : arr PL = AP at c21 hcv HAB HMAP HVP
              have hAPs : AP.size = i := by rw [← hAP, arr_size]; exact HPL.out
              have HAP : Hid _ := hAP
              clear hAP
              rcases hw3 with ⟨ha1, ha2⟩ | ha1
              all_goals
                go_wp2_with (go_at_call 21; refine Stop.mk ?_)
                refine Stop.out (c21.mono ?_)
                rintro e' W9 ⟨⟨co, cc, rfl, hVc⟩, hl9, hk9⟩
                have hVP9 := HVP.out W9 (own_far hk9 HO.out (fun r hr => (HL8.out.far r hr).2.2))
                have c22 := bytL hVc hVP9.1 (by rw [HMAP.out, HPL.out]; have := HI2.out; omega)
                rw [HMAP.out, decide_eq_true rfl] at c22
                have HL9 : Hid _ := hl9
                have HO9 : Hid _ := own_far hk9 HO.out (fun r hr => (HL8.out.far r hr).2.2)
                clear c21 hVc hl9 hk9 hVP9 hcv
                go_wp2_with (go_at_call 22; refine Stop.mk ?_)
                refine Stop.out (c22.mono ?_)
                rintro e' W10 ⟨rfl, hb10⟩
                have HL10 : Hid _ := HL9.out.on hb10
                have HO10 : Hid (W10.ownsRow W8.heap.size 5 1 (.slice pa i pc) i (u8s PL)) := ownsRow_below HO9.out hb10 (Nat.le_refl _)
                have c20 := decL HL10.out HE.out HC6.out hHC.out (j : Int) (HVP.out W10 HO10.out).1
                rw [HAP.out, HAB.out] at c20
                simp only [strF, errF] at c20
                rw [bsZ_tz] at c20
                clear c22 hb10
                go_wp2_with (go_at_call 20; refine Stop.mk ?_)
                refine Stop.out (c20.mono ?_)
                rintro e' W11 ⟨er, rfl, her, hb11⟩
                obtain rfl : er = .nilIface := her
                have hcv := (HVP.out W11 (ownsRow_below HO10.out hb11 (Nat.le_refl _))).2
                have HB11 : Hid (Below w.heap.size w W11) := (HL10.out.on hb11).b
                clear c20 hb11
                go_wp2
                go_ret
                exact ⟨by simp, HB11.out⟩
      | ok o3 =>
        cases x with
        | true =>
          have hd := en_dc hHC.out HF3.out
          have HD : Hid _ := hd
          clear hd
          generalize bsZ t = tb at *
          have hid2 : (tb.toList != tb.toList) = false := by simp
          go_wp2_with (go_at_call 21; refine Stop.mk ?_)
          refine Stop.out (c21.mono ?_)
          rintro e' W6 ⟨⟨co, cc, rfl, hV6⟩, hl6, -⟩
          have HL6 : Hid (Lw w q u a R0 true W6) := hl6
          have HV6 : Hid (V W6 (.slice co o3.length cc) (o3.map Int.toNat)) := hV6
          have c9 := termL hl6 HC6.out
          clear c21 hl6 hV6
          obtain ⟨TT, hTT⟩ : ∃ TT, a.2.1 = TT := ⟨_, rfl⟩
          rw [hTT] at c9
          have hTf := wri_facts true ⟨a.1, HTRM.out.2⟩
          simp only at hTf
          rw [← HTRM.out.1, hTT] at hTf
          have hT8 : ¬ ((TT.size : Int) < 8) := by omega
          have hTz : 3 < TT.size := by omega
          have hT3 : ((TT[3]'hTz).toNat : Int) = 32 := by
            rw [← bsT_at hTz]
            have := hTf.2
            simp only [if_true] at this
            unfold bsT
            omega
          obtain ⟨nR, hnR⟩ : ∃ nR, R0.length = nR := ⟨_, rfl⟩
          rw [hnR] at c9
          have hnb : (((nR : Int) + 1) == 0) = false := by simp; omega
          clear hTf hTT hnR
          go_wp2_with (go_at_call 9; refine Stop.mk ?_)
          refine Stop.out (c9.mono ?_)
          rintro e' W7 ⟨g9, cp9, rfl, hc9, hb7⟩
          have HL7 : Hid (Lw w q u a R0 true W7) := HL6.out.on hb7
          have HV7 : Hid (V W7 (.slice co o3.length cc) (o3.map Int.toNat)) := V.next HV6.out hb7
          clear c9 hb7
          have c20 := decL HL7.out HE.out HC6.out hHC.out k HV7.out
          rw [arr_z, HD.out] at c20
          simp only [strF, errF] at c20
          rw [bsZ_tz] at c20
          go_wp2_with (go_at_call 20; refine Stop.mk ?_)
          refine Stop.out (c20.mono ?_)
          rintro e' W8 ⟨er, rfl, her, hb8⟩
          obtain rfl : er = .nilIface := her
          have HL8 : Hid (Lw w q u a R0 true W8) := HL7.out.on hb8
          clear c20 hb8
          go_wp2
          go_loopw [23, 24] (fun p y wr => PlInv W8 A n p y wr) (fun _ y _ => n - (intOf y).toNat)
          case atStart => exact ⟨0, rfl, by omega, by omega, World.ownsRow_nil _ _ _ _, Below.refl _ _⟩
          case round =>
            obtain ⟨i, rfl, hi, hi2, HO, HBr⟩ := hrel
            have HLr : Hid (Lw w q u a R0 true wr) := HL8.out.on HBr.out
            by_cases h12 : i < n ∧ i < 65534
            · obtain ⟨h1, h2⟩ := h12
              obtain ⟨b, off, rfl, hAt⟩ : ∃ b off, ao = some ⟨b, off, none⟩ ∧ At wr b off A := by
                obtain ⟨ao', cap', he, hf, -⟩ := (HVA.out.next HLr.out.b).form
                cases he
                exact hf (by rw [HN.out]; omega)
              obtain ⟨y, hy⟩ : ∃ y, A.getD i 0 = y := ⟨_, rfl⟩
              have hc := hAt.1 i (by rw [HN.out]; exact h1)
              rw [hy] at hc
              have hy256 : y < 256 := by
                rw [← hy, List.getD_eq_getElem?_getD, List.getElem?_eq_getElem (by rw [HN.out]; exact h1)]
                exact hAt.2 _ (List.getElem_mem _)
              have HTK : Hid ((A.map fun b => 32 + b % 95).take (i + 1) = (A.map fun b => 32 + b % 95).take i ++ [32 + y % 95]) := by
                show _ = _
                have hlt : i < A.length := by rw [HN.out]; exact h1
                rw [List.take_add_one, List.getElem?_map, List.getElem?_eq_getElem hlt]
                have : A[i]'hlt = y := by rw [← hy, List.getD_eq_getElem?_getD, List.getElem?_eq_getElem hlt]; rfl
                rw [this]
                rfl
              obtain ⟨z, hz⟩ : ∃ z, y % 95 = z := ⟨_, rfl⟩
              rw [hz] at HTK
              have hzl : z < 95 := by omega
              have hmod : Int.tmod (y : Int) 95 = (z : Int) := by rw [Int.tmod_eq_emod_of_nonneg (by omega)]; omega
              have hI1 : (i : Int) < (n : Int) := by omega
              have hI2 : (i : Int) < 65534 := by omega
              obtain ⟨i0, hi0, hz0, hz1, hz2⟩ := info_parts Tryd.info5
              clear hAt hy hz
              go_wp2_with (at_builtin; refine Stop.mk ?_)
              refine Stop.out (wpList_append_own _ rfl (.tmp 144) (.tmp 151) 43 rfl W8.heap.size 5 i0 _ 1 1 Tryd.underlying43 hi0 hz0 hz1 hz2 rfl (by decide) u23 i _ rfl (World.ownsRow.alloc HO.out _) ⟨wr.heap.size, 0, none⟩ 1 1 [.int .u8 (32 + (z : Int))] rfl rfl ?_ ?_ ?_ ?_ ?_ ?_)
              · exact cell_one_new _ _ _
              · intro z hz; simp at hz; subst hz; rfl
              · unfold maxLen; omega
              · omega
              · have := HBr.out.size; simp; omega
              · intro v4 W4 hown4 hg4 _
                have HO4 : Hid (W4.ownsRow W8.heap.size 5 1 v4 (i + 1) (u8s ((A.map fun b => 32 + b % 95).take (i + 1)))) := by
                  show W4.ownsRow _ _ _ _ _ _
                  rw [HTK.out, u8s_append]
                  exact hown4
                have HB4 : Hid (Below W8.heap.size W8 W4) := (HBr.out.alloc HBr.out.size _).grown hg4 (by have := HBr.out.size; simp; omega) (fun r e => (World.ownsRow.lt HO.out r e).1)
                clear hown4 hg4
                go_wp2
                go_roundw
                case rel => exact ⟨i + 1, by simp, by omega, by omega, HO4.out, HB4.out⟩
                case measure => simp [intOf]; omega
            · have hw3 : ((i : Int) < (n : Int) ∧ ¬ (i : Int) < 65534) ∨ ¬ (i : Int) < (n : Int) := by omega
              have HI2 : Hid (i ≤ 65534) := hi2
              have hbyt : ∀ z ∈ (A.map fun b => 32 + b % 95).take i, 32 ≤ z ∧ z ≤ 126 := by
                intro z hz
                obtain ⟨b, -, rfl⟩ := List.mem_map.1 (List.mem_of_mem_take hz)
                omega
              have hpl : ((A.map fun b => 32 + b % 95).take i).length = i := by rw [List.length_take, List.length_map, HN.out]; omega
              generalize (A.map fun b => 32 + b % 95).take i = PL at *
              have hown := HO.out
              obtain ⟨pa, pc, rfl⟩ : ∃ pa pc, u23 = .slice pa i pc := by
                rcases hown.2 with ⟨rfl, h0⟩ | ⟨g, cap, cur, hv, _⟩
                · exact ⟨none, 0, by rw [h0]⟩
                · exact ⟨_, _, hv⟩
              have HVP : Hid (∀ W, W.ownsRow W8.heap.size 5 1 (.slice pa i pc) i (u8s PL) → V W (.slice pa i pc) PL ∧ (convert 43 9 (.slice pa i pc)).run Tryd.prog W = .ok (.string (arr PL)) W) := fun W ho => by
                have hV : V W (.slice pa i pc) PL := own_v (B := W8.heap.size) (by rw [hpl]; exact ho) (fun z hz => by have := hbyt z hz; omega)
                obtain ⟨ao', cap', he, -, hbs⟩ := hV.bs
                rw [arr_size, hpl] at he
                cases he
                have := hbs.conv (cap := pc)
                rw [arr_size, hpl] at this
                exact ⟨hV, this⟩
              have hcv := (HVP.out wr hown).2
              clear hi2 h12
              rcases (show k < 0 ∨ (¬ k < 0 ∧ 2 < k) ∨ (¬ k < 0 ∧ ¬ 2 < k) by omega) with hk1 | ⟨hk1, hk2⟩ | ⟨hk1, hk2⟩
              · rcases hw3 with ⟨ha1, ha2⟩ | ha1
                all_goals
                  go_wp2
                  go_ret
                  exact ⟨rfl, HLr.out.b⟩
              · rcases hw3 with ⟨ha1, ha2⟩ | ha1
                all_goals
                  go_wp2
                  go_ret
                  exact ⟨rfl, HLr.out.b⟩
              · obtain ⟨j, hj, rfl⟩ : ∃ j : Nat, j < 3 ∧ k = (j : Int) := ⟨k.toNat, by omega, by omega⟩
                have hab := ascii_both hHC.out hj (s := arr PL) (by rw [arr_size, hpl]; exact HI2.out) (fun b hb => by
                  have : (arr PL).data.toList = PL.map fun b => b.toUInt8 := by simp [arr]
                  rw [this] at hb
                  obtain ⟨z, hz, rfl⟩ := List.mem_map.1 hb
                  have := hbyt z hz
                  have e : (z.toUInt8).toNat = z := by simp; omega
                  rw [e]
                  exact this)
                have hmap : (tz (arr PL).data.toList).map Int.toNat = PL := by
                  have : (arr PL).data.toList = PL.map fun b => b.toUInt8 := by simp [arr]
                  rw [this]
                  unfold tz
                  rw [List.map_map, List.map_map]
                  have : PL.map (fun b => b) = PL := List.map_id' _
                  refine Eq.trans (List.map_congr_left fun z hz => ?_) this
                  have := hbyt z hz
                  show (((z.toUInt8).toNat : Int)).toNat = z
                  have e : (z.toUInt8).toNat = z := by simp; omega
                  rw [e]
                  rfl
                have c21 := encL HLr.out HE.out HC6.out hHC.out (j : Int) (arr PL)
                rw [hab.1] at c21
                have HAB : Hid _ := hab.2
                have HMAP : Hid _ := hmap
                have HPL : Hid (PL.length = i) := hpl
                clear hab hmap hbyt hown hpl
                generalize hAP : arr PL = AP at c21 hcv HAB HMAP HVP
                have hAPs : AP.size = i := by rw [← hAP, arr_size]; exact HPL.out
                have HAP : Hid _ := hAP
                clear hAP
                rcases hw3 with ⟨ha1, ha2⟩ | ha1
                all_goals
                  go_wp2_with (go_at_call 21; refine Stop.mk ?_)
                  refine Stop.out (c21.mono ?_)
                  rintro e' W9 ⟨⟨co, cc, rfl, hVc⟩, hl9, hk9⟩
                  have hVP9 := HVP.out W9 (own_far hk9 HO.out (fun r hr => (HL8.out.far r hr).2.2))
                  have c22 := bytL hVc hVP9.1 (by rw [HMAP.out, HPL.out]; have := HI2.out; omega)
                  rw [HMAP.out, decide_eq_true rfl] at c22
                  have HL9 : Hid _ := hl9
                  have HO9 : Hid _ := own_far hk9 HO.out (fun r hr => (HL8.out.far r hr).2.2)
                  clear c21 hVc hl9 hk9 hVP9 hcv
                  go_wp2_with (go_at_call 22; refine Stop.mk ?_)
                  refine Stop.out (c22.mono ?_)
                  rintro e' W10 ⟨rfl, hb10⟩
                  have HL10 : Hid _ := HL9.out.on hb10
                  have HO10 : Hid (W10.ownsRow W8.heap.size 5 1 (.slice pa i pc) i (u8s PL)) := ownsRow_below HO9.out hb10 (Nat.le_refl _)
                  have c20 := decL HL10.out HE.out HC6.out hHC.out (j : Int) (HVP.out W10 HO10.out).1
                  rw [HAP.out, HAB.out] at c20
                  simp only [strF, errF] at c20
                  rw [bsZ_tz] at c20
                  clear c22 hb10
                  go_wp2_with (go_at_call 20; refine Stop.mk ?_)
                  refine Stop.out (c20.mono ?_)
                  rintro e' W11 ⟨er, rfl, her, hb11⟩
                  obtain rfl : er = .nilIface := her
                  have hcv := (HVP.out W11 (ownsRow_below HO10.out hb11 (Nat.le_refl _))).2
                  have HB11 : Hid (Below w.heap.size w W11) := (HL10.out.on hb11).b
                  clear c20 hb11
                  go_wp2
                  go_ret
                  exact ⟨by simp, HB11.out⟩
        | false =>
          have hd := en_dc hHC.out HF3.out
          have HD : Hid _ := hd
          clear hd
          have HO3 : Hid (o3.map Int.toNat = B) := by
            have ho3 := HX0.out rfl
            have hB := HVB.out.form
            obtain ⟨_, _, _, _, hB⟩ := hB
            cases ho3
            show _ = _
            have : (arr B).data.toList = B.map fun b => b.toUInt8 := by simp [arr]
            rw [this]
            unfold tz
            rw [List.map_map, List.map_map]
            have : B.map (fun b => b) = B := List.map_id' _
            refine Eq.trans (List.map_congr_left fun z hz => ?_) this
            have := hB z hz
            show (((z.toUInt8).toNat : Int)).toNat = z
            have e : (z.toUInt8).toNat = z := by simp; omega
            rw [e]
            rfl
          generalize bsZ t = tb at *
          have hid2 : (tb.toList != tb.toList) = false := by simp
          go_wp2_with (go_at_call 21; refine Stop.mk ?_)
          refine Stop.out (c21.mono ?_)
          rintro e' W6 ⟨⟨co, cc, rfl, hV6⟩, hl6, -⟩
          have HL6 : Hid (Lw w q u a R0 false W6) := hl6
          have HV6 : Hid (V W6 (.slice co o3.length cc) (o3.map Int.toNat)) := hV6
          have c9 := termL hl6 HC6.out
          clear c21 hl6 hV6
          obtain ⟨TT, hTT⟩ : ∃ TT, a.2.1 = TT := ⟨_, rfl⟩
          rw [hTT] at c9
          have hTf := wri_facts false ⟨a.1, HTRM.out.2⟩
          simp only at hTf
          rw [← HTRM.out.1, hTT] at hTf
          have hT8 : ¬ ((TT.size : Int) < 8) := by omega
          have hTz : 3 < TT.size := by omega
          have hT3 : ((TT[3]'hTz).toNat : Int) = 95 := by
            rw [← bsT_at hTz]
            have := hTf.2
            simp only [Bool.false_eq_true, if_false] at this
            unfold bsT
            omega
          obtain ⟨nR, hnR⟩ : ∃ nR, R0.length = nR := ⟨_, rfl⟩
          rw [hnR] at c9
          have hnb : (((nR : Int) + 1) == 0) = false := by simp; omega
          clear hTf hTT hnR
          go_wp2_with (go_at_call 9; refine Stop.mk ?_)
          refine Stop.out (c9.mono ?_)
          rintro e' W7 ⟨g9, cp9, rfl, hc9, hb7⟩
          have HL7 : Hid (Lw w q u a R0 false W7) := HL6.out.on hb7
          have HV7 : Hid (V W7 (.slice co o3.length cc) (o3.map Int.toNat)) := V.next HV6.out hb7
          clear c9 hb7
          have c22 := bytL HV7.out (HVB.out.next HL7.out.b) (by rw [HO3.out, HM.out]; exact hlB)
          rw [HO3.out, decide_eq_true rfl] at c22
          go_wp2_with (go_at_call 22; refine Stop.mk ?_)
          refine Stop.out (c22.mono ?_)
          rintro e' W7b ⟨rfl, hb7b⟩
          have HL7b : Hid (Lw w q u a R0 false W7b) := HL7.out.on hb7b
          have HV7b : Hid (V W7b (.slice co o3.length cc) (o3.map Int.toNat)) := V.next HV7.out hb7b
          have c20 := decL HL7b.out HE.out HC6.out hHC.out k HV7b.out
          clear c22 hb7b hc9
          rw [arr_z, HD.out] at c20
          simp only [strF, errF] at c20
          rw [bsZ_tz] at c20
          go_wp2_with (go_at_call 20; refine Stop.mk ?_)
          refine Stop.out (c20.mono ?_)
          rintro e' W8 ⟨er, rfl, her, hb8⟩
          obtain rfl : er = .nilIface := her
          have HL8 : Hid (Lw w q u a R0 false W8) := HL7b.out.on hb8
          clear c20 hb8
          go_wp2
          go_loopw [23, 24] (fun p y wr => PlInv W8 A n p y wr) (fun _ y _ => n - (intOf y).toNat)
          case atStart => exact ⟨0, rfl, by omega, by omega, World.ownsRow_nil _ _ _ _, Below.refl _ _⟩
          case round =>
            obtain ⟨i, rfl, hi, hi2, HO, HBr⟩ := hrel
            have HLr : Hid (Lw w q u a R0 false wr) := HL8.out.on HBr.out
            by_cases h12 : i < n ∧ i < 65534
            · obtain ⟨h1, h2⟩ := h12
              obtain ⟨b, off, rfl, hAt⟩ : ∃ b off, ao = some ⟨b, off, none⟩ ∧ At wr b off A := by
                obtain ⟨ao', cap', he, hf, -⟩ := (HVA.out.next HLr.out.b).form
                cases he
                exact hf (by rw [HN.out]; omega)
              obtain ⟨y, hy⟩ : ∃ y, A.getD i 0 = y := ⟨_, rfl⟩
              have hc := hAt.1 i (by rw [HN.out]; exact h1)
              rw [hy] at hc
              have hy256 : y < 256 := by
                rw [← hy, List.getD_eq_getElem?_getD, List.getElem?_eq_getElem (by rw [HN.out]; exact h1)]
                exact hAt.2 _ (List.getElem_mem _)
              have HTK : Hid ((A.map fun b => 32 + b % 95).take (i + 1) = (A.map fun b => 32 + b % 95).take i ++ [32 + y % 95]) := by
                show _ = _
                have hlt : i < A.length := by rw [HN.out]; exact h1
                rw [List.take_add_one, List.getElem?_map, List.getElem?_eq_getElem hlt]
                have : A[i]'hlt = y := by rw [← hy, List.getD_eq_getElem?_getD, List.getElem?_eq_getElem hlt]; rfl
                rw [this]
                rfl
              obtain ⟨z, hz⟩ : ∃ z, y % 95 = z := ⟨_, rfl⟩
              rw [hz] at HTK
              have hzl : z < 95 := by omega
              have hmod : Int.tmod (y : Int) 95 = (z : Int) := by rw [Int.tmod_eq_emod_of_nonneg (by omega)]; omega
              have hI1 : (i : Int) < (n : Int) := by omega
              have hI2 : (i : Int) < 65534 := by omega
              obtain ⟨i0, hi0, hz0, hz1, hz2⟩ := info_parts Tryd.info5
              clear hAt hy hz
              go_wp2_with (at_builtin; refine Stop.mk ?_)
              refine Stop.out (wpList_append_own _ rfl (.tmp 144) (.tmp 151) 43 rfl W8.heap.size 5 i0 _ 1 1 Tryd.underlying43 hi0 hz0 hz1 hz2 rfl (by decide) u23 i _ rfl (World.ownsRow.alloc HO.out _) ⟨wr.heap.size, 0, none⟩ 1 1 [.int .u8 (32 + (z : Int))] rfl rfl ?_ ?_ ?_ ?_ ?_ ?_)
              · exact cell_one_new _ _ _
              · intro z hz; simp at hz; subst hz; rfl
              · unfold maxLen; omega
              · omega
              · have := HBr.out.size; simp; omega
              · intro v4 W4 hown4 hg4 _
                have HO4 : Hid (W4.ownsRow W8.heap.size 5 1 v4 (i + 1) (u8s ((A.map fun b => 32 + b % 95).take (i + 1)))) := by
                  show W4.ownsRow _ _ _ _ _ _
                  rw [HTK.out, u8s_append]
                  exact hown4
                have HB4 : Hid (Below W8.heap.size W8 W4) := (HBr.out.alloc HBr.out.size _).grown hg4 (by have := HBr.out.size; simp; omega) (fun r e => (World.ownsRow.lt HO.out r e).1)
                clear hown4 hg4
                go_wp2
                go_roundw
                case rel => exact ⟨i + 1, by simp, by omega, by omega, HO4.out, HB4.out⟩
                case measure => simp [intOf]; omega
            · have hw3 : ((i : Int) < (n : Int) ∧ ¬ (i : Int) < 65534) ∨ ¬ (i : Int) < (n : Int) := by omega
              have HI2 : Hid (i ≤ 65534) := hi2
              have hbyt : ∀ z ∈ (A.map fun b => 32 + b % 95).take i, 32 ≤ z ∧ z ≤ 126 := by
                intro z hz
                obtain ⟨b, -, rfl⟩ := List.mem_map.1 (List.mem_of_mem_take hz)
                omega
              have hpl : ((A.map fun b => 32 + b % 95).take i).length = i := by rw [List.length_take, List.length_map, HN.out]; omega
              generalize (A.map fun b => 32 + b % 95).take i = PL at *
              have hown := HO.out
              obtain ⟨pa, pc, rfl⟩ : ∃ pa pc, u23 = .slice pa i pc := by
                rcases hown.2 with ⟨rfl, h0⟩ | ⟨g, cap, cur, hv, _⟩
                · exact ⟨none, 0, by rw [h0]⟩
                · exact ⟨_, _, hv⟩
              have HVP : Hid (∀ W, W.ownsRow W8.heap.size 5 1 (.slice pa i pc) i (u8s PL) → V W (.slice pa i pc) PL ∧ (convert 43 9 (.slice pa i pc)).run Tryd.prog W = .ok (.string (arr PL)) W) := fun W ho => by
                have hV : V W (.slice pa i pc) PL := own_v (B := W8.heap.size) (by rw [hpl]; exact ho) (fun z hz => by have := hbyt z hz; omega)
                obtain ⟨ao', cap', he, -, hbs⟩ := hV.bs
                rw [arr_size, hpl] at he
                cases he
                have := hbs.conv (cap := pc)
                rw [arr_size, hpl] at this
                exact ⟨hV, this⟩
              have hcv := (HVP.out wr hown).2
              clear hi2 h12
              rcases (show k < 0 ∨ (¬ k < 0 ∧ 2 < k) ∨ (¬ k < 0 ∧ ¬ 2 < k) by omega) with hk1 | ⟨hk1, hk2⟩ | ⟨hk1, hk2⟩
              · rcases hw3 with ⟨ha1, ha2⟩ | ha1
                all_goals
                  go_wp2
                  go_ret
                  exact ⟨rfl, HLr.out.b⟩
              · rcases hw3 with ⟨ha1, ha2⟩ | ha1
                all_goals
                  go_wp2
                  go_ret
                  exact ⟨rfl, HLr.out.b⟩
              · obtain ⟨j, hj, rfl⟩ : ∃ j : Nat, j < 3 ∧ k = (j : Int) := ⟨k.toNat, by omega, by omega⟩
                have hab := ascii_both hHC.out hj (s := arr PL) (by rw [arr_size, hpl]; exact HI2.out) (fun b hb => by
                  have : (arr PL).data.toList = PL.map fun b => b.toUInt8 := by simp [arr]
                  rw [this] at hb
                  obtain ⟨z, hz, rfl⟩ := List.mem_map.1 hb
                  have := hbyt z hz
                  have e : (z.toUInt8).toNat = z := by simp; omega
                  rw [e]
                  exact this)
                have hmap : (tz (arr PL).data.toList).map Int.toNat = PL := by
                  have : (arr PL).data.toList = PL.map fun b => b.toUInt8 := by simp [arr]
                  rw [this]
                  unfold tz
                  rw [List.map_map, List.map_map]
                  have : PL.map (fun b => b) = PL := List.map_id' _
                  refine Eq.trans (List.map_congr_left fun z hz => ?_) this
                  have := hbyt z hz
                  show (((z.toUInt8).toNat : Int)).toNat = z
                  have e : (z.toUInt8).toNat = z := by simp; omega
                  rw [e]
                  rfl
                have c21 := encL HLr.out HE.out HC6.out hHC.out (j : Int) (arr PL)
                rw [hab.1] at c21
                have HAB : Hid _ := hab.2
                have HMAP : Hid _ := hmap
                have HPL : Hid (PL.length = i) := hpl
                clear hab hmap hbyt hown hpl
                generalize hAP : arr PL = AP at c21 hcv HAB HMAP HVP
                have hAPs : AP.size = i := by rw [← hAP, arr_size]; exact HPL.out
                have HAP : Hid _ := hAP
                clear hAP
                rcases hw3 with ⟨ha1, ha2⟩ | ha1
                all_goals
                  go_wp2_with (go_at_call 21; refine Stop.mk ?_)
                  refine Stop.out (c21.mono ?_)
                  rintro e' W9 ⟨⟨co, cc, rfl, hVc⟩, hl9, hk9⟩
                  have hVP9 := HVP.out W9 (own_far hk9 HO.out (fun r hr => (HL8.out.far r hr).2.2))
                  have c22 := bytL hVc hVP9.1 (by rw [HMAP.out, HPL.out]; have := HI2.out; omega)
                  rw [HMAP.out, decide_eq_true rfl] at c22
                  have HL9 : Hid _ := hl9
                  have HO9 : Hid _ := own_far hk9 HO.out (fun r hr => (HL8.out.far r hr).2.2)
                  clear c21 hVc hl9 hk9 hVP9 hcv
                  go_wp2_with (go_at_call 22; refine Stop.mk ?_)
                  refine Stop.out (c22.mono ?_)
                  rintro e' W10 ⟨rfl, hb10⟩
                  have HL10 : Hid _ := HL9.out.on hb10
                  have HO10 : Hid (W10.ownsRow W8.heap.size 5 1 (.slice pa i pc) i (u8s PL)) := ownsRow_below HO9.out hb10 (Nat.le_refl _)
                  have c20 := decL HL10.out HE.out HC6.out hHC.out (j : Int) (HVP.out W10 HO10.out).1
                  rw [HAP.out, HAB.out] at c20
                  simp only [strF, errF] at c20
                  rw [bsZ_tz] at c20
                  clear c22 hb10
                  go_wp2_with (go_at_call 20; refine Stop.mk ?_)
                  refine Stop.out (c20.mono ?_)
                  rintro e' W11 ⟨er, rfl, her, hb11⟩
                  obtain rfl : er = .nilIface := her
                  have hcv := (HVP.out W11 (ownsRow_below HO10.out hb11 (Nat.le_refl _))).2
                  have HB11 : Hid (Below w.heap.size w W11) := (HL10.out.on hb11).b
                  clear c20 hb11
                  go_wp2
                  go_ret
                  exact ⟨by simp, HB11.out⟩

set_option maxRecDepth 100000 in
theorem back_no (w : World) (v : Value) (T : List ByteArray) (ac : Int × Int) (k : Int) (text : ByteArray) (va vb : Value) (hr : newS T = .inl ac) (hT : TS w v T) (hsz : ∀ s ∈ T, s.size ≤ 140737488351232) (he : Env w) :
    Calls Tryd.prog 6 #[v, .int .i64 k, .string text, va, vb] w fun e w' => e = .returned (.bool true) ∧ Below w.heap.size w w' := by
  have c18 := known_any w he.sp he.t he.k he.u
  have HNEW : Hid (∀ W, Below w.heap.size w W → Calls Tryd.prog 13 #[v] W fun e w' => ∃ p er, e = .returned (.tuple #[p, er]) ∧ NewAt w' W.heap.size p er (.inl ac) ∧ Below W.heap.size W w') := fun W hb => by
    have := newAll W v T (hT.next hb) hsz (he.sp.on hb)
    rw [hr] at this
    exact this
  obtain ⟨tao, tc, rfl, _⟩ := hT
  clear hr hsz he
  go_enter Tryd.func6, Tryd.ntmps6
  go_wp2_with (go_at_call 18; refine Stop.mk ?_)
  refine Stop.out (c18.mono ?_)
  rintro e' W1 ⟨rfl, hb1⟩
  have c13 := HNEW.out W1 hb1
  have HB1 : Hid _ := hb1
  clear c18 hb1
  go_wp2_with (go_at_call 13; refine Stop.mk ?_)
  refine Stop.out (c13.mono ?_)
  obtain ⟨a0, c0⟩ := ac
  rintro e' W2 ⟨p, er, rfl, ⟨rfl, gq, rfl, -⟩, hb2⟩
  have HB2 : Hid (Below w.heap.size w W2) := HB1.out.trans (hb2.mono HB1.out.size)
  clear hb2 c13
  go_wp2
  go_ret
  exact ⟨rfl, HB2.out⟩
end Go.Proofs.YtmhjjpdfjilobaaDoor
