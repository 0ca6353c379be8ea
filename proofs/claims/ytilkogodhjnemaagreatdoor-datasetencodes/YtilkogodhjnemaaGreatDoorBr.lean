import Derived.Test.YtilkogodhjnemaaGreatDoorBqa
/-
  DERIVED. Elements laid down, one behind the other: the document's.
-/
namespace Go.Proofs.YtilkogodhjnemaaGreatDoor
open Go Go.Proofs Go.RowKit
open Wk (Nd NV goN nxt)

set_option maxRecDepth 100000 in
set_option maxHeartbeats 16000000 in
theorem rl_step (m : Nat) (hm : ∀ q, q < m → RlC q) : RlC m := by
  intro W base b off n cap L x i e v ys hem hV hie hen hlev hwf hown hlen
  have HM : Hid (∀ (W : World) (base b off n cap : Nat) (L : List Nd) (x : Bool) (i e : Nat) (v : Value) (ys : List UInt8), e - i < m → Ly base b off n cap L W → i ≤ e → e ≤ n → Lev L i e → Wf L false i e → Ob base W v ys → ys.length + (encOf x).sD false (sub L i e) ≤ 3000000 → Calls Tryz.prog 21 #[v, .slice (some ⟨b, off, none⟩) n cap, .int .i64 (i : Int), .int .i64 (e : Int), .bool x] W fun r W' => ∃ u, r = .returned u ∧ Hid (Ob base W' u (ys ++ (encOf x).lD false (sub L i e))) ∧ Hid (By base W W')) := fun W base b off n cap L x i e v ys h => hm (e - i) h W base b off n cap L x i e v ys (Nat.le_refl _)
  have HV : Hid (Ly base b off n cap L W) := hV
  have HN : Hid (n = L.length) := hV.nv.len
  have hn40 := hV.n40
  have H0 : Hid (Lev L i e ∧ Wf L false i e ∧ Ob base W v ys ∧ ys.length + (encOf x).sD false (sub L i e) ≤ 3000000) := ⟨hlev, hwf, hown, hlen⟩
  clear hm hV hlev hwf hown hlen
  go_enter Tryz.func21, Tryz.ntmps21
  go_wp2
  go_loopw [0, 2] (fun x0 x2 wr => ∃ (p : Nat) (Z : List UInt8), x2 = .int .i64 (p : Int) ∧ i ≤ p ∧ p ≤ e ∧ Hid (Lev L p e ∧ Wf L false p e ∧ Ob base wr x0 Z ∧ Z ++ (encOf x).lD false (sub L p e) = ys ++ (encOf x).lD false (sub L i e) ∧ Z.length + (encOf x).sD false (sub L p e) ≤ 3000000 ∧ By base W wr)) (fun _ x2 _ => n - (intOf x2).toNat)
  case atStart => exact ⟨i, ys, rfl, Nat.le_refl _, hie, H0.out.1, H0.out.2.1, H0.out.2.2.1, rfl, H0.out.2.2.2, By.refl _ _⟩
  case round =>
    obtain ⟨p, Z, rfl, hip, hpe, HI⟩ := hrel
    obtain ⟨wo, rfl⟩ : ∃ wo, wo = wr := ⟨_, rfl⟩
    obtain ⟨uo, rfl⟩ : ∃ uo, uo = u0 := ⟨_, rfl⟩
    by_cases hlt : p < e
    · have hltI : (p : Int) < (e : Int) := by omega
      have hpL : p < L.length := by rw [← HN.out]; omega
      have heL : e ≤ L.length := by rw [← HN.out]; exact hen
      have hly := HV.out.by HI.out.2.2.2.2.2
      have HLY : Hid (Ly base b off n cap L wo) := hly
      have cn := Wk.nextR_in wo (some ⟨b, off, none⟩) n cap p L hly.nv (by omega) (by omega)
      obtain ⟨h1, h2, h3, h4, -⟩ := HI.out.1.next hlt heL
      obtain ⟨w1, w2, w3⟩ := HI.out.2.1.next HI.out.1 hlt heL
      have HSE := (encOf x).sD_elem HI.out.1 hlt heL
      have HLE := (encOf x).lD_elem HI.out.1 hlt heL
      obtain ⟨nx, hnx⟩ : ∃ nx, nxt L p = nx := ⟨_, rfl⟩
      rw [hnx] at cn h1 h2 h3 h4 HSE HLE w2 w3
      obtain ⟨b', off', hl, he, e0, e1, e2, e3⟩ := NV.cells hly.nv (j := p) (by omega)
      cases he
      have htg := HV.out.tg _ (List.getElem_mem hl)
      have hel : elemOk (L[p]'hl) = true := by simpa using w1
      obtain ⟨hv1, hv28, hss⟩ := elem_vr hel
      have huo : (L[p]'hl).v = 18 → (encOf x).und (L[p]'hl) = (!x && !(fnd (L[p]'hl)).isSome) := und_open x
      have hpvp : (encOf x).pv (L[p]'hl) = pvL (L[p]'hl).v (L[p]'hl).s := encOf_pv x _
      have hh12 := hs_le x (L[p]'hl)
      have hdl : ∀ q, ((encOf x).hd (L[p]'hl) q).length = (encOf x).hs (L[p]'hl) := hd_len x (.inr ⟨hv1, hv28⟩)
      generalize L[p]'hl = q at e0 e1 e2 e3 htg hss huo hpvp hh12 hdl HSE HLE hv1 hv28
      obtain ⟨t, vv, z, s⟩ := q
      simp only at e0 e1 e2 e3 htg hss huo hpvp HSE HLE hv1 hv28
      obtain ⟨tn, rfl⟩ : ∃ tn : Nat, t = (tn : Int) := ⟨t.toNat, by omega⟩
      have htn : tn < 4294967296 := by omega
      have HHD := fun X u Y k hk ho hb hl => head_any x X base u Y tn k htn hk vv z s ⟨hv1, hv28⟩ ho hb hl
      have HLN : Hid (Lev L (p + 1) nx ∧ Lev L nx e ∧ Wf L true (p + 1) nx ∧ Wf L false nx e) := ⟨h3, h4, w2, w3⟩
      have hnxe : nx ≤ e := h1
      have hpnx : p < nx := h2
      have HOZ : Hid (Ob base wo uo Z ∧ Z ++ (encOf x).lD false (sub L p e) = ys ++ (encOf x).lD false (sub L i e) ∧ Z.length + (encOf x).sD false (sub L p e) ≤ 3000000 ∧ By base W wo) := ⟨HI.out.2.2.1, HI.out.2.2.2.1, HI.out.2.2.2.2.1, HI.out.2.2.2.2.2⟩
      have hpI : (p : Int) < (n : Int) := by omega
      obtain ⟨W1, hW1⟩ : ∃ W1, wo.alloc (.cells #[.int .u32 (tn : Int), .int .i64 vv, .int .i64 z, .string s] 47) = W1 := ⟨_, rfl⟩
      have hb1 : Below wo.heap.size wo W1 := by rw [← hW1]; exact (Below.refl _ _).alloc (Nat.le_refl _) _
      have hnb : NB W1 wo.heap.size (tn : Int) vv z s := by rw [← hW1]; exact Wk.heap_new wo _
      obtain ⟨kb, hkb⟩ : ∃ kb, wo.heap.size = kb := ⟨_, rfl⟩
      rw [hkb] at hnb
      obtain ⟨y0, y1, y2, y3⟩ := hnb.nc
      have H1 : Hid (Below wo.heap.size wo W1 ∧ NB W1 kb (tn : Int) vv z s) := ⟨hb1, hnb⟩
      have HHD2 : Hid _ := HHD
      clear h3 h4 hnx htg hly HI h1 h2 w1 w2 w3 hel hb1 hnb HHD
      by_cases hv : vv = 18
      · have bv : (vv != 18) = false := by rw [hv]; rfl
        have ho2 : (!x && !(Tb.docF tn (Tb.upTo 10)).isSome) = (encOf x).und ⟨(tn : Int), vv, z, s⟩ := (huo hv).symm
        obtain ⟨un, hun⟩ : ∃ un, (encOf x).und ⟨(tn : Int), vv, z, s⟩ = un := ⟨_, rfl⟩
        rw [hun] at ho2 HSE HLE
        rw [if_neg (by simp [hv])] at HSE HLE
        have co := fun X => open_any X tn htn vv z s x un ho2
        obtain ⟨S, hS⟩ : ∃ S, (encOf x).sD true (sub L (p + 1) nx) = S := ⟨_, rfl⟩
        rw [hS] at HSE HLE
        have HS : Hid _ := hS
        have hSl : S ≤ 3000000 := by have := HOZ.out.2.2.1; rw [HSE] at this; omega
        have HSE2 : Hid _ := HSE
        have HLE2 : Hid _ := HLE
        have HDL : Hid _ := hdl
        clear huo hun ho2 HSE HLE hpvp hv hS hdl
        go_wp2_with (first | (go_at_call 36; refine Calls.mono cn ?_; rintro ee Wa ⟨rfl, rfl⟩) | fail)
        clear e0 e1 e2 e3 hW1
        go_loopw [15, 16] (fun x15 x16 wi => ∃ j kk : Nat, x16 = .int .i64 (j : Int) ∧ x15 = .int .u64 (kk : Int) ∧ p + 1 ≤ j ∧ j ≤ nx ∧ kk ≤ 3000000 ∧ Hid (Lev L j nx ∧ kk + (encOf x).sD true (sub L j nx) = S ∧ Below W1.heap.size W1 wi)) (fun _ x16 _ => n - (intOf x16).toNat)
        case atStart => exact ⟨p + 1, 0, by go_num, rfl, Nat.le_refl _, by omega, by omega, HLN.out.1, by rw [HS.out]; omega, Below.refl _ _⟩
        case round =>
          obtain ⟨j, kk, rfl, rfl, hpj, hjn, hkk, HJ⟩ := hrel
          have hBi : Below wo.heap.size wo wr := H1.out.1.trans (HJ.out.2.2.mono H1.out.1.size)
          have HBi : Hid _ := hBi
          by_cases hjl : j < nx
          · have hjI : (j : Int) < (nx : Int) := by omega
            have hnvj := HLY.out.nv.on hBi
            have cj := Wk.nextR_in wr (some ⟨b, off, none⟩) n cap j L hnvj (by omega) (by omega)
            have cj2 := fun X hX => Wk.nextR_in X (some ⟨b, off, none⟩) n cap j L (HLY.out.nv.on hX) (by omega) (by omega)
            obtain ⟨g1, g2, g3, g4, -⟩ := HJ.out.1.next hjl (by omega)
            have HSI := (encOf x).sD_item HJ.out.1 hjl (by omega)
            obtain ⟨af, haf⟩ : ∃ af, nxt L j = af := ⟨_, rfl⟩
            simp only [haf] at cj cj2
            rw [haf] at g1 g2 g3 g4 HSI
            obtain ⟨q1, hq1⟩ : ∃ q1, (encOf x).sD false (sub L (j + 1) af) = q1 := ⟨_, rfl⟩
            have cz := rs_any (af - (j + 1)) wr (some ⟨b, off, none⟩) n cap L x (j + 1) af (Nat.le_refl _) ⟨hnvj, HV.out.tg, HV.out.gd, HV.out.n40⟩ (by omega) (by omega) g3
            simp only [hq1] at cz
            rw [hq1] at HSI
            have hq1l : kk + (8 + q1) ≤ 3000000 := by have := HJ.out.2.1; rw [HSI] at this; omega
            have HJ2 : Hid (Lev L af nx ∧ (kk + (8 + q1)) + (encOf x).sD true (sub L af nx) = S) := ⟨g4, by have := HJ.out.2.1; rw [HSI] at this; omega⟩
            have HG : Hid (j < af ∧ af ≤ nx) := ⟨g2, g1⟩
            have hja : ((j + 1 : Nat) : Int) = (j : Int) + 1 := by omega
            simp only [hja] at cz
            have hafI : af ≤ 4096 := by omega
            have HJB : Hid (Below W1.heap.size W1 wr) := HJ.out.2.2
            have CJ2 : Hid _ := cj2
            clear g1 g2 g3 g4 HSI haf hq1 HJ hnvj hBi cj2
            go_wp2_with (go_at_call 36; refine StopB.out ?_)
            refine ⟨Calls.mono cj ?_⟩
            rintro ee Wj ⟨rfl, rfl⟩
            go_wp2_with (go_at_call 35; refine StopB.out ?_)
            refine ⟨Calls.mono cz ?_⟩
            rintro ee Wk ⟨rfl, hbk⟩
            go_wp2_with (go_at_call 36; refine StopB.out ?_)
            refine ⟨Calls.mono (CJ2.out Wk (HBi.out.trans (hbk.mono HBi.out.size))) ?_⟩
            rintro ee Wl ⟨rfl, rfl⟩
            go_wp2
            go_roundw
            case rel => exact ⟨af, kk + (8 + q1), rfl, by rw [show ((kk + (8 + q1) : Nat) : Int) = (kk : Int) + (8 + (q1 : Int)) by omega], by have := HG.out; omega, HG.out.2, by omega, HJ2.out.1, HJ2.out.2, HJB.out.trans (hbk.mono HJB.out.size)⟩
            case measure => have := HG.out; simp [intOf]; omega
          · obtain rfl : j = nx := by omega
            have hjI : ¬ (j : Int) < (j : Int) := by omega
            obtain rfl : kk = S := by have := HJ.out.2.1; rw [sub_nil (Nat.le_refl _)] at this; exact this
            have HNB : Hid (NB wr kb (tn : Int) vv z s) := H1.out.2.on HJ.out.2.2
            obtain ⟨x0, x1, x2, x3⟩ := HNB.out.nc
            clear y0 y1 y2 y3 HJ hBi
            obtain ⟨wp, rfl⟩ : ∃ wp, wp = wr := ⟨_, rfl⟩
            rcases un with _ | _
            · have HSE3 : Hid ((encOf x).sD false (sub L p e) = (encOf x).hs ⟨(tn : Int), vv, z, s⟩ + 0 + kk + (encOf x).sD false (sub L j e)) := by have := HSE2.out; show _ = _; simpa using this
              have HLE3 : Hid ((encOf x).lD false (sub L p e) = (encOf x).hd ⟨(tn : Int), vv, z, s⟩ kk ++ (encOf x).lD true (sub L (p + 1) j) ++ [] ++ (encOf x).lD false (sub L j e)) := by have := HLE2.out; show _ = _; simpa using this
              clear HSE2 HLE2
              have hsum : Z.length + ((encOf x).hs ⟨(tn : Int), vv, z, s⟩ + 0 + kk + (encOf x).sD false (sub L j e)) ≤ 3000000 := by have := HOZ.out.2.2.1; rw [HSE3.out] at this; exact this
              go_wp2_with (first | (go_at_call 39; refine Calls.mono (co _) ?_; rintro ee Wc ⟨rfl, hbc⟩; obtain ⟨r0, r1, r2, r3⟩ := (HNB.out.on hbc).nc) | (go_at_call 38; refine StopB.out ?_))
              have hBc : Below wo.heap.size wo Wc := HBi.out.trans (hbc.mono HBi.out.size)
              have hbaseW : base ≤ Wc.heap.size := Nat.le_trans HLY.out.hb hBc.size
              refine ⟨Calls.mono (HHD2.out Wc uo Z kk (by omega) (HOZ.out.1.on hBc) hbaseW (by omega)) ?_⟩
              rintro ee Wd ⟨ud, rfl, hod, hbd⟩
              obtain ⟨ZH, hZH⟩ : ∃ ZH, Z ++ (encOf x).hd ⟨(tn : Int), vv, z, s⟩ kk = ZH := ⟨_, rfl⟩
              rw [hZH] at hod
              have HZH : Hid _ := hZH
              have hZL : ZH.length = Z.length + (encOf x).hs ⟨(tn : Int), vv, z, s⟩ := by rw [← hZH, List.length_append, HDL.out]
              have HBd : Hid (By base wo Wd) := (By.of hBc HLY.out.hb).trans hbd.out
              have HNd : Hid (NB Wd kb (tn : Int) vv z s) := (HNB.out.on hbc).by hbd.out
              have HOd : Hid (Ob base Wd ud ZH) := hod
              have HSd : Hid (kk = (encOf x).sD true (sub L (p + 1) j)) := HS.out.symm
              clear hbc hBc hod hbd hZH x0 x1 x2 x3 r0 r1 r2 r3
              go_wp2
              go_loopw [0, 17] (fun x0 x17 wi => ∃ (g : Nat) (Y : List UInt8), x17 = .int .i64 (g : Int) ∧ p + 1 ≤ g ∧ g ≤ j ∧ Hid (Lev L g j ∧ Wf L true g j ∧ Ob base wi x0 Y ∧ Y ++ (encOf x).lD true (sub L g j) = ZH ++ (encOf x).lD true (sub L (p + 1) j) ∧ Y.length + (encOf x).sD true (sub L g j) + 0 + (encOf x).sD false (sub L j e) ≤ 3000000 ∧ By base wo wi ∧ NB wi kb (tn : Int) vv z s)) (fun _ x17 _ => n - (intOf x17).toNat)
              case atStart => exact ⟨p + 1, ZH, by go_num, Nat.le_refl _, by omega, HLN.out.1, HLN.out.2.2.1, HOd.out, rfl, by rw [← HSd.out]; omega, HBd.out, HNd.out⟩
              case round =>
                obtain ⟨g, Y, rfl, hpg, hgj, HJ⟩ := hrel
                by_cases hgl : g < j
                · have hgI : (g : Int) < (j : Int) := by omega
                  have HLYi : Hid (Ly base b off n cap L wr) := HLY.out.by HJ.out.2.2.2.2.2.1
                  have cj := Wk.nextR_in wr (some ⟨b, off, none⟩) n cap g L HLYi.out.nv (by omega) (by omega)
                  obtain ⟨g1, g2, g3, g4, -⟩ := HJ.out.1.next hgl (by omega)
                  obtain ⟨v1, v2, v3⟩ := HJ.out.2.1.next HJ.out.1 hgl (by omega)
                  have HSI := (encOf x).sD_item HJ.out.1 hgl (by omega)
                  have HLI := (encOf x).lD_item HJ.out.1 hgl (by omega)
                  obtain ⟨af, haf⟩ : ∃ af, nxt L g = af := ⟨_, rfl⟩
                  rw [haf] at cj g1 g2 g3 g4 HSI HLI v2 v3
                  obtain ⟨q1, hq1⟩ : ∃ q1, (encOf x).sD false (sub L (g + 1) af) = q1 := ⟨_, rfl⟩
                  have cz := fun X (hX : By base wr X) => rs_any (af - (g + 1)) X (some ⟨b, off, none⟩) n cap L x (g + 1) af (Nat.le_refl _) (HLYi.out.by hX).ls (by omega) (by omega) g3
                  have cl := fun X u Q (hX : By base wr X) ho hl => HM.out X base b off n cap L x (g + 1) af u Q (by omega) (HLYi.out.by hX) (by omega) (by omega) g3 v2 ho hl
                  simp only [hq1] at cz cl
                  rw [hq1] at HSI HLI
                  have hlen5 : Y.length + (8 + q1 + (encOf x).sD true (sub L af j)) + 0 + (encOf x).sD false (sub L j e) ≤ 3000000 := by have := HJ.out.2.2.2.2.1; rw [HSI] at this; exact this
                  have hja : ((g + 1 : Nat) : Int) = (g : Int) + 1 := by omega
                  simp only [hja] at cz cl
                  have hafI : af ≤ 4096 := by omega
                  have hgaf : g < af ∧ af ≤ j := ⟨g2, g1⟩
                  have HG : Hid (Lev L af j ∧ Wf L true af j) := ⟨g4, v3⟩
                  have HLl : Hid (((encOf x).lD false (sub L (g + 1) af)).length = q1) := by show _ = _; rw [← hq1]; exact Wf.len x v2 HV.out.gd
                  have HLI2 : Hid _ := HLI
                  have HJO : Hid (Ob base wr u0 Y ∧ Y ++ (encOf x).lD true (sub L g j) = ZH ++ (encOf x).lD true (sub L (p + 1) j) ∧ By base wo wr ∧ NB wr kb (tn : Int) vv z s) := ⟨HJ.out.2.2.1, HJ.out.2.2.2.1, HJ.out.2.2.2.2.2.1, HJ.out.2.2.2.2.2.2⟩
                  have CL : Hid _ := cl
                  have CZ : Hid _ := cz
                  clear g1 g2 g3 g4 HSI HLI haf hq1 v1 v2 v3 HJ cl cz
                  go_wp2_with (go_at_call 36; refine StopB.out ?_)
                  refine ⟨Calls.mono cj ?_⟩
                  rintro ee Wj ⟨rfl, rfl⟩
                  go_wp2_with (go_at_call 41; refine StopB.out ?_)
                  refine ⟨Calls.mono (tagB_any wr base u0 Y 4294893568 (by decide) HJO.out.1 HLYi.out.hb (by omega)) ?_⟩
                  rintro ee We ⟨ue, rfl, hoe, hbe⟩
                  go_wp2_with (go_at_call 35; refine StopB.out ?_)
                  refine ⟨Calls.mono (CZ.out We hbe.out) ?_⟩
                  rintro ee Wf' ⟨rfl, hbf⟩
                  have hbf2 : By base wr Wf' := hbe.out.trans (By.of hbf (Nat.le_trans HLYi.out.hb hbe.out.size))
                  have hq1u : q1 ≤ 3000000 := by omega
                  go_wp2_with (go_at_call 40; refine StopB.out ?_)
                  refine ⟨Calls.mono (u32_any Wf' base ue _ q1 (by omega) (hoe.out.on hbf) (Nat.le_trans HLYi.out.hb hbf2.size) (by rw [List.length_append, tagL_len]; omega)) ?_⟩
                  rintro ee Wg ⟨ug, rfl, hog, hbg⟩
                  have hbg2 : By base wr Wg := hbf2.trans hbg.out
                  go_wp2_with (go_at_call 21; refine StopB.out ?_)
                  refine ⟨Calls.mono (CL.out Wg ug _ hbg2 hog.out (by rw [List.length_append, List.length_append, tagL_len, le_len]; omega)) ?_⟩
                  rintro ee Wh ⟨uh, rfl, hoh, hbh⟩
                  have HR : Hid (Ob base Wh uh (Y ++ tagL 4294893568 ++ le 4 q1 ++ (encOf x).lD false (sub L (g + 1) af)) ∧ By base wo Wh ∧ NB Wh kb (tn : Int) vv z s) := ⟨hoh.out, HJO.out.2.2.1.trans (hbg2.trans hbh.out), HJO.out.2.2.2.by (hbg2.trans hbh.out)⟩
                  clear hoe hbe hbf hbf2 hog hbg hbg2 hoh hbh CL CZ cj
                  go_wp2
                  go_roundw
                  case rel =>
                    refine ⟨af, Y ++ tagL 4294893568 ++ le 4 q1 ++ (encOf x).lD false (sub L (g + 1) af), rfl, by omega, hgaf.2, HG.out.1, HG.out.2, HR.out.1, ?_, ?_, HR.out.2.1, HR.out.2.2⟩
                    · rw [← HJO.out.2.1, HLI2.out, show (encOf x).ih q1 = tagL 4294893568 ++ le 4 q1 by cases x <;> rfl]
                      simp only [List.append_assoc]
                    · rw [List.length_append, List.length_append, List.length_append, HLl.out, tagL_len, le_len]
                      omega
                  case measure => simp [intOf]; omega
                · obtain rfl : g = j := by omega
                  have hgI : ¬ (g : Int) < (g : Int) := by omega
                  have HY : Hid (Y = ZH ++ (encOf x).lD true (sub L (p + 1) g)) := by
                    have := HJ.out.2.2.2.1
                    rw [sub_nil (Nat.le_refl _)] at this
                    rw [← this]
                    exact (List.append_nil Y).symm
                  have hYl : Y.length + 0 + (encOf x).sD false (sub L g e) ≤ 3000000 := by have := HJ.out.2.2.2.2.1; omega
                  have HJ3 : Hid (Ob base wr u0 Y ∧ By base wo wr) := ⟨HJ.out.2.2.1, HJ.out.2.2.2.2.2.1⟩
                  obtain ⟨s0, s1, s2, s3⟩ := HJ.out.2.2.2.2.2.2.nc
                  clear HJ
                  go_wp2_with (first | (go_at_call 39; refine Calls.mono (co _) ?_; rintro ee Wm ⟨rfl, hbm⟩) | fail)
                  have hByf : By base wo Wm := HJ3.out.2.trans (By.of hbm (Nat.le_trans HLY.out.hb HJ3.out.2.size))
                  have HR : Hid (Ob base Wm u0 Y ∧ By base W Wm) := ⟨HJ3.out.1.on hbm, HOZ.out.2.2.2.trans hByf⟩
                  clear hbm hByf s0 s1 s2 s3
                  go_wp2
                  go_roundw
                  case rel =>
                    refine ⟨g, Y, rfl, by omega, by omega, HLN.out.2.1, HLN.out.2.2.2, HR.out.1, ?_, by omega, HR.out.2⟩
                    rw [← HOZ.out.2.1, HLE3.out, HY.out, ← HZH.out]
                    simp only [List.append_assoc, List.append_nil]
                  case measure => simp [intOf]; omega
            · have HSE3 : Hid ((encOf x).sD false (sub L p e) = (encOf x).hs ⟨(tn : Int), vv, z, s⟩ + 8 + kk + (encOf x).sD false (sub L j e)) := by have := HSE2.out; show _ = _; simpa using this
              have HLE3 : Hid ((encOf x).lD false (sub L p e) = (encOf x).hd ⟨(tn : Int), vv, z, s⟩ 4294967295 ++ (encOf x).lD true (sub L (p + 1) j) ++ (encOf x).em ++ (encOf x).lD false (sub L j e)) := by have := HLE2.out; show _ = _; simpa using this
              clear HSE2 HLE2
              have hsum : Z.length + ((encOf x).hs ⟨(tn : Int), vv, z, s⟩ + 8 + kk + (encOf x).sD false (sub L j e)) ≤ 3000000 := by have := HOZ.out.2.2.1; rw [HSE3.out] at this; exact this
              go_wp2_with (first | (go_at_call 39; refine Calls.mono (co _) ?_; rintro ee Wc ⟨rfl, hbc⟩; obtain ⟨r0, r1, r2, r3⟩ := (HNB.out.on hbc).nc) | (go_at_call 38; refine StopB.out ?_))
              have hBc : Below wo.heap.size wo Wc := HBi.out.trans (hbc.mono HBi.out.size)
              have hbaseW : base ≤ Wc.heap.size := Nat.le_trans HLY.out.hb hBc.size
              refine ⟨Calls.mono (HHD2.out Wc uo Z 4294967295 (by omega) (HOZ.out.1.on hBc) hbaseW (by omega)) ?_⟩
              rintro ee Wd ⟨ud, rfl, hod, hbd⟩
              obtain ⟨ZH, hZH⟩ : ∃ ZH, Z ++ (encOf x).hd ⟨(tn : Int), vv, z, s⟩ 4294967295 = ZH := ⟨_, rfl⟩
              rw [hZH] at hod
              have HZH : Hid _ := hZH
              have hZL : ZH.length = Z.length + (encOf x).hs ⟨(tn : Int), vv, z, s⟩ := by rw [← hZH, List.length_append, HDL.out]
              have HBd : Hid (By base wo Wd) := (By.of hBc HLY.out.hb).trans hbd.out
              have HNd : Hid (NB Wd kb (tn : Int) vv z s) := (HNB.out.on hbc).by hbd.out
              have HOd : Hid (Ob base Wd ud ZH) := hod
              have HSd : Hid (kk = (encOf x).sD true (sub L (p + 1) j)) := HS.out.symm
              clear hbc hBc hod hbd hZH x0 x1 x2 x3 r0 r1 r2 r3
              go_wp2
              go_loopw [0, 17] (fun x0 x17 wi => ∃ (g : Nat) (Y : List UInt8), x17 = .int .i64 (g : Int) ∧ p + 1 ≤ g ∧ g ≤ j ∧ Hid (Lev L g j ∧ Wf L true g j ∧ Ob base wi x0 Y ∧ Y ++ (encOf x).lD true (sub L g j) = ZH ++ (encOf x).lD true (sub L (p + 1) j) ∧ Y.length + (encOf x).sD true (sub L g j) + 8 + (encOf x).sD false (sub L j e) ≤ 3000000 ∧ By base wo wi ∧ NB wi kb (tn : Int) vv z s)) (fun _ x17 _ => n - (intOf x17).toNat)
              case atStart => exact ⟨p + 1, ZH, by go_num, Nat.le_refl _, by omega, HLN.out.1, HLN.out.2.2.1, HOd.out, rfl, by rw [← HSd.out]; omega, HBd.out, HNd.out⟩
              case round =>
                obtain ⟨g, Y, rfl, hpg, hgj, HJ⟩ := hrel
                by_cases hgl : g < j
                · have hgI : (g : Int) < (j : Int) := by omega
                  have HLYi : Hid (Ly base b off n cap L wr) := HLY.out.by HJ.out.2.2.2.2.2.1
                  have cj := Wk.nextR_in wr (some ⟨b, off, none⟩) n cap g L HLYi.out.nv (by omega) (by omega)
                  obtain ⟨g1, g2, g3, g4, -⟩ := HJ.out.1.next hgl (by omega)
                  obtain ⟨v1, v2, v3⟩ := HJ.out.2.1.next HJ.out.1 hgl (by omega)
                  have HSI := (encOf x).sD_item HJ.out.1 hgl (by omega)
                  have HLI := (encOf x).lD_item HJ.out.1 hgl (by omega)
                  obtain ⟨af, haf⟩ : ∃ af, nxt L g = af := ⟨_, rfl⟩
                  rw [haf] at cj g1 g2 g3 g4 HSI HLI v2 v3
                  obtain ⟨q1, hq1⟩ : ∃ q1, (encOf x).sD false (sub L (g + 1) af) = q1 := ⟨_, rfl⟩
                  have cz := fun X (hX : By base wr X) => rs_any (af - (g + 1)) X (some ⟨b, off, none⟩) n cap L x (g + 1) af (Nat.le_refl _) (HLYi.out.by hX).ls (by omega) (by omega) g3
                  have cl := fun X u Q (hX : By base wr X) ho hl => HM.out X base b off n cap L x (g + 1) af u Q (by omega) (HLYi.out.by hX) (by omega) (by omega) g3 v2 ho hl
                  simp only [hq1] at cz cl
                  rw [hq1] at HSI HLI
                  have hlen5 : Y.length + (8 + q1 + (encOf x).sD true (sub L af j)) + 8 + (encOf x).sD false (sub L j e) ≤ 3000000 := by have := HJ.out.2.2.2.2.1; rw [HSI] at this; exact this
                  have hja : ((g + 1 : Nat) : Int) = (g : Int) + 1 := by omega
                  simp only [hja] at cz cl
                  have hafI : af ≤ 4096 := by omega
                  have hgaf : g < af ∧ af ≤ j := ⟨g2, g1⟩
                  have HG : Hid (Lev L af j ∧ Wf L true af j) := ⟨g4, v3⟩
                  have HLl : Hid (((encOf x).lD false (sub L (g + 1) af)).length = q1) := by show _ = _; rw [← hq1]; exact Wf.len x v2 HV.out.gd
                  have HLI2 : Hid _ := HLI
                  have HJO : Hid (Ob base wr u0 Y ∧ Y ++ (encOf x).lD true (sub L g j) = ZH ++ (encOf x).lD true (sub L (p + 1) j) ∧ By base wo wr ∧ NB wr kb (tn : Int) vv z s) := ⟨HJ.out.2.2.1, HJ.out.2.2.2.1, HJ.out.2.2.2.2.2.1, HJ.out.2.2.2.2.2.2⟩
                  have CL : Hid _ := cl
                  have CZ : Hid _ := cz
                  clear g1 g2 g3 g4 HSI HLI haf hq1 v1 v2 v3 HJ cl cz
                  go_wp2_with (go_at_call 36; refine StopB.out ?_)
                  refine ⟨Calls.mono cj ?_⟩
                  rintro ee Wj ⟨rfl, rfl⟩
                  go_wp2_with (go_at_call 41; refine StopB.out ?_)
                  refine ⟨Calls.mono (tagB_any wr base u0 Y 4294893568 (by decide) HJO.out.1 HLYi.out.hb (by omega)) ?_⟩
                  rintro ee We ⟨ue, rfl, hoe, hbe⟩
                  go_wp2_with (go_at_call 35; refine StopB.out ?_)
                  refine ⟨Calls.mono (CZ.out We hbe.out) ?_⟩
                  rintro ee Wf' ⟨rfl, hbf⟩
                  have hbf2 : By base wr Wf' := hbe.out.trans (By.of hbf (Nat.le_trans HLYi.out.hb hbe.out.size))
                  have hq1u : q1 ≤ 3000000 := by omega
                  go_wp2_with (go_at_call 40; refine StopB.out ?_)
                  refine ⟨Calls.mono (u32_any Wf' base ue _ q1 (by omega) (hoe.out.on hbf) (Nat.le_trans HLYi.out.hb hbf2.size) (by rw [List.length_append, tagL_len]; omega)) ?_⟩
                  rintro ee Wg ⟨ug, rfl, hog, hbg⟩
                  have hbg2 : By base wr Wg := hbf2.trans hbg.out
                  go_wp2_with (go_at_call 21; refine StopB.out ?_)
                  refine ⟨Calls.mono (CL.out Wg ug _ hbg2 hog.out (by rw [List.length_append, List.length_append, tagL_len, le_len]; omega)) ?_⟩
                  rintro ee Wh ⟨uh, rfl, hoh, hbh⟩
                  have HR : Hid (Ob base Wh uh (Y ++ tagL 4294893568 ++ le 4 q1 ++ (encOf x).lD false (sub L (g + 1) af)) ∧ By base wo Wh ∧ NB Wh kb (tn : Int) vv z s) := ⟨hoh.out, HJO.out.2.2.1.trans (hbg2.trans hbh.out), HJO.out.2.2.2.by (hbg2.trans hbh.out)⟩
                  clear hoe hbe hbf hbf2 hog hbg hbg2 hoh hbh CL CZ cj
                  go_wp2
                  go_roundw
                  case rel =>
                    refine ⟨af, Y ++ tagL 4294893568 ++ le 4 q1 ++ (encOf x).lD false (sub L (g + 1) af), rfl, by omega, hgaf.2, HG.out.1, HG.out.2, HR.out.1, ?_, ?_, HR.out.2.1, HR.out.2.2⟩
                    · rw [← HJO.out.2.1, HLI2.out, show (encOf x).ih q1 = tagL 4294893568 ++ le 4 q1 by cases x <;> rfl]
                      simp only [List.append_assoc]
                    · rw [List.length_append, List.length_append, List.length_append, HLl.out, tagL_len, le_len]
                      omega
                  case measure => simp [intOf]; omega
                · obtain rfl : g = j := by omega
                  have hgI : ¬ (g : Int) < (g : Int) := by omega
                  have HY : Hid (Y = ZH ++ (encOf x).lD true (sub L (p + 1) g)) := by
                    have := HJ.out.2.2.2.1
                    rw [sub_nil (Nat.le_refl _)] at this
                    rw [← this]
                    exact (List.append_nil Y).symm
                  have hYl : Y.length + 8 + (encOf x).sD false (sub L g e) ≤ 3000000 := by have := HJ.out.2.2.2.2.1; omega
                  have HJ3 : Hid (Ob base wr u0 Y ∧ By base wo wr) := ⟨HJ.out.2.2.1, HJ.out.2.2.2.2.2.1⟩
                  obtain ⟨s0, s1, s2, s3⟩ := HJ.out.2.2.2.2.2.2.nc
                  clear HJ
                  go_wp2_with (first | (go_at_call 39; refine Calls.mono (co _) ?_; rintro ee Wm ⟨rfl, hbm⟩) | (go_at_call 41; refine StopB.out ?_))
                  have hByf : By base wo Wm := HJ3.out.2.trans (By.of hbm (Nat.le_trans HLY.out.hb HJ3.out.2.size))
                  refine ⟨Calls.mono (tagB_any Wm base u0 Y 4294893789 (by decide) (HJ3.out.1.on hbm) (Nat.le_trans HLY.out.hb hByf.size) (by omega)) ?_⟩
                  rintro ee We ⟨ue, rfl, hoe, hbe⟩
                  go_wp2_with (go_at_call 40; refine StopB.out ?_)
                  refine ⟨Calls.mono (u32_any We base ue _ 0 (by decide) hoe.out (Nat.le_trans (Nat.le_trans HLY.out.hb hByf.size) hbe.out.size) (by rw [List.length_append, tagL_len]; omega)) ?_⟩
                  rintro ee Wg ⟨ug, rfl, hog, hbg⟩
                  have HR : Hid (Ob base Wg ug (Y ++ tagL 4294893789 ++ le 4 0) ∧ By base W Wg) := ⟨hog.out, HOZ.out.2.2.2.trans (hByf.trans (hbe.out.trans hbg.out))⟩
                  clear hbm hByf s0 s1 s2 s3 hoe hbe hog hbg
                  go_wp2
                  go_roundw
                  case rel =>
                    refine ⟨g, Y ++ tagL 4294893789 ++ le 4 0, rfl, by omega, by omega, HLN.out.2.1, HLN.out.2.2.2, HR.out.1, ?_, by rw [List.length_append, List.length_append, tagL_len, le_len]; omega, HR.out.2⟩
                    rw [← HOZ.out.2.1, HLE3.out, HY.out, ← HZH.out, encOf_em, plL]
                    simp only [List.append_assoc]
                  case measure => simp [intOf]; omega
      · have bv : (vv != 18) = true := by simp [hv]
        rw [if_pos hv, hpvp] at HSE HLE
        have cp := fun X => Rp.rpad_any X vv s (by omega)
        have hpz := pad_len (Rp.pd (Rp.vn vv)) s
        have hpl : pvL vv s = (Rp.padB (Rp.pd (Rp.vn vv)) s).data.toList := rfl
        rw [hpl] at HSE HLE
        generalize Rp.padB (Rp.pd (Rp.vn vv)) s = pb at cp HSE HLE hpz hpl
        have hpb : pb.data.toList.length = pb.size := Array.length_toList
        rw [hpb] at HSE HLE
        have hpu : pb.size ≤ 65536 := by omega
        have hsum : Z.length + ((encOf x).hs ⟨(tn : Int), vv, z, s⟩ + pb.size + (encOf x).sD false (sub L nx e)) ≤ 3000000 := by have := HOZ.out.2.2.1; rw [HSE] at this; omega
        have HLE2 : Hid _ := HLE
        have HDL : Hid _ := hdl
        have HPB : Hid (pb.data.toList.length = pb.size) := hpb
        clear huo HSE HLE hpvp hv hpz hdl hpl hpb
        go_wp2_with (first | (go_at_call 36; refine Calls.mono cn ?_; rintro ee Wa ⟨rfl, rfl⟩) | (go_at_call 37; refine Calls.mono (cp _) ?_; rintro ee Wb ⟨rfl, hbb⟩; obtain ⟨x0, x1, x2, x3⟩ := (H1.out.2.on hbb).nc) | (go_at_call 38; refine StopB.out ?_))
        have hBb : Below wo.heap.size wo Wb := H1.out.1.trans (hbb.mono H1.out.1.size)
        have hbaseW : base ≤ Wb.heap.size := Nat.le_trans HLY.out.hb hBb.size
        refine ⟨Calls.mono (HHD2.out Wb uo Z pb.size (by omega) (HOZ.out.1.on hBb) hbaseW (by omega)) ?_⟩
        rintro ee Wd ⟨ud, rfl, hod, hbd⟩
        obtain ⟨ZH, hZH⟩ : ∃ ZH, Z ++ (encOf x).hd ⟨(tn : Int), vv, z, s⟩ pb.size = ZH := ⟨_, rfl⟩
        rw [hZH] at hod
        have HZH : Hid _ := hZH
        have hZL : ZH.length = Z.length + (encOf x).hs ⟨(tn : Int), vv, z, s⟩ := by rw [← hZH, List.length_append, HDL.out]
        have HBd : Hid (By base W Wd) := HOZ.out.2.2.2.trans ((By.of hBb HLY.out.hb).trans hbd.out)
        have HOd : Hid (Ob base Wd ud ZH ∧ base ≤ W.heap.size) := ⟨hod, HV.out.hb⟩
        clear hbb hBb hod hbd hZH x0 x1 x2 x3 y0 y1 y2 y3 e0 e1 e2 e3 hW1 cn cp
        go_wp2
        go_loopw [0, 14] (fun x0 x14 wi => ∃ k : Nat, x14 = .int .i64 (k : Int) ∧ k ≤ pb.size ∧ Hid (Ob base wi x0 (ZH ++ pb.data.toList.take k) ∧ By base W wi)) (fun _ x14 _ => pb.size - (intOf x14).toNat)
        case atStart => exact ⟨0, rfl, Nat.zero_le _, by simpa using HOd.out.1, HBd.out⟩
        case round =>
          obtain ⟨k, rfl, hk, HJ⟩ := hrel
          by_cases hkl : k < pb.size
          · have hkI : (k : Int) < (pb.size : Int) := by omega
            have hbase2 : base ≤ wr.heap.size := Nat.le_trans HOd.out.2 HJ.out.2.size
            have HTK : Hid (pb.data.toList.take (k + 1) = pb.data.toList.take k ++ [pb[k]]) := by
              show _ = _
              have hk2 : k < pb.data.toList.length := by rw [HPB.out]; exact hkl
              rw [List.take_add_one, List.getElem?_eq_getElem hk2]
              rfl
            have HTL2 : Hid ((ZH ++ pb.data.toList.take k).length ≤ 4000000) := by show _ ≤ _; rw [List.length_append, List.length_take, HPB.out]; omega
            go_wp2_with (at_builtin; refine StopB.out ?_)
            have hb1 : Below wr.heap.size wr (wr.alloc (.cells #[.int .u8 (pb[k].toNat : Int)] 5)) := (Below.refl _ _).alloc (Nat.le_refl _) _
            refine ⟨app_bytes rfl (.tmp 53) (.tmp 57) rfl base _ _ rfl (HJ.out.1.on hb1) ⟨wr.heap.size, 0, none⟩ 1 1 [pb[k]] rfl rfl (news_b rfl _ _ (by simp [bvs]) _) (by have := HTL2.out; omega) (Nat.le_trans hbase2 hb1.size) ?_⟩
            intro u W2 ho hby
            have HR : Hid (Ob base W2 u (ZH ++ pb.data.toList.take (k + 1)) ∧ By base W W2) := ⟨by rw [HTK.out, ← List.append_assoc]; exact ho, HJ.out.2.trans ((By.of hb1 hbase2).trans hby)⟩
            clear ho hby hb1
            go_wp2
            go_roundw
            case rel => exact ⟨k + 1, by go_num, by omega, HR.out⟩
            case measure => simp [intOf]; omega
          · obtain rfl : k = pb.size := by omega
            have hkI : ¬ (pb.size : Int) < (pb.size : Int) := by omega
            have HR : Hid (Ob base wr u0 (ZH ++ pb.data.toList) ∧ By base W wr) := by
              refine ⟨?_, HJ.out.2⟩
              have := HJ.out.1
              rw [List.take_of_length_le (by rw [HPB.out]; exact Nat.le_refl _)] at this
              exact this
            go_wp2
            go_roundw
            case rel =>
              refine ⟨nx, ZH ++ pb.data.toList, rfl, by omega, by omega, HLN.out.2.1, HLN.out.2.2.2, HR.out.1, ?_, by rw [List.length_append, HPB.out]; omega, HR.out.2⟩
              rw [← HOZ.out.2.1, HLE2.out, ← HZH.out]
              simp only [List.append_assoc]
            case measure => simp [intOf]; omega
    · obtain rfl : p = e := by omega
      have hltI : ¬ (p : Int) < (p : Int) := by omega
      have HE : Hid (Z = ys ++ (encOf x).lD false (sub L i p)) := by
        have := HI.out.2.2.2.1
        rw [sub_nil (Nat.le_refl _)] at this
        rw [← this]
        exact (List.append_nil Z).symm
      go_wp2
      go_ret
      exact ⟨_, rfl, by rw [← HE.out]; exact HI.out.2.2.1, HI.out.2.2.2.2.2⟩
theorem rl_any (m : Nat) : RlC m := Nat.strongRecOn m rl_step
end Go.Proofs.YtilkogodhjnemaaGreatDoor
