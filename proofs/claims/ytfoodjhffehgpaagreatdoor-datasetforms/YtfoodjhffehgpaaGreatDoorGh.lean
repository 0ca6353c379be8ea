import Derived.Test.YtfoodjhffehgpaaGreatDoorGg
/-
  DERIVED. Items laid down in any form: the law's own function.
-/
namespace Go.Proofs.YtfoodjhffehgpaaGreatDoor
open Go Go.Proofs Go.RowKit
open Wk (Nd NV goN nxt)

theorem ne_own {base : Nat} {W W1 : World} {u z : Value} {Z Y : List UInt8} (h : Ob base W u Z) (h1 : Ob W.heap.size W1 z Y) : z.ownBlock = none ∨ z.ownBlock ≠ u.ownBlock := by
  cases hz : z.ownBlock with
  | none => exact .inl rfl
  | some g =>
    right
    intro e
    have h2 := (ob_ty h1 hz).1
    have h3 := (ob_ty h e.symm).2.1
    omega
theorem Cq.gy {base : Nat} {u v : Value} {W W' : World} {ys : List UInt8} {cb bits q : Nat} (hc : Cq W cb bits q) (h : Gy v W u W') (ho : Ob base W v ys) : Cq W' cb bits q := (h.cell ho hc (by decide)).trans hc
/-- Between two items. -/
structure SqI (W : World) (cb bits : Nat) (L : List Nd) (x : Bool) (q i e : Nat) (p : Nat) (u : Value) (wr : World) (Z : List UInt8) (k : Nat) : Prop where
  lev : Lev L p e
  wf : Wf L true p e
  own : Ob W.heap.size wr u Z
  sum : Z ++ (fD bits L true x 0 k p e).1 = (fD bits L true x 0 q i e).1
  cnt : (fD bits L true x 0 k p e).2 = (fD bits L true x 0 q i e).2
  cq : Cq wr cb bits k
  kb : k + 3 * (e - p) ≤ 900000
  bk : Bk W.heap.size cb W wr

set_option maxRecDepth 100000 in
set_option maxHeartbeats 8000000 in
theorem sq_step (m : Nat) (hm : ∀ q, q < m → ElC q) : SqC m := by
  intro W b off n cap L x o i e cb bits q hem hV hC hbits hq hie hen hlev hwf
  have HM : Hid (∀ (W : World) (b off n cap : Nat) (L : List Nd) (x : Bool) (i e cb bits q : Nat), e - i < m → Lz b off n cap L cb W → Cq W cb bits q → bits < 18446744073709551616 → q + 3 * (e - i) ≤ 900000 → i ≤ e → e ≤ n → Lev L i e → Wf L false i e → Calls Tryz.prog 6 #[.pointer (some ⟨cb, 0, none⟩), .slice (some ⟨b, off, none⟩) n cap, .int .i64 (i : Int), .int .i64 (e : Int), .bool x] W (FdP W cb bits (fD bits L false x 0 q i e).1 (fD bits L false x 0 q i e).2)) := fun W b off n cap L x i e cb bits q h => hm (e - i) h W b off n cap L x i e cb bits q (Nat.le_refl _)
  have HV : Hid (Lz b off n cap L cb W) := hV
  have HN : Hid (n = L.length) := hV.nv.len
  have hn40 := hV.n40
  have HBT : Hid (bits < 18446744073709551616) := hbits
  have hbd := fD_bounds (bits := bits) (x := x) (g := 0) (q := q) (by rw [← hV.nv.len]; exact hen) hwf
  obtain ⟨T, hT⟩ : ∃ T, (fD bits L true x 0 q i e).1 = T := ⟨_, rfl⟩
  obtain ⟨qe, hqe⟩ : ∃ qe, (fD bits L true x 0 q i e).2 = qe := ⟨_, rfl⟩
  have HTL : Hid (T.length ≤ 1212416) := by
    have h1 := hbd.1
    rw [hT] at h1
    have h2 := hV.pv
    show T.length ≤ 1212416
    omega
  have H0 : Hid (SqI W cb bits L x q i e i (.slice none 0 0) W [] q) := ⟨hlev, hwf, World.ownsRow_nil _ _ _ _, rfl, rfl, hC, hq, Bk.refl _ _ _⟩
  have HT : Hid ((fD bits L true x 0 q i e).1 = T ∧ (fD bits L true x 0 q i e).2 = qe) := ⟨hT, hqe⟩
  rw [hT, hqe]
  clear hm hV hC hbits hq hlev hwf hbd hT hqe
  go_enter Tryz.func20, Tryz.ntmps20
  go_wp2
  go_loopw [2, 13] (fun x2 x13 wr => ∃ (p k : Nat) (Z : List UInt8), x2 = .int .i64 (p : Int) ∧ i ≤ p ∧ p ≤ e ∧ Hid (SqI W cb bits L x q i e p x13 wr Z k)) (fun x2 _ _ => n - (intOf x2).toNat)
  case atStart => exact ⟨i, q, [], rfl, Nat.le_refl _, hie, H0⟩
  case round =>
    obtain ⟨p, k, Z, rfl, hip, hpe, HI⟩ := hrel
    obtain ⟨wo, rfl⟩ : ∃ wo, wo = wr := ⟨_, rfl⟩
    obtain ⟨uo, rfl⟩ : ∃ uo, uo = u13 := ⟨_, rfl⟩
    have hZl : Z.length ≤ 1212416 := by
      have h1 := congrArg List.length (HI.out.sum.trans HT.out.1)
      rw [List.length_append] at h1
      have := HTL.out
      omega
    have hbW : W.heap.size ≤ wo.heap.size := HI.out.bk.size
    by_cases hlt : p < e
    · have hltI : (p : Int) < (e : Int) := by omega
      have heL : e ≤ L.length := by rw [← HN.out]; exact hen
      have HLY : Hid (Lz b off n cap L cb wo) := HV.out.bk HI.out.bk HV.out.lt
      have cn := Wk.nextR_in wo (some ⟨b, off, none⟩) n cap p L HLY.out.nv (by omega) (by omega)
      obtain ⟨h1, h2, h3, h4, -⟩ := HI.out.lev.next hlt heL
      obtain ⟨-, w2, w3⟩ := HI.out.wf.next HI.out.lev hlt heL
      have hFI := fun (I : List UInt8 × Nat) (hI : fD bits L false x 0 k (p + 1) (nxt L p) = I) (o : Bool) (ho : chB bits I.2 = o) => fD_item (g := 0) HI.out.lev hlt heL hI ho
      obtain ⟨nx, hnx⟩ : ∃ nx, nxt L p = nx := ⟨_, rfl⟩
      simp only [hnx] at cn h1 h2 h3 h4 w2 w3 hFI
      have w2 : Wf L false (p + 1) nx := w2
      obtain ⟨I, hI⟩ : ∃ I, fD bits L false x 0 k (p + 1) nx = I := ⟨_, rfl⟩
      have hbd := fD_bounds (bits := bits) (x := x) (g := 0) (q := k) (show nx ≤ L.length by omega) w2
      rw [hI] at hbd
      have hpv := HV.out.pv
      have hIl : I.1.length ≤ 1212416 := by omega
      have hkb := HI.out.kb
      have hIq : I.2 < 1000000 := by omega
      have CE := HM.out wo b off n cap L x (p + 1) nx cb bits k (by omega) HLY.out HI.out.cq HBT.out (by omega) (by omega) (by omega) h3 w2
      rw [hI] at CE
      have hja : ((p + 1 : Nat) : Int) = (p : Int) + 1 := by omega
      rw [hja] at CE
      have HFI : Hid (∀ o, chB bits I.2 = o → fD bits L true x 0 k p e = ((plL 4294893568 (if o = true then 4294967295 else I.1.length) ++ (I.1 ++ (if o = true then plL 4294893581 0 else []))) ++ (fD bits L true x 0 (I.2 + 1) nx e).1, (fD bits L true x 0 (I.2 + 1) nx e).2)) := hFI I hI
      have HNX : Hid (Lev L nx e ∧ Wf L true nx e ∧ I.2 + 1 + 3 * (e - nx) ≤ 900000) := ⟨h4, w3, by omega⟩
      have hnxe : nx ≤ e := h1
      have hpnx : p < nx := h2
      clear h1 h2 h3 h4 w2 w3 hnx hI hFI hbd hpv hkb
      go_wp2_with (first | (go_at_call 13; refine cn.mono ?_; rintro ee w' ⟨rfl, rfl⟩) | (go_at_call 6; refine StopG.out ?_))
      refine ⟨Calls.mono CE ?_⟩
      rintro ee W1 ⟨ui, rfl, hoi, hci, hbi⟩
      have HO1 : Hid (Ob W.heap.size W1 uo Z) := HI.out.own.bk hbi.out HI.out.cq
      have HNE : Hid (ui.ownBlock = none ∨ ui.ownBlock ≠ uo.ownBlock) := ne_own HI.out.own hoi.out
      have HB1 : Hid (Bk W.heap.size cb W W1) := HI.out.bk.trans (hbi.out.mono hbW)
      clear cn CE
      go_wp2_with (go_at_call 14; refine StopG.out ?_)
      refine ⟨Calls.mono (next_any W1 cb bits I.2 hci.out HBT.out hIq) ?_⟩
      rintro ee W2 ⟨rfl, hc2, hb2⟩
      have HO2 : Hid (Ob W.heap.size W2 uo Z) := HO1.out.bk (hb2.out _) hci.out
      have HI2 : Hid (Ob wo.heap.size W2 ui I.1) := hoi.out.bk (hb2.out _) hci.out
      have HB2 : Hid (Bk W.heap.size cb W W2) := HB1.out.trans (hb2.out _)
      have hs2 : W.heap.size ≤ W2.heap.size := HB2.out.size
      have HC2 : Hid (Cq W2 cb bits (I.2 + 1)) := hc2.out
      clear hoi hci hbi HO1 HB1 hb2 hc2
      obtain ⟨oc, hoc⟩ : ∃ oc, chB bits I.2 = oc := ⟨_, rfl⟩
      have HFO := HFI.out oc hoc
      rw [hoc]
      clear HFI hoc
      obtain ⟨Y, qI⟩ := I
      simp only at HFO HI2 HC2 HNX hIl hIq
      have HFO2 : Hid _ := HFO
      clear HFO
      cases oc with
      | true =>
        go_wp2_with (go_at_call 36; refine StopG.out ?_)
        refine ⟨Calls.mono (tagB_gy W2 W.heap.size uo Z 4294893568 (by decide) HO2.out hs2 (by omega)) ?_⟩
        rintro ee W3 ⟨u3, rfl, ho3, hg3⟩
        go_wp2_with (go_at_call 16; refine StopG.out ?_)
        refine ⟨Calls.mono (u32_gy W3 W.heap.size u3 _ 4294967295 (by decide) ho3.out (Nat.le_trans hs2 hg3.out.size) (by rw [List.length_append, tagL_len]; omega)) ?_⟩
        rintro ee W4 ⟨u4, rfl, ho4, hg4⟩
        have hG := hg3.out.trans hg4.out
        have HI4 : Hid (Ob wo.heap.size W4 ui Y) := hG.ob HI2.out HNE.out
        have HC4 : Hid (Cq W4 cb bits (qI + 1)) := HC2.out.gy hG HO2.out
        have HB4 : Hid (Bk W.heap.size cb W W4) := HB2.out.trans (hG.by HO2.out hs2).bk
        have hs4 : W.heap.size ≤ W4.heap.size := HB4.out.size
        obtain ⟨Z4, hZ4⟩ : ∃ Z4, Z ++ tagL 4294893568 ++ le 4 4294967295 = Z4 := ⟨_, rfl⟩
        have HZ4 : Hid (Z ++ tagL 4294893568 ++ le 4 4294967295 = Z4) := hZ4
        have hZ4l : Z4.length ≤ 1212500 := by rw [← hZ4, List.length_append, List.length_append, tagL_len, le_len]; omega
        have HO4 : Hid (Ob W.heap.size W4 u4 Z4) := by have := ho4.out; rw [hZ4] at this; exact this
        clear hZ4 ho3 ho4 hg3 hg4 hG HO2 HI2 HC2 HB2
        have key : ∀ (u5 : Value) (W5 : World), Ob W.heap.size W5 u5 (Z4 ++ Y) → By W.heap.size W4 W5 → ∀ u7 W7, Ob W.heap.size W7 u7 (Z4 ++ Y ++ tagL 4294893581 ++ le 4 0) → By W.heap.size W5 W7 → SqI W cb bits L x q i e nx u7 W7 (Z4 ++ Y ++ tagL 4294893581 ++ le 4 0) (qI + 1) := by
          intro u5 W5 _ hb5 u7 W7 ho7 hb7
          have hby := hb5.trans hb7
          refine ⟨HNX.out.1, HNX.out.2.1, ho7, ?_, ?_, HC4.out.by hby, HNX.out.2.2, HB4.out.trans hby.bk⟩
          · rw [← HI.out.sum, HFO2.out, ← HZ4.out]
            simp only [if_true, plL, List.append_assoc]
          · rw [← HI.out.cnt, HFO2.out]
        rcases ob_form HI4.out with ⟨rfl, hY⟩ | ⟨gi, ci, hui, hcell⟩
        · have HK : Hid _ := key u4 W4 (by rw [hY, List.append_nil]; exact HO4.out) (By.refl _ _)
          have hYl : Y.length = 0 := by rw [hY]; rfl
          go_wp2_with (at_builtin; refine StopG.out ?_)
          refine ⟨wpList_append_own_none rfl (.tmp 34) (.tmp 35) 31 rfl W.heap.size 5 _ 1 Tryz.underlying31 (info_parts info8).choose_spec.1 u4 Z4.length (bvs Z4) rfl HO4.out rfl ?_⟩
          go_wp2_with (go_at_call 36; refine StopG.out ?_)
          refine ⟨Calls.mono (tagB_any W4 W.heap.size u4 Z4 4294893581 (by decide) HO4.out hs4 (by omega)) ?_⟩
          rintro ee W6 ⟨u6, rfl, ho6, hb6⟩
          go_wp2_with (go_at_call 16; refine StopG.out ?_)
          refine ⟨Calls.mono (u32_any W6 W.heap.size u6 _ 0 (by decide) ho6.out (Nat.le_trans hs4 hb6.out.size) (by rw [List.length_append, tagL_len]; omega)) ?_⟩
          rintro ee W7 ⟨u7, rfl, ho7, hb7⟩
          have HR : Hid (SqI W cb bits L x q i e nx u7 W7 (Z4 ++ Y ++ tagL 4294893581 ++ le 4 0) (qI + 1)) := HK.out u7 W7 (by rw [hY, List.append_nil]; exact ho7.out) (hb6.out.trans hb7.out)
          clear ho6 ho7 hb6 hb7 HK
          go_wp2
          go_roundw
          case rel => exact ⟨nx, qI + 1, _, rfl, by omega, hnxe, HR⟩
          case measure => simp [intOf]; omega
        · subst hui
          have KEY : Hid _ := key
          go_wp2_with (at_builtin; refine StopG.out ?_)
          refine ⟨app_bytes rfl (.tmp 34) (.tmp 35) rfl W.heap.size _ _ rfl HO4.out ⟨gi, 0, none⟩ Y.length ci Y rfl rfl hcell (by omega) hs4 ?_⟩
          intro u5 W5 ho5 hb5
          have HO5 : Hid (Ob W.heap.size W5 u5 (Z4 ++ Y)) := ho5
          have hs5 : W.heap.size ≤ W5.heap.size := Nat.le_trans hs4 hb5.size
          have HB5 : Hid (By W.heap.size W4 W5) := hb5
          clear key ho5 hb5 hcell
          go_wp2_with (go_at_call 36; refine StopG.out ?_)
          refine ⟨Calls.mono (tagB_any W5 W.heap.size u5 _ 4294893581 (by decide) HO5.out hs5 (by rw [List.length_append]; omega)) ?_⟩
          rintro ee W6 ⟨u6, rfl, ho6, hb6⟩
          go_wp2_with (go_at_call 16; refine StopG.out ?_)
          refine ⟨Calls.mono (u32_any W6 W.heap.size u6 _ 0 (by decide) ho6.out (Nat.le_trans hs5 hb6.out.size) (by rw [List.length_append, List.length_append, tagL_len]; omega)) ?_⟩
          rintro ee W7 ⟨u7, rfl, ho7, hb7⟩
          have HR : Hid (SqI W cb bits L x q i e nx u7 W7 (Z4 ++ Y ++ tagL 4294893581 ++ le 4 0) (qI + 1)) := KEY.out u5 W5 HO5.out HB5.out u7 W7 ho7.out (hb6.out.trans hb7.out)
          clear ho6 ho7 hb6 hb7 KEY
          go_wp2
          go_roundw
          case rel => exact ⟨nx, qI + 1, _, rfl, by omega, hnxe, HR⟩
          case measure => simp [intOf]; omega
      | false =>
        rcases ob_form HI2.out with ⟨rfl, hY⟩ | ⟨gi, ci, hui, -⟩
        · subst hY
          go_wp2_with (go_at_call 36; refine StopG.out ?_)
          refine ⟨Calls.mono (tagB_gy W2 W.heap.size uo Z 4294893568 (by decide) HO2.out hs2 (by omega)) ?_⟩
          rintro ee W3 ⟨u3, rfl, ho3, hg3⟩
          go_wp2_with (go_at_call 16; refine StopG.out ?_)
          refine ⟨Calls.mono (u32_gy W3 W.heap.size u3 _ 0 (by decide) ho3.out (Nat.le_trans hs2 hg3.out.size) (by rw [List.length_append, tagL_len]; omega)) ?_⟩
          rintro ee W4 ⟨u4, rfl, ho4, hg4⟩
          have hG := hg3.out.trans hg4.out
          have HR : Hid (SqI W cb bits L x q i e nx u4 W4 (Z ++ tagL 4294893568 ++ le 4 0) (qI + 1)) := by
            refine ⟨HNX.out.1, HNX.out.2.1, ho4.out, ?_, ?_, HC2.out.gy hG HO2.out, HNX.out.2.2, HB2.out.trans (hG.by HO2.out hs2).bk⟩
            · rw [← HI.out.sum, HFO2.out]
              simp [plL, List.append_assoc]
            · rw [← HI.out.cnt, HFO2.out]
          have HO4 : Hid (Ob W.heap.size W4 u4 (Z ++ tagL 4294893568 ++ le 4 0)) := ho4.out
          obtain ⟨Z4, hZ4⟩ : ∃ Z4, Z ++ tagL 4294893568 ++ le 4 0 = Z4 := ⟨_, rfl⟩
          rw [hZ4] at HR HO4
          clear ho3 ho4 hg3 hg4 hG hZ4
          go_wp2_with (at_builtin; refine StopG.out ?_)
          refine ⟨wpList_append_own_none rfl (.tmp 46) (.tmp 47) 31 rfl W.heap.size 5 _ 1 Tryz.underlying31 (info_parts info8).choose_spec.1 u4 Z4.length (bvs Z4) rfl HO4.out rfl ?_⟩
          go_wp2
          go_roundw
          case rel => exact ⟨nx, qI + 1, _, rfl, by omega, hnxe, HR⟩
          case measure => simp [intOf]; omega
        · subst hui
          go_wp2_with (go_at_call 36; refine StopG.out ?_)
          refine ⟨Calls.mono (tagB_gy W2 W.heap.size uo Z 4294893568 (by decide) HO2.out hs2 (by omega)) ?_⟩
          rintro ee W3 ⟨u3, rfl, ho3, hg3⟩
          go_wp2_with (go_at_call 16; refine StopG.out ?_)
          refine ⟨Calls.mono (u32_gy W3 W.heap.size u3 _ Y.length (by omega) ho3.out (Nat.le_trans hs2 hg3.out.size) (by rw [List.length_append, tagL_len]; omega)) ?_⟩
          rintro ee W4 ⟨u4, rfl, ho4, hg4⟩
          have hG := hg3.out.trans hg4.out
          have HI4 : Hid (Ob wo.heap.size W4 (.slice (some ⟨gi, 0, none⟩) Y.length ci) Y) := hG.ob HI2.out HNE.out
          have HC4 : Hid (Cq W4 cb bits (qI + 1)) := HC2.out.gy hG HO2.out
          have HB4 : Hid (Bk W.heap.size cb W W4) := HB2.out.trans (hG.by HO2.out hs2).bk
          have hs4 : W.heap.size ≤ W4.heap.size := HB4.out.size
          obtain ⟨Z4, hZ4⟩ : ∃ Z4, Z ++ tagL 4294893568 ++ le 4 Y.length = Z4 := ⟨_, rfl⟩
          have HZ4 : Hid (Z ++ tagL 4294893568 ++ le 4 Y.length = Z4) := hZ4
          have hZ4l : Z4.length ≤ 1212500 := by rw [← hZ4, List.length_append, List.length_append, tagL_len, le_len]; omega
          have HO4 : Hid (Ob W.heap.size W4 u4 Z4) := by have := ho4.out; rw [hZ4] at this; exact this
          obtain ⟨hcell⟩ : Nonempty (∀ j v, (bvs Y)[j]? = some v → W4.cell? ((⟨gi, 0, none⟩ : Addr).add j) = some v) := by
            rcases ob_form HI4.out with ⟨e, -⟩ | ⟨g', c', e, hc⟩
            · cases e
            · cases e
              exact ⟨hc⟩
          clear hZ4 ho3 ho4 hg3 hg4 hG HO2 HI2 HC2 HB2
          go_wp2_with (at_builtin; refine StopG.out ?_)
          refine ⟨app_bytes rfl (.tmp 46) (.tmp 47) rfl W.heap.size _ _ rfl HO4.out ⟨gi, 0, none⟩ Y.length ci Y rfl rfl hcell (by omega) hs4 ?_⟩
          intro u5 W5 ho5 hb5
          have HR : Hid (SqI W cb bits L x q i e nx u5 W5 (Z4 ++ Y) (qI + 1)) := by
            refine ⟨HNX.out.1, HNX.out.2.1, ho5, ?_, ?_, HC4.out.by hb5, HNX.out.2.2, HB4.out.trans hb5.bk⟩
            · rw [← HI.out.sum, HFO2.out, ← HZ4.out]
              simp [plL, List.append_assoc]
            · rw [← HI.out.cnt, HFO2.out]
          clear ho5 hb5 hcell
          go_wp2
          go_roundw
          case rel => exact ⟨nx, qI + 1, _, rfl, by omega, hnxe, HR⟩
          case measure => simp [intOf]; omega
    · obtain rfl : p = e := by omega
      have hltI : ¬ (p : Int) < (p : Int) := by omega
      have hn := fD_nil bits L true x 0 k p p (Nat.le_refl _)
      have HE : Hid (Z = T ∧ k = qe) := by
        have h1 := HI.out.sum
        have h2 := HI.out.cnt
        rw [hn] at h1 h2
        exact ⟨by rw [← HT.out.1, ← h1, List.append_nil], by rw [← HT.out.2, ← h2]⟩
      clear hn
      cases o with
      | false =>
        go_wp2
        go_ret
        refine ⟨_, rfl, ?_, ?_, HI.out.bk⟩
        · show Ob _ _ _ (T ++ [])
          rw [List.append_nil, ← HE.out.1]
          exact HI.out.own
        · rw [← HE.out.2]
          exact HI.out.cq
      | true =>
        go_wp2_with (go_at_call 36; refine StopG.out ?_)
        refine ⟨Calls.mono (tagB_any wo W.heap.size uo Z 4294893789 (by decide) HI.out.own hbW (by omega)) ?_⟩
        rintro ee W6 ⟨u6, rfl, ho6, hb6⟩
        go_wp2_with (go_at_call 16; refine StopG.out ?_)
        refine ⟨Calls.mono (u32_any W6 W.heap.size u6 _ 0 (by decide) ho6.out (Nat.le_trans hbW hb6.out.size) (by rw [List.length_append, tagL_len]; omega)) ?_⟩
        rintro ee W7 ⟨u7, rfl, ho7, hb7⟩
        have hby := hb6.out.trans hb7.out
        have HF : Hid (Ob W.heap.size W7 u7 (T ++ mkO true) ∧ Cq W7 cb bits qe ∧ Bk W.heap.size cb W W7) := by
          refine ⟨?_, ?_, HI.out.bk.trans hby.bk⟩
          · have := ho7.out
            rw [HE.out.1, List.append_assoc] at this
            exact this
          · rw [← HE.out.2]
            exact HI.out.cq.by hby
        clear ho6 ho7 hb6 hb7 hby
        go_wp2
        go_ret
        exact ⟨_, rfl, HF.out.1, HF.out.2.1, HF.out.2.2⟩
end Go.Proofs.YtfoodjhffehgpaaGreatDoor
