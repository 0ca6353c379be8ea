import Derived.Test.YtcnogjmhbkbklaaQ
import Derived.Deep.CutRange
/-
  DERIVED. The law of walks.
-/
namespace Go.Proofs.Ytcnogjmhbkbklaa
open Go Go.Proofs Go.RowKit

set_option maxRecDepth 100000 in
set_option maxHeartbeats 8000000 in
theorem walks_law (w : World) (a : Option Addr) (n cap : Nat) (L : List Nd) (i t : Int) (h : NV w a n cap L) (hts : ∀ x ∈ L, x.s.size ≤ 1048576) : Calls Try.prog 3 #[.slice a n cap, .int .i64 i, .int .u32 t] w fun e w' => e = .returned (.bool true) ∧ Below w.heap.size w w' := by
  have HV0 : Hid (NV w a n cap L) := h
  have HN : Hid (n = L.length) := h.len
  have HZ : Hid (∀ x ∈ L, -9223372036854775808 ≤ x.n ∧ x.n ≤ 9223372036854775807) := h.num
  have HT : Hid (∀ x ∈ L, x.s.size ≤ 1048576) := hts
  have hsm := h.small
  have c4 := lend_any w a n cap L h
  clear h hts
  obtain ⟨G, hG⟩ : ∃ G, w.heap.size = G := ⟨_, rfl⟩
  rw [hG] at c4 ⊢
  have HG : Hid (G = w.heap.size) := hG.symm
  clear hG
  go_enter Try.func3, Try.ntmps3
  go_upto_region 2 with (go_at_call 4; refine Calls.mono c4 ?_; rintro ee W1 ⟨rfl, hl, hb⟩; have HL1 : Hid (Lent G L G W1) := hl; have HB1 : Hid (Below G w W1) := hb; clear hl hb)
  clear c4
  have HV1 : Hid (NV W1 a n cap L) := HV0.out.on (by rw [← HG.out]; exact HB1.out)
  have HG1 : Hid (NV W1 (some ⟨G, 0, none⟩) n (n + 1) L) := by rw [HN.out]; exact HL1.out.nv (by rw [← HN.out]; exact hsm) HZ.out
  have c5 := next_any W1 (some ⟨G, 0, none⟩) n (n + 1) i L HG1.out
  have c6 := nextR_any W1 a n cap i L HV1.out
  have c7 := value_any W1 (some ⟨G, 0, none⟩) n (n + 1) t L HG1.out
  have c8 := valueR_any W1 a n cap t L HV1.out
  have c9 := items_any W1 (some ⟨G, 0, none⟩) n (n + 1) t L HG1.out
  obtain ⟨all, hall⟩ : ∃ all, itm L t = all := ⟨_, rfl⟩
  have HALL : Hid (all.length ≤ n ∧ ∀ M ∈ all, M.length ≤ 1048576 ∧ ∀ x ∈ M, -9223372036854775808 ≤ x.n ∧ x.n ≤ 9223372036854775807) := by
    rw [← hall]
    refine ⟨by rw [HN.out]; exact itm_len L t, fun M hM => ?_⟩
    obtain ⟨h1, h2⟩ := itm_each L t M hM
    exact ⟨by rw [← HN.out] at h1; omega, fun x hx => HZ.out x (h2 x hx)⟩
  have HIT : Hid (itm L t = all) := hall
  rw [hall] at c9
  clear hall
  generalize nxtI L i = x at c5 c6
  generalize valS L t = vs at c7 c8
  generalize valB L t = vb at c7 c8
  obtain ⟨sq, hsq⟩ : ∃ sq, isSq L t = sq := ⟨_, rfl⟩
  rw [hsq] at c9
  have HSQ : Hid (isSq L t = sq) := hsq
  clear hsq
  go_upto_region 4 with (first | (go_at_call 5; refine Calls.mono c5 ?_; rintro ee W ⟨rfl, rfl⟩) | (go_at_call 6; refine Calls.mono c6 ?_; rintro ee W ⟨rfl, rfl⟩))
  clear c5 c6
  go_upto_region 8 with (first | (go_at_call 7; refine Calls.mono c7 ?_; rintro ee W ⟨rfl, rfl⟩) | (go_at_call 8; refine Calls.mono c8 ?_; rintro ee W ⟨rfl, rfl⟩))
  clear c7 c8
  go_wp2_with (go_at_call 9; refine Calls.mono c9 ?_; rintro ee W2 ⟨va, rfl, hq⟩; have HQ2 : Hid (ItQ W1.heap.size W1 all va W2) := hq.out; clear hq)
  clear c9
  obtain ⟨usA, hLA⟩ := HQ2.out.1
  have HA : Hid (LSt W1.heap.size W2 va usA all) := hLA
  have HB2 : Hid (Below W1.heap.size W1 W2) := HQ2.out.2
  clear hLA HQ2
  have hG1 : G ≤ W1.heap.size := by rw [HG.out]; exact HB1.out.size
  have h12 : W1.heap.size ≤ W2.heap.size := HB2.out.size
  have HW2 : Hid (Below G w W2) := HB1.out.trans (HB2.out.mono hG1)
  have hgl1 : G < W1.heap.size := HL1.out.lt
  go_loopw [13, 14] (fun s13 s14 wx => ∃ (k : Nat) (zs : List Value), s14 = .int .i64 (k : Int) ∧ k ≤ n ∧ k ≤ 3 ∧ zs.length ≤ k * 1048576 ∧ Hid (ALs W2.heap.size W2.heap.size wx s13 zs) ∧ Hid (Below W2.heap.size W2 wx)) (fun _ s14 _ => 3 - (intOf s14).toNat)
  case atStart => exact ⟨0, [], rfl, by omega, by omega, by simp, ALs.empty _ _ _, Below.refl _ _⟩
  case round =>
    as_aux_lemma =>
      obtain ⟨k, zs, rfl, hkn, hk3, hzl, HAL, HK⟩ := hrel
      have h2r : W2.heap.size ≤ wr.heap.size := HK.out.size
      have HWr : Hid (Below G w wr) := HW2.out.trans (HK.out.mono (by omega))
      have HW1r : Hid (Below W1.heap.size W1 wr) := HB2.out.trans (HK.out.mono h12)
      have HGr : Hid (NV wr (some ⟨G, 0, none⟩) n (n + 1) L) := HG1.out.on HW1r.out
      have HVr : Hid (NV wr a n cap L) := HV1.out.on HW1r.out
      by_cases hkk : k < n ∧ k < 3
      · as_aux_lemma =>
          obtain ⟨hk1, hk2⟩ := hkk
          have hkl : k < L.length := by rw [← HN.out]; exact hk1
          obtain ⟨b, off, rfl, hl⟩ := HVr.out.lies (by omega)
          obtain ⟨c0, -, -, -⟩ := hl k hkl
          generalize (L[k]'hkl).t = tk at c0
          have c9 := items_any wr (some ⟨G, 0, none⟩) n (n + 1) tk L HGr.out
          have hit := itm_len L tk
          have HITk : Hid (∀ M ∈ itm L tk, M.length ≤ 1048576) := fun M hM => by have := (itm_each L tk M hM).1; rw [← HN.out] at this; omega
          rw [← HN.out] at hit
          generalize itm L tk = ak at c9 hit HITk
          generalize isSq L tk = sk at c9
          have hkI : (k : Int) < (n : Int) := by omega
          have hkJ : (k : Int) < 3 := by omega
          clear hl
          go_wp2_with (first | (go_at_call 9; refine Calls.mono c9 ?_; rintro ee W ⟨vo, rfl, hq⟩; have HQ : Hid (ItQ wr.heap.size wr ak vo W) := hq.out; clear hq) | (at_builtin; refine Stop.mk ?_))
          obtain ⟨uso, hLo⟩ := HQ.out.1
          have HLo : Hid (LSt wr.heap.size W vo uso ak) := hLo
          have HBo : Hid (Below wr.heap.size wr W) := HQ.out.2
          have hlo := hLo.len
          have hso := HBo.out.size
          have HALo : Hid (ALs W2.heap.size W2.heap.size W u13 zs) := HAL.out.on HBo.out
          clear hLo HQ c9
          refine Stop.out (gather29 (H := W2.heap.size) (bR := W2.heap.size) rfl (.tmp 82) (.tmp 83) rfl rfl rfl HALo.out HLo.out h2r HITk.out (fun i j u y hu hy g e1 e2 => ?_) (by omega) (by omega) ?_)
          · have q1 := (HAL.out.lt hu e1).2
            have q2 := (HLo.out.lt hy e2).1
            omega
          · intro v' W9 hA9 hg9 _
            have HA9 : Hid (ALs W2.heap.size W2.heap.size W9 v' (zs ++ uso)) := hA9
            have HK9 : Hid (Below W2.heap.size W2 W9) := (HK.out.trans (HBo.out.mono h2r)).grown hg9 (by omega) (fun j hj => (HALo.out.row.lt j hj).1)
            have hzz : (zs ++ uso).length ≤ (k + 1) * 1048576 := by rw [List.length_append]; omega
            clear hA9 hg9
            go_wp2
            go_roundw
            case rel => exact ⟨k + 1, _, by go_num, by omega, by omega, hzz, HA9, HK9⟩
            case measure => simp [intOf]; omega
      · go_upto_region 11 with fail
        go_cut [69] from 62 to 84 (fun s69 wx => s69 = .bool false ∧ wx = wr)
        case first =>
          by_cases hk1 : k < n
          · have hkI : (k : Int) < (n : Int) := by omega
            have hkJ : ¬ (k : Int) < 3 := by omega
            go_wp2_with fail
            go_meet
            exact ⟨rfl, rfl⟩
          · have hkI : ¬ (k : Int) < (n : Int) := by omega
            go_wp2_with fail
            go_meet
            exact ⟨rfl, rfl⟩
        case rest =>
          obtain ⟨rfl, rfl⟩ := hcut
          clear hkk hkn
          as_aux_lemma =>
            obtain ⟨W3, hW3⟩ : ∃ W3, W3 = wc := ⟨_, rfl⟩
            rw [← hW3] at HAL HK h2r HWr HW1r HGr HVr ⊢
            clear hW3
            have c9 := items_any W3 (some ⟨G, 0, none⟩) n (n + 1) t L HGr.out
            rw [HIT.out, HSQ.out] at c9
            go_upto_region 16 with (go_at_call 9; refine Calls.mono c9 ?_; rintro ee W4 ⟨vz, rfl, hq⟩; have HQ : Hid (ItQ W3.heap.size W3 all vz W4) := hq.out; clear hq)
            clear c9
            obtain ⟨usZ, hLz⟩ := HQ.out.1
            have HLz : Hid (LSt W3.heap.size W4 vz usZ all) := hLz
            have HB4 : Hid (Below W3.heap.size W3 W4) := HQ.out.2
            clear hLz HQ
            have h34 : W3.heap.size ≤ W4.heap.size := HB4.out.size
            have HV4 : Hid (NV W4 a n cap L) := HVr.out.on HB4.out
            have c10 := itemsR_any W4 a n cap t L HV4.out
            rw [HIT.out, HSQ.out] at c10
            go_upto_region 17 with (go_at_call 10; refine Calls.mono c10 ?_; rintro ee W5 ⟨vb', rfl, hq⟩; have HQ : Hid (ItQ W4.heap.size W4 all vb' W5) := hq.out; clear hq)
            clear c10
            obtain ⟨usB, hLb⟩ := HQ.out.1
            have HLb : Hid (LSt W4.heap.size W5 vb' usB all) := hLb
            have HB5 : Hid (Below W4.heap.size W4 W5) := HQ.out.2
            clear hLb HQ
            have h45 : W4.heap.size ≤ W5.heap.size := HB5.out.size
            have HW35 : Hid (Below W3.heap.size W3 W5) := HB4.out.trans (HB5.out.mono h34)
            have HW25 : Hid (Below W2.heap.size W2 W5) := HK.out.trans (HW35.out.mono h2r)
            have HW5 : Hid (Below G w W5) := HWr.out.trans (HW35.out.mono (by omega))
            have HLa5 : Hid (LSt W1.heap.size W5 va usA all) := HA.out.on HW25.out
            have HLz5 : Hid (LSt W3.heap.size W5 vz usZ all) := HLz.out.on HB5.out
            have HAL5 : Hid (ALs W2.heap.size W2.heap.size W5 u13 zs) := HAL.out.on HW35.out
            have HL5 : Hid (Lent G L G W5) := HL1.out.keep ((HB2.out.trans (HW25.out.mono h12)).block G hgl1)
            have HV5 : Hid (NV W5 a n cap L) := HV4.out.on HB5.out
            have HAlt : Hid ((∀ (k : Nat) (u : Value), usA[k]? = some u → ∀ g, u.ownBlock = some g → g < W2.heap.size) ∧ ∀ g, va.ownBlock = some g → g < W2.heap.size) := ⟨fun k u hu g e => (HA.out.lt hu e).2, fun g e => (HA.out.row.lt g e).2⟩
            have HZlt : Hid ((∀ (k : Nat) (u : Value), zs[k]? = some u → ∀ g, u.ownBlock = some g → W2.heap.size ≤ g ∧ g < W3.heap.size) ∧ ∀ g, u13.ownBlock = some g → W2.heap.size ≤ g ∧ g < W3.heap.size) := ⟨fun k u hu g e => HAL.out.lt hu e, fun g e => HAL.out.row.lt g e⟩
            have HBlt : Hid ((∀ (k : Nat) (u : Value), usB[k]? = some u → ∀ g, u.ownBlock = some g → W4.heap.size ≤ g ∧ g < W5.heap.size) ∧ ∀ g, vb'.ownBlock = some g → W4.heap.size ≤ g ∧ g < W5.heap.size) := ⟨fun k u hu g e => HLb.out.lt hu e, fun g e => HLb.out.row.lt g e⟩
            have HZz : Hid ((∀ (k : Nat) (u : Value), usZ[k]? = some u → ∀ g, u.ownBlock = some g → g < W4.heap.size) ∧ ∀ g, vz.ownBlock = some g → g < W4.heap.size) := ⟨fun k u hu g e => (HLz.out.lt hu e).2, fun g e => (HLz.out.row.lt g e).2⟩
            have HC5 : Hid (Below (G + 1) W1 W5) := (HB2.out.trans (HW25.out.mono h12)).mono hgl1
            clear HAL HLz HA HV4 HVr HGr
            obtain ⟨aa, ca, rfl, hca, HFa, HNa⟩ := HLa5.out.form
            obtain ⟨az, cz, rfl, hcz, HFz, HNz⟩ := HLz5.out.form
            obtain ⟨ab, cb, rfl, hcb, HFb, HNb⟩ := HLb.out.form
            have hal := HALL.out.1
            obtain ⟨m, hm⟩ : ∃ m, all.length = m := ⟨_, rfl⟩
            have HM : Hid (all.length = m) := hm
            rw [hm] at hca hcz hcb HFa HNa HFz HNz HFb HNb hal ⊢
            have HFa' : Hid _ := HFa
            have HFz' : Hid _ := HFz
            have HFb' : Hid _ := HFb
            have HN3 : Hid ((m = 0 → aa = none ∧ ca = 0) ∧ (m = 0 → az = none ∧ cz = 0) ∧ (m = 0 → ab = none ∧ cb = 0)) := ⟨HNa, HNz, HNb⟩
            clear HFa HFz HFb HNa HNz HNb hm
            go_cut [127] from 97 (fun s127 wx => s127 = .bool false ∧ wx = W5)
            case first =>
              as_aux_lemma =>
                by_cases hm0 : m = 0
                · obtain ⟨rfl, rfl⟩ := HN3.out.1 hm0
                  obtain ⟨rfl, rfl⟩ := HN3.out.2.1 hm0
                  obtain ⟨rfl, rfl⟩ := HN3.out.2.2 hm0
                  subst hm0
                  clear HN3
                  go_wp2_with fail
                  go_meet
                  exact ⟨rfl, rfl⟩
                · have hmI : ¬ (m : Int) = 0 := by omega
                  have hmB : ((m : Int) == 0) = false := by simp; omega
                  go_wp2_with fail
                  go_meet
                  exact ⟨rfl, rfl⟩
            case rest =>
              obtain ⟨rfl, rfl⟩ := hcut
              as_aux_lemma =>
                obtain ⟨W6, hW6⟩ : ∃ W6, W6 = wc := ⟨_, rfl⟩
                rw [← hW6] at HLa5 HLz5 HLb HAL5 HL5 HV5 HW5 HW25 HW35 HFa' HFz' HFb' h45 HC5 HBlt ⊢
                clear hW6
                go_wp2
                go_loopw [20] (fun s20 wx => ∃ k mm : Nat, s20 = .int .i64 (k : Int) ∧ k ≤ m ∧ wx = W6.drewN mm) (fun s20 _ => m - (intOf s20).toNat)
                case atStart => exact ⟨0, 0, rfl, by omega, rfl⟩
                case round =>
                  as_aux_lemma =>
                    obtain ⟨k, mm, rfl, hkm, hwr⟩ := hrel
                    have HWd : Hid (Below W6.heap.size W6 wr) := by rw [hwr]; exact below_drw (Below.refl _ _) mm
                    have HWE : Hid (wr = W6.drewN mm) := hwr
                    clear hwr
                    by_cases hk : k < m
                    · as_aux_lemma =>
                        have hkl : k < all.length := by rw [HM.out]; exact hk
                        obtain ⟨hms, hmz⟩ := HALL.out.2 _ (List.getElem_mem hkl)
                        obtain ⟨a1, c1, e1, n1, z1⟩ := (HLa5.out.on HWd.out).nv hkl hms hmz
                        obtain ⟨a2, c2, e2, n2, z2⟩ := (HLz5.out.on HWd.out).nv hkl hms hmz
                        obtain ⟨a3, c3, e3, n3, z3⟩ := (HLb.out.on HWd.out).nv hkl hms hmz
                        obtain ⟨ga, rfl, fa⟩ := HFa'.out (by omega)
                        obtain ⟨gz, rfl, fz⟩ := HFz'.out (by omega)
                        obtain ⟨gb, rfl, fb⟩ := HFb'.out (by omega)
                        have d1 := (HWd.out.cell (cell_lt (fa k _ e1))).trans (fa k _ e1)
                        have d2 := (HWd.out.cell (cell_lt (fz k _ e2))).trans (fz k _ e2)
                        have d3 := (HWd.out.cell (cell_lt (fb k _ e3))).trans (fb k _ e3)
                        have q1 : ∀ nq, Calls Try.prog 11 #[.slice a1 (all[k]'hkl).length c1, .slice a3 (all[k]'hkl).length c3] (wr.drewN nq) fun e w'' => e = .returned (.bool true) ∧ ∃ m, w'' = wr.drewN m := fun nq => (nodes_same (wr.drewN nq) a1 a3 _ c1 c3 _ (n1.drw nq) (n3.drw nq)).mono (by rintro e w' ⟨rfl, m', rfl⟩; exact ⟨rfl, _, World.drewN_drewN ..⟩)
                        have q2 : ∀ nq, Calls Try.prog 11 #[.slice a2 (all[k]'hkl).length c2, .slice a3 (all[k]'hkl).length c3] (wr.drewN nq) fun e w'' => e = .returned (.bool true) ∧ ∃ m, w'' = wr.drewN m := fun nq => (nodes_same (wr.drewN nq) a2 a3 _ c2 c3 _ (n2.drw nq) (n3.drw nq)).mono (by rintro e w' ⟨rfl, m', rfl⟩; exact ⟨rfl, _, World.drewN_drewN ..⟩)
                        have HZ1 : Hid _ := z1
                        clear fa fz fb e1 e2 e3 n1 n2 n3 z1 z2 z3 hms hmz
                        generalize (all[k]'hkl).length = l at d1 d2 d3 q1 q2 HZ1
                        have HQ1 : Hid (∀ nq, Calls Try.prog 11 #[.slice a1 l c1, .slice a3 l c3] (wr.drewN nq) fun e w'' => e = .returned (.bool true) ∧ ∃ m, w'' = wr.drewN m) := q1
                        have HQ2 : Hid (∀ nq, Calls Try.prog 11 #[.slice a2 l c2, .slice a3 l c3] (wr.drewN nq) fun e w'' => e = .returned (.bool true) ∧ ∃ m, w'' = wr.drewN m) := q2
                        clear q1 q2 hkl
                        have hkI : (k : Int) < (m : Int) := by omega
                        by_cases hl0 : l = 0
                        · subst hl0
                          obtain ⟨rfl, rfl⟩ := HZ1.out rfl
                          clear HZ1
                          go_wp2
                          go_quiet (first | (go_at_call_of 11 (Value.slice none 0 0); exact HQ1.out _) | (go_at_call_of 11 (Value.slice a2 0 c2); exact HQ2.out _) | fail)
                          go_wp2
                          go_roundw
                          case rel => exact ⟨k + 1, _, by go_num, by omega, by rw [HWE.out]; exact World.drewN_drewN ..⟩
                          case measure => simp [intOf]; omega
                        · have hlI : ¬ (l : Int) = 0 := by omega
                          have hlB : ((l : Int) == 0) = false := by simp; omega
                          clear HZ1
                          go_wp2
                          go_quiet (first | (go_at_call_of 11 (Value.slice a1 l c1); exact HQ1.out _) | (go_at_call_of 11 (Value.slice a2 l c2); exact HQ2.out _) | fail)
                          go_wp2
                          go_roundw
                          case rel => exact ⟨k + 1, _, by go_num, by omega, by rw [HWE.out]; exact World.drewN_drewN ..⟩
                          case measure => simp [intOf]; omega
                    · obtain rfl : k = m := by omega
                      have hkI : ¬ (k : Int) < (k : Int) := by omega
                      obtain ⟨W7, hW7⟩ : ∃ W7, W7 = wr := ⟨_, rfl⟩
                      have h67 : W6.heap.size ≤ W7.heap.size := by rw [hW7]; exact HWd.out.size
                      have HA7 : Hid (ALs W1.heap.size W2.heap.size W7 u13 zs) := by rw [hW7]; exact (HAL5.out.on HWd.out).low h12
                      have HLa7 : Hid (LSt W1.heap.size W7 (.slice aa k ca) usA all) := by rw [hW7, ← HM.out]; exact HLa5.out.on HWd.out
                      have HLz7 : Hid (LSt W3.heap.size W7 (.slice az k cz) usZ all) := by rw [hW7, ← HM.out]; exact HLz5.out.on HWd.out
                      have HLb7 : Hid (LSt W4.heap.size W7 (.slice ab k cb) usB all) := by rw [hW7, ← HM.out]; exact HLb.out.on HWd.out
                      have HC7 : Hid (Below (G + 1) W1 W7) := by rw [hW7]; exact HC5.out.trans (HWd.out.mono (by have := HC5.out.size; omega))
                      have HG7 : Hid (Below G w W7) := by rw [hW7]; exact HW5.out.trans (HWd.out.mono (by have := HC5.out.size; omega))
                      rw [← hW7]
                      clear HAL5 HLa5 HLz5 HLb HWd HWE hW7 HL5 HV5 HFa' HFz' HFb' HW25 HW35 HW5 HC5
                      have hua := HLa7.out.len
                      have huz := HLz7.out.len
                      have HMs : Hid (∀ M ∈ all, M.length ≤ 1048576) := fun M hM => (HALL.out.2 M hM).1
                      have HAlt' : Hid ((∀ (j : Nat) (u : Value), usA[j]? = some u → ∀ g, u.ownBlock = some g → g < W2.heap.size) ∧ ∀ g, (Value.slice aa k ca).ownBlock = some g → g < W2.heap.size) := by rw [← HM.out]; exact HAlt.out
                      have HZz' : Hid ((∀ (j : Nat) (u : Value), usZ[j]? = some u → ∀ g, u.ownBlock = some g → g < W4.heap.size) ∧ ∀ g, (Value.slice az k cz).ownBlock = some g → g < W4.heap.size) := by rw [← HM.out]; exact HZz.out
                      have HBlt' : Hid ((∀ (j : Nat) (u : Value), usB[j]? = some u → ∀ g, u.ownBlock = some g → W4.heap.size ≤ g ∧ g < W6.heap.size) ∧ ∀ g, (Value.slice ab k cb).ownBlock = some g → W4.heap.size ≤ g ∧ g < W6.heap.size) := by rw [← HM.out]; exact HBlt.out
                      clear HAlt HZz HBlt
                      rw [HM.out] at hua huz
                      go_wp2_with (at_builtin; refine Stop.mk ?_)
                      refine Stop.out (gather29 (H := W1.heap.size) (bR := W2.heap.size) rfl (.tmp 171) (.tmp 172) rfl rfl rfl HA7.out HLa7.out (Nat.le_refl _) HMs.out (fun i j u y hu hy g e1 e2 => ?_) (by omega) (by omega) ?_)
                      · have q1 := HAlt'.out.1 j y hy g e2
                        have q2 := HZlt.out.1 i u hu g e1
                        omega
                      · intro v8 W8 hA8 hg8 hd8
                        have HA8 : Hid (ALs W1.heap.size W2.heap.size W8 v8 (zs ++ usA)) := hA8
                        have h78 : W7.heap.size ≤ W8.heap.size := hg8.size
                        have HV8 : Hid (∀ g, v8.ownBlock = some g → (W2.heap.size ≤ g ∧ g < W3.heap.size) ∨ W7.heap.size ≤ g) := fun g e => by
                          rcases hd8 with q | ⟨g', q, q2⟩
                          · exact .inl (HZlt.out.2 g (q.symm.trans e))
                          · rw [q] at e; cases e; exact .inr q2
                        have HLa8 : Hid (LSt W1.heap.size W8 (.slice aa k ca) usA all) := HLa7.out.grown HA7.out hg8 (fun g e1 e2 => by have q1 := HAlt'.out.2 g e1; have q2 := HZlt.out.2 g e2; omega)
                        have HLz8 : Hid (LSt W3.heap.size W8 (.slice az k cz) usZ all) := HLz7.out.grown HA7.out hg8 (fun g e1 e2 => by have q1 := (HLz7.out.row.lt g e1).1; have q2 := HZlt.out.2 g e2; omega)
                        have HLb8 : Hid (LSt W4.heap.size W8 (.slice ab k cb) usB all) := HLb7.out.grown HA7.out hg8 (fun g e1 e2 => by have q1 := HBlt'.out.2 g e1; have q2 := HZlt.out.2 g e2; omega)
                        have HC8 : Hid (Below (G + 1) W1 W8) := HC7.out.grown hg8 (by omega) (fun j hj => by have := HZlt.out.2 j hj; omega)
                        have HG8 : Hid (Below G w W8) := HG7.out.grown hg8 (by omega) (fun j hj => by have := HZlt.out.2 j hj; omega)
                        clear hA8 hg8 hd8 HA7 HLa7 HLz7 HLb7 HC7 HG7
                        go_wp2_with (at_builtin; refine Stop.mk ?_)
                        refine Stop.out (gather29 (H := W1.heap.size) (bR := W2.heap.size) rfl (.tmp 174) (.tmp 175) rfl rfl rfl HA8.out HLz8.out (by omega) HMs.out (fun i j u y hu hy g e1 e2 => ?_) (by rw [List.length_append]; omega) (by omega) ?_)
                        · have q1 := (HLz8.out.lt hy e2).1
                          by_cases hi : i < zs.length
                          · rw [List.getElem?_append_left hi] at hu
                            have q2 := HZlt.out.1 i u hu g e1
                            omega
                          · rw [List.getElem?_append_right (by omega)] at hu
                            have q2 := HAlt'.out.1 _ u hu g e1
                            omega
                        · intro v9 W9 hA9 hg9 hd9
                          have HA9 : Hid (ALs W1.heap.size W2.heap.size W9 v9 (zs ++ usA ++ usZ)) := hA9
                          have h89 : W8.heap.size ≤ W9.heap.size := hg9.size
                          have HLa9 : Hid (LSt W1.heap.size W9 (.slice aa k ca) usA all) := HLa8.out.grown HA8.out hg9 (fun g e1 e2 => by have q1 := HAlt'.out.2 g e1; have q2 := HV8.out g e2; omega)
                          have HLz9 : Hid (LSt W3.heap.size W9 (.slice az k cz) usZ all) := HLz8.out.grown HA8.out hg9 (fun g e1 e2 => by have q1 := (HLz8.out.row.lt g e1).1; have q3 := HZz'.out.2 g e1; have q2 := HV8.out g e2; omega)
                          have HLb9 : Hid (LSt W4.heap.size W9 (.slice ab k cb) usB all) := HLb8.out.grown HA8.out hg9 (fun g e1 e2 => by have q1 := HBlt'.out.2 g e1; have q2 := HV8.out g e2; omega)
                          have HC9 : Hid (Below (G + 1) W1 W9) := HC8.out.grown hg9 (by omega) (fun j hj => by have := HV8.out j hj; omega)
                          have HG9 : Hid (Below G w W9) := HG8.out.grown hg9 (by omega) (fun j hj => by have := HV8.out j hj; omega)
                          clear hA9 hg9 hd9 HA8 HLa8 HLz8 HLb8 HC8 HG8 HV8
                          have c12 := free_all HA9.out (by rw [List.length_append, List.length_append]; omega) (by omega)
                          go_wp2_with (go_at_call 12; refine StopF.out ?_)
                          refine ⟨Calls.mono c12 ?_⟩
                          rintro ee W10 ⟨rfl, hkr⟩
                          have h910 : W9.heap.size ≤ W10.heap.size := hkr.size
                          have hzb : ∀ j, j < (zs ++ usA ++ usZ).length → ∀ g, ((zs ++ usA ++ usZ).getD j (.slice none 0 0)).ownBlock = some g → W1.heap.size ≤ g ∧ g < W4.heap.size := fun j hj g e => by
                            have hz : (zs ++ usA ++ usZ)[j]? = some ((zs ++ usA ++ usZ).getD j (.slice none 0 0)) := by rw [List.getD_eq_getElem?_getD, List.getElem?_eq_getElem hj]; rfl
                            refine ⟨(HA9.out.lt hz e).1, ?_⟩
                            generalize (zs ++ usA ++ usZ).getD j (.slice none 0 0) = z at hz e
                            by_cases h1 : j < (zs ++ usA).length
                            · rw [List.getElem?_append_left h1] at hz
                              by_cases h2 : j < zs.length
                              · rw [List.getElem?_append_left h2] at hz
                                have := HZlt.out.1 j z hz g e
                                omega
                              · rw [List.getElem?_append_right (by omega)] at hz
                                have := HAlt'.out.1 _ z hz g e
                                omega
                            · rw [List.getElem?_append_right (by omega)] at hz
                              exact HZz'.out.1 _ z hz g e
                          have HC10 : Hid (Below (G + 1) W1 W10) := HC9.out.trans ⟨hkr.os, hkr.tape, hkr.output, hkr.size, fun j hj => hkr.block j (by omega) (fun q hq e => by have := (hzb q hq j e).1; omega)⟩
                          have HG10 : Hid (Below G w W10) := HG9.out.trans ⟨hkr.os, hkr.tape, hkr.output, hkr.size, fun j hj => hkr.block j (by omega) (fun q hq e => by have := (hzb q hq j e).1; omega)⟩
                          have HLb10 : Hid (LSt W4.heap.size W10 (.slice ab k cb) usB all) := HLb9.out.keep (fun g e => hkr.block g (HLb9.out.row.lt g e).2 (fun q hq e2 => by have q1 := (hzb q hq g e2).2; have q2 := HBlt'.out.2 g e; omega)) (fun j u hu g e => hkr.block g (HLb9.out.lt hu e).2 (fun q hq e2 => by have q1 := (hzb q hq g e2).2; have q2 := HBlt'.out.1 j u hu g e; omega))
                          have HRa10 : Hid (W10.ownsRow W1.heap.size 22 1 (.slice aa k ca) usA.length usA) := own_keep HLa9.out.row (fun g e => hkr.block g (HLa9.out.row.lt g e).2 (fun q hq => HA9.out.other HLa9.out.row g e q hq))
                          have HRz10 : Hid (W10.ownsRow W3.heap.size 22 1 (.slice az k cz) usZ.length usZ) := own_keep HLz9.out.row (fun g e => hkr.block g (HLz9.out.row.lt g e).2 (fun q hq => HA9.out.other HLz9.out.row g e q hq))
                          have HEz : Hid (∀ (j : Nat) (u : Value) (M : List Nd), usZ[j]? = some u → all[j]? = some M → ∃ az cz, u = .slice az M.length cz) := fun j u M hu hM => by
                            have ho := HLz9.out.each j u M hu hM
                            rcases ho.2 with ⟨hv, hn⟩ | ⟨g, c, cur, hv, -⟩
                            · exact ⟨none, 0, by rw [hv, hn]⟩
                            · exact ⟨_, c, hv⟩
                          clear hkr hzb HA9 HLa9 HLz9 HLb9 HC9 HG9 c12
                          have HV10 : Hid (NV W10 a n cap L) := HV0.out.on (by rw [← HG.out]; exact HG10.out)
                          have HL10 : Hid (Lent G L G W10) := HL1.out.keep (HC10.out.block G (by omega))
                          have c13 := kept_any W10 G G a n cap L HV10.out HL10.out
                          go_wp2_with (go_at_call 13; refine StopF.out ?_)
                          refine ⟨Calls.mono c13 ?_⟩
                          rintro ee W11 ⟨rfl, hb⟩
                          clear c13
                          as_aux_lemma =>
                            have h1011 : W10.heap.size ≤ W11.heap.size := hb.size
                            have HR11 : Hid (Rst W1 w G W3.heap.size W4.heap.size (.slice az k cz) (.slice ab k cb) usZ usB all W11) := Rst.on ⟨HRz10.out, HLb10.out, HC10.out, HG10.out⟩ hb (by omega)
                            have HRa11 : Hid (W11.ownsRow W1.heap.size 22 1 (.slice aa k ca) usA.length usA) := ownsRow_below HRa10.out hb (Nat.le_refl _)
                            have HSep : Hid ((∀ g, (Value.slice aa k ca).ownBlock = some g → G + 1 ≤ g) ∧ (∀ g, (Value.slice az k cz).ownBlock = some g → (Value.slice aa k ca).ownBlock ≠ some g) ∧ ∀ g, (Value.slice ab k cb).ownBlock = some g → (Value.slice aa k ca).ownBlock ≠ some g) := ⟨fun g e => by have := (HRa11.out.lt g e).1; omega, fun g e1 e2 => by have q1 := HAlt'.out.2 g e2; have q2 := (HRz10.out.lt g e1).1; omega, fun g e1 e2 => by have q1 := HAlt'.out.2 g e2; have q2 := HBlt'.out.2 g e1; omega⟩
                            clear hb HRz10 HLb10 HC10 HG10 HRa10 HV10 HL10
                            go_wp2
                            go_loopw [21] (fun s21 wx => ∃ (j : Nat) (us' : List Value), s21 = .int .i64 (j : Int) ∧ j ≤ k ∧ us'.length = usA.length ∧ W11.heap.size ≤ wx.heap.size ∧ Hid (wx.ownsRow W1.heap.size 22 1 (.slice aa k ca) usA.length us') ∧ Hid (Rst W1 w G W3.heap.size W4.heap.size (.slice az k cz) (.slice ab k cb) usZ usB all wx)) (fun s21 _ => k - (intOf s21).toNat)
                            case atStart => exact ⟨0, usA, rfl, by omega, rfl, Nat.le_refl _, HRa11, HR11⟩
                            case round =>
                              as_aux_lemma =>
                                obtain ⟨j, us', rfl, hjk, hus, h11r, HRa, HR⟩ := hrel
                                clear HRa11 HR11
                                by_cases hj : j < k
                                · as_aux_lemma =>
                                    have hform := HRa.out.form (by omega)
                                    obtain ⟨ga, ca', hva, -, -⟩ := hform
                                    have haa : aa = some ⟨ga, 0, none⟩ := by injection hva
                                    subst haa
                                    clear hva
                                    have hrow : wr.ownsRow W1.heap.size 22 1 (.slice (some ⟨ga, 0, none⟩) k ca) k us' := by have := HRa.out; rw [hua] at this; exact this
                                    have hfz := hrow.frozenAt j
                                    have hcc := hrow.cellAt j (by omega)
                                    obtain ⟨y, hy⟩ : ∃ y, us'[j]? = some y := ⟨_, List.getElem?_eq_getElem (by omega)⟩
                                    rw [hy] at hcc
                                    have hgl : ga < wr.heap.size := cell_lt hcc
                                    have hjI : (j : Int) < (k : Int) := by omega
                                    have HS := fun (v : Value) => World.ownsRow.stored hrow j v
                                    have HST : Hid _ := HS
                                    clear hrow hy HS
                                    go_wp2
                                    go_roundw
                                    case rel =>
                                      have hst := HST.out (.slice (some ⟨wr.heap.size, 0, none⟩) 1 1)
                                      have hr1 := HR.out.other HRa.out (by omega) HSep.out.1 HSep.out.2.1 HSep.out.2.2 hst.2
                                      have hsz := hst.2.size
                                      refine ⟨j + 1, us'.set j (.slice (some ⟨wr.heap.size, 0, none⟩) 1 1), by go_num, by omega, by rw [List.length_set]; exact hus, ?_, ?_, ?_⟩
                                      · rw [size_alloc]; omega
                                      · rw [hua]; exact World.ownsRow.alloc hst.1 _
                                      · exact hr1.on ((Below.refl _ _).alloc (Nat.le_refl _) _) (by omega)
                                    case measure => simp [intOf]; omega
                                · obtain rfl : j = k := by omega
                                  have hjI : ¬ (j : Int) < (j : Int) := by omega
                                  obtain ⟨W12, hW12⟩ : ∃ W12, W12 = wr := ⟨_, rfl⟩
                                  rw [← hW12] at HRa HR h11r ⊢
                                  clear hW12
                                  go_wp2_with (at_builtin; refine Stop.mk ?_)
                                  refine Stop.out (app29 rfl (.tmp 197) (.tmp 198) rfl W1.heap.size (.slice aa j ca) usA.length us' rfl (World.ownsRow.alloc HRa.out _) ⟨W12.heap.size, 0, none⟩ 3 3 [.slice none 0 0, .slice none 0 0, .slice none 0 0] rfl rfl (news_new rfl _ _) (by intro y hy; simp at hy; subst hy; rfl) (by decide) (by omega) (by rw [size_alloc]; omega) ?_)
                                  intro ga' ca' W13 ho13 hg13 _ _
                                  have HR13 : Hid (Rst W1 w G W3.heap.size W4.heap.size (.slice az j cz) (.slice ab j cb) usZ usB all W13) := (HR.out.on ((Below.refl _ _).alloc (Nat.le_refl _) _) (by omega)).other (World.ownsRow.alloc HRa.out _) (by rw [size_alloc]; omega) HSep.out.1 HSep.out.2.1 HSep.out.2.2 hg13
                                  have h1213 := hg13.size
                                  rw [size_alloc] at h1213
                                  clear ho13 hg13 HRa HR HSep
                                  go_wp2
                                  go_loopw [22] (fun s22 wx => ∃ q mm : Nat, s22 = .int .i64 (q : Int) ∧ q ≤ j ∧ wx = W13.drewN mm) (fun s22 _ => j - (intOf s22).toNat)
                                  case atStart => exact ⟨0, 0, rfl, by omega, rfl⟩
                                  case round =>
                                    as_aux_lemma =>
                                      obtain ⟨q, mm, rfl, hqj, hwr⟩ := hrel
                                      have HWd : Hid (Below W13.heap.size W13 wr) := by rw [hwr]; exact below_drw (Below.refl _ _) mm
                                      have HWE : Hid (wr = W13.drewN mm) := hwr
                                      clear hwr
                                      by_cases hq : q < j
                                      · as_aux_lemma =>
                                          have hql : q < all.length := by rw [HM.out]; exact hq
                                          have hMq := List.getElem?_eq_getElem hql
                                          have huB := HR13.out.b.len
                                          obtain ⟨uz, hz⟩ : ∃ uz, usZ[q]? = some uz := ⟨_, List.getElem?_eq_getElem (by omega)⟩
                                          obtain ⟨ub, hb⟩ : ∃ ub, usB[q]? = some ub := ⟨_, List.getElem?_eq_getElem (by omega)⟩
                                          obtain ⟨azq, czq, rfl⟩ := HEz.out q uz _ hz hMq
                                          obtain ⟨abq, cbq, rfl⟩ : ∃ abq cbq, ub = .slice abq (all[q]'hql).length cbq := by
                                            rcases (HR13.out.b.each q ub _ hb hMq).2 with ⟨hv, hn⟩ | ⟨g, c, cur, hv, -⟩
                                            · exact ⟨none, 0, by rw [hv, hn]⟩
                                            · exact ⟨_, c, hv⟩
                                          obtain ⟨gz, cz', hvz, -, -⟩ := HR13.out.z.form (by omega)
                                          obtain ⟨gb, cb', hvb, -, -⟩ := HR13.out.b.row.form (by omega)
                                          have haz : az = some ⟨gz, 0, none⟩ := by injection hvz
                                          have hab : ab = some ⟨gb, 0, none⟩ := by injection hvb
                                          subst haz hab
                                          have rz : W13.ownsRow W3.heap.size 22 1 (.slice (some ⟨gz, 0, none⟩) usZ.length cz) usZ.length usZ := by have := HR13.out.z; rw [huz] at this ⊢; exact this
                                          have rb : W13.ownsRow W4.heap.size 22 1 (.slice (some ⟨gb, 0, none⟩) usB.length cb) usB.length usB := by have := HR13.out.b.row; rw [huB, HM.out] at this ⊢; exact this
                                          have d2 : W13.cell? ⟨gz, q, none⟩ = some (.slice azq (all[q]'hql).length czq) := by rw [rz.cellAt q (by omega)]; exact hz
                                          have d3 : W13.cell? ⟨gb, q, none⟩ = some (.slice abq (all[q]'hql).length cbq) := by rw [rb.cellAt q (by omega)]; exact hb
                                          replace d2 := (HWd.out.cell (cell_lt d2)).trans d2
                                          replace d3 := (HWd.out.cell (cell_lt d3)).trans d3
                                          generalize (all[q]'hql).length = l at d2 d3
                                          have hqI : (q : Int) < (j : Int) := by omega
                                          clear rz rb hz hb hMq hvz hvb
                                          go_wp2
                                          go_quiet (fail)
                                          go_wp2
                                          go_roundw
                                          case rel => exact ⟨q + 1, _, by go_num, by omega, by rw [HWE.out]; exact World.drewN_drewN ..⟩
                                          case measure => simp [intOf]; omega
                                      · obtain rfl : q = j := by omega
                                        have hqI : ¬ (q : Int) < (q : Int) := by omega
                                        obtain ⟨W14, hW14⟩ : ∃ W14, W14 = wr := ⟨_, rfl⟩
                                        rw [← hW14] at HWd ⊢
                                        have h1314 := HWd.out.size
                                        have HR14 : Hid (Rst W1 w G W3.heap.size W4.heap.size (.slice az q cz) (.slice ab q cb) usZ usB all W14) := HR13.out.on HWd.out (by omega)
                                        clear HWd HWE hW14 HR13
                                        have HL14 : Hid (Lent G L G W14) := HL1.out.keep (HR14.out.c.block G (by omega))
                                        have HG14 : Hid (NV W14 (some ⟨G, 0, none⟩) n (n + 1) L) := by rw [HN.out]; exact HL14.out.nv (by rw [← HN.out]; exact hsm) HZ.out
                                        have c9 := items_any W14 (some ⟨G, 0, none⟩) n (n + 1) t L HG14.out
                                        rw [HIT.out, HSQ.out] at c9
                                        have hqq : usA.length + 3 = q + 3 := by omega
                                        go_wp2_with (go_at_call 9; refine StopF.out ?_)
                                        refine ⟨Calls.mono c9 ?_⟩
                                        rintro ee W15 ⟨va2, rfl, hq2⟩
                                        obtain ⟨usA2, hLA2⟩ := hq2.out.1
                                        have HA15 : Hid (LSt W14.heap.size W15 va2 usA2 all) := hLA2
                                        have HB15 : Hid (Below W14.heap.size W14 W15) := hq2.out.2
                                        clear hLA2 hq2 c9
                                        have h1415 := HB15.out.size
                                        have HR15 : Hid (Rst W1 w G W3.heap.size W4.heap.size (.slice az q cz) (.slice ab q cb) usZ usB all W15) := HR14.out.on HB15.out (by omega)
                                        have HL15 : Hid (Lent G L G W15) := HL1.out.keep (HR15.out.c.block G (by omega))
                                        have c14 := turn_any W15 G G n L HL15.out HN.out hsm HT.out
                                        go_wp2_with (go_at_call 14; refine StopF.out ?_)
                                        refine ⟨Calls.mono c14 ?_⟩
                                        rintro ee W16 ⟨vo, rfl, hT⟩
                                        clear c14
                                        as_aux_lemma =>
                                          obtain ⟨Q, hQ⟩ := hT.out
                                          have HSh : Hid (Sh L Q) := hQ.sh
                                          have HQn : Hid (n = Q.length) := HN.out.trans hQ.sh.1.symm
                                          have HZQ : Hid (∀ x ∈ Q, -9223372036854775808 ≤ x.n ∧ x.n ≤ 9223372036854775807) := hQ.sh.num HZ.out
                                          have HLQ : Hid (Lent G Q G W16) := hQ.lent
                                          have hown : W16.ownsRow W15.heap.size 34 4 vo n (nds Q) := by have := hQ.own; rw [List.take_of_length_le (by rw [← HQn.out]; exact Nat.le_refl _)] at this; exact this
                                          obtain ⟨ao, co, rfl, hvo, hao⟩ := own_nv hown HQn.out hsm HZQ.out
                                          have HOo : Hid (W16.ownsRow W15.heap.size 34 4 (.slice ao n co) n (nds Q)) := hown
                                          have HVo : Hid (NV W16 ao n co Q) := hvo
                                          have HAo : Hid (0 < n → ∃ g, ao = some ⟨g, 0, none⟩ ∧ W15.heap.size ≤ g) := hao
                                          have HKO : Hid (KO G W15 W16) := hQ.ko
                                          clear hQ hT hown hvo hao
                                          have h1516 := HKO.out.size
                                          have HGQ : Hid (NV W16 (some ⟨G, 0, none⟩) n (n + 1) Q) := by rw [HQn.out]; exact HLQ.out.nv (by rw [← HQn.out]; exact hsm) HZQ.out
                                          have HA16 : Hid (LSt W14.heap.size W16 va2 usA2 all) := HA15.out.ko HKO.out (by omega)
                                          have HB16 : Hid (LSt W4.heap.size W16 (.slice ab q cb) usB all) := HR15.out.b.ko HKO.out (by omega)
                                          have HG16 : Hid (Below G w W16) := HR15.out.g.trans (HKO.out.below (Nat.le_refl G) (by omega))
                                          clear HA15 HR15 HKO HL15 HB15 HL14 HG14 HR14
                                          have c7 := value_any W16 (some ⟨G, 0, none⟩) n (n + 1) t Q HGQ.out
                                          have c8 := valueR_any W16 ao n co t Q HVo.out
                                          have c5 := next_any W16 (some ⟨G, 0, none⟩) n (n + 1) i Q HGQ.out
                                          have c6 := nextR_any W16 ao n co i Q HVo.out
                                          have c9 := items_any W16 (some ⟨G, 0, none⟩) n (n + 1) t Q HGQ.out
                                          rw [HSh.out.isSq, HSQ.out] at c9
                                          have HM2 : Hid ((itm Q t).length = q) := by show _ = _; rw [HSh.out.itm, HIT.out, HM.out]
                                          have HALL2 : Hid (∀ M ∈ itm Q t, M.length ≤ 1048576 ∧ ∀ x ∈ M, -9223372036854775808 ≤ x.n ∧ x.n ≤ 9223372036854775807) := fun M hM => by
                                            obtain ⟨h1, h2⟩ := itm_each Q t M hM
                                            exact ⟨by rw [← HQn.out] at h1; omega, fun x hx => HZQ.out x (h2 x hx)⟩
                                          obtain ⟨all2, hall2⟩ : ∃ all2, itm Q t = all2 := ⟨_, rfl⟩
                                          have HIT2 : Hid (itm Q t = all2) := hall2
                                          rw [hall2] at c9 HM2 HALL2
                                          clear hall2
                                          generalize nxtI Q i = x2 at c5 c6
                                          generalize valS Q t = vs2 at c7 c8
                                          generalize valB Q t = vb2 at c7 c8
                                          go_upto_region 46 with (first | (go_at_call 7; refine Calls.mono c7 ?_; rintro ee W ⟨rfl, rfl⟩) | (go_at_call 8; refine Calls.mono c8 ?_; rintro ee W ⟨rfl, rfl⟩) | (go_at_call 5; refine Calls.mono c5 ?_; rintro ee W ⟨rfl, rfl⟩) | (go_at_call 6; refine Calls.mono c6 ?_; rintro ee W ⟨rfl, rfl⟩))
                                          clear c5 c6 c7 c8
                                          go_wp2_with (go_at_call 9; refine StopF.out ?_)
                                          refine ⟨Calls.mono c9 ?_⟩
                                          rintro ee W17 ⟨vz2, rfl, hq2⟩
                                          obtain ⟨usZ2, hLZ2⟩ := hq2.out.1
                                          have HZ17 : Hid (LSt W16.heap.size W17 vz2 usZ2 all2) := hLZ2
                                          have HB17 : Hid (Below W16.heap.size W16 W17) := hq2.out.2
                                          clear hLZ2 hq2 c9
                                          have h1617 := HB17.out.size
                                          have c10 := itemsR_any W17 ao n co t Q (HVo.out.on HB17.out)
                                          rw [HSh.out.isSq, HSQ.out, HIT2.out] at c10
                                          go_wp2_with (go_at_call 10; refine StopF.out ?_)
                                          refine ⟨Calls.mono c10 ?_⟩
                                          rintro ee W18 ⟨vc, rfl, hq2⟩
                                          obtain ⟨usC, hLC⟩ := hq2.out.1
                                          have HC18 : Hid (LSt W17.heap.size W18 vc usC all2) := hLC
                                          have HB18 : Hid (Below W17.heap.size W17 W18) := hq2.out.2
                                          clear hLC hq2 c10
                                          have h1718 := HB18.out.size
                                          have HB1618 : Hid (Below W16.heap.size W16 W18) := HB17.out.trans (HB18.out.mono h1617)
                                          have HZ18 : Hid (LSt W16.heap.size W18 vz2 usZ2 all2) := HZ17.out.on HB18.out
                                          have HA18 : Hid (LSt W14.heap.size W18 va2 usA2 all) := HA16.out.on HB1618.out
                                          have HBb18 : Hid (LSt W4.heap.size W18 (.slice ab q cb) usB all) := HB16.out.on HB1618.out
                                          have HLQ18 : Hid (Lent G Q G W18) := HLQ.out.keep (HB1618.out.block G HLQ.out.lt)
                                          have HO18 : Hid (W18.ownsRow W15.heap.size 34 4 (.slice ao n co) n (nds Q)) := ownsRow_below HOo.out HB1618.out (Nat.le_refl _)
                                          have HG18 : Hid (Below G w W18) := HG16.out.trans (HB1618.out.mono (by omega))
                                          clear HZ17 HA16 HB16 HLQ HOo HVo HGQ HB17 HB18 HB1618 HG16
                                          obtain ⟨az2, cz2, rfl, -, HFz, -⟩ := HZ18.out.form
                                          obtain ⟨ac, cc, rfl, -, HFc, -⟩ := HC18.out.form
                                          obtain ⟨aa2, ca2, rfl, -, HFa, -⟩ := HA18.out.form
                                          obtain ⟨ab', cb', hvb, -, HFb, -⟩ := HBb18.out.form
                                          obtain rfl : ab' = ab := by rw [HM.out] at hvb; injection hvb with h1 h2 h3; exact h1.symm
                                          rw [HM2.out] at HFz HFc ⊢
                                          rw [HM.out] at HFa HFb ⊢
                                          have HFz' : Hid _ := HFz
                                          have HFc' : Hid _ := HFc
                                          have HFa' : Hid _ := HFa
                                          have HFb' : Hid _ := HFb
                                          clear HFz HFc HFa HFb hvb
                                          go_wp2
                                          go_loopw [26] (fun s26 wx => ∃ r mm : Nat, s26 = .int .i64 (r : Int) ∧ r ≤ q ∧ wx = W18.drewN mm) (fun s26 _ => q - (intOf s26).toNat)
                                          case atStart => exact ⟨0, 0, rfl, by omega, rfl⟩
                                          case round =>
                                            as_aux_lemma =>
                                              obtain ⟨r, mm, rfl, hrq, hwr⟩ := hrel
                                              have HWd : Hid (Below W18.heap.size W18 wr) := by rw [hwr]; exact below_drw (Below.refl _ _) mm
                                              have HWE : Hid (wr = W18.drewN mm) := hwr
                                              clear hwr
                                              by_cases hr : r < q
                                              · as_aux_lemma =>
                                                  have hrl : r < all.length := by rw [HM.out]; exact hr
                                                  have hrl2 : r < all2.length := by rw [HM2.out]; exact hr
                                                  obtain ⟨hms, hmz⟩ := HALL.out.2 _ (List.getElem_mem hrl)
                                                  obtain ⟨hms2, hmz2⟩ := HALL2.out _ (List.getElem_mem hrl2)
                                                  obtain ⟨a1, c1, e1, n1, -⟩ := (HZ18.out.on HWd.out).nv hrl2 hms2 hmz2
                                                  obtain ⟨a2, c2, e2, n2, -⟩ := (HC18.out.on HWd.out).nv hrl2 hms2 hmz2
                                                  obtain ⟨a3, c3, e3, n3, -⟩ := (HA18.out.on HWd.out).nv hrl hms hmz
                                                  obtain ⟨a4, c4, e4, n4, -⟩ := (HBb18.out.on HWd.out).nv hrl hms hmz
                                                  obtain ⟨gz, rfl, fz⟩ := HFz'.out (by omega)
                                                  obtain ⟨gc, rfl, fc⟩ := HFc'.out (by omega)
                                                  obtain ⟨ga, rfl, fa⟩ := HFa'.out (by omega)
                                                  obtain ⟨gb, rfl, fb⟩ := HFb'.out (by omega)
                                                  have d1 := (HWd.out.cell (cell_lt (fz r _ e1))).trans (fz r _ e1)
                                                  have d2 := (HWd.out.cell (cell_lt (fc r _ e2))).trans (fc r _ e2)
                                                  have d3 := (HWd.out.cell (cell_lt (fa r _ e3))).trans (fa r _ e3)
                                                  have d4 := (HWd.out.cell (cell_lt (fb r _ e4))).trans (fb r _ e4)
                                                  have q1 : ∀ nq, Calls Try.prog 11 #[.slice a1 (all2[r]'hrl2).length c1, .slice a2 (all2[r]'hrl2).length c2] (wr.drewN nq) fun e w'' => e = .returned (.bool true) ∧ ∃ m, w'' = wr.drewN m := fun nq => (nodes_same (wr.drewN nq) a1 a2 _ c1 c2 _ (n1.drw nq) (n2.drw nq)).mono (by rintro e w' ⟨rfl, m', rfl⟩; exact ⟨rfl, _, World.drewN_drewN ..⟩)
                                                  have q2 : ∀ nq, Calls Try.prog 11 #[.slice a3 (all[r]'hrl).length c3, .slice a4 (all[r]'hrl).length c4] (wr.drewN nq) fun e w'' => e = .returned (.bool true) ∧ ∃ m, w'' = wr.drewN m := fun nq => (nodes_same (wr.drewN nq) a3 a4 _ c3 c4 _ (n3.drw nq) (n4.drw nq)).mono (by rintro e w' ⟨rfl, m', rfl⟩; exact ⟨rfl, _, World.drewN_drewN ..⟩)
                                                  clear fz fc fa fb e1 e2 e3 e4 n1 n2 n3 n4 hms hmz hms2 hmz2
                                                  generalize (all2[r]'hrl2).length = l2 at d1 d2 q1
                                                  generalize (all[r]'hrl).length = l at d3 d4 q2
                                                  have HQ1 : Hid (∀ nq, Calls Try.prog 11 #[.slice a1 l2 c1, .slice a2 l2 c2] (wr.drewN nq) fun e w'' => e = .returned (.bool true) ∧ ∃ m, w'' = wr.drewN m) := q1
                                                  have HQ2 : Hid (∀ nq, Calls Try.prog 11 #[.slice a3 l c3, .slice a4 l c4] (wr.drewN nq) fun e w'' => e = .returned (.bool true) ∧ ∃ m, w'' = wr.drewN m) := q2
                                                  clear q1 q2 hrl hrl2
                                                  have hrI : (r : Int) < (q : Int) := by omega
                                                  go_wp2
                                                  go_quiet (first | (go_at_call_of 11 (Value.slice a1 l2 c1); exact HQ1.out _) | (go_at_call_of 11 (Value.slice a3 l c3); exact HQ2.out _) | fail)
                                                  go_wp2
                                                  go_roundw
                                                  case rel => exact ⟨r + 1, _, by go_num, by omega, by rw [HWE.out]; exact World.drewN_drewN ..⟩
                                                  case measure => simp [intOf]; omega
                                              · obtain rfl : r = q := by omega
                                                have hrI : ¬ (r : Int) < (r : Int) := by omega
                                                obtain ⟨W19, hW19⟩ : ∃ W19, W19 = wr := ⟨_, rfl⟩
                                                rw [← hW19] at HWd ⊢
                                                have h1819 := HWd.out.size
                                                have HLQ19 : Hid (Lent G Q G W19) := HLQ18.out.keep (HWd.out.block G HLQ18.out.lt)
                                                have HO19 : Hid (W19.ownsRow W15.heap.size 34 4 (.slice ao n co) n (nds Q)) := ownsRow_below HO18.out HWd.out (Nat.le_refl _)
                                                have HG19 : Hid (Below G w W19) := HG18.out.trans (HWd.out.mono (by omega))
                                                clear HWd HWE hW19 HZ18 HC18 HA18 HBb18 HLQ18 HO18 HG18 HFz' HFc' HFa' HFb'
                                                by_cases hi : 0 ≤ i ∧ i < (n : Int)
                                                · as_aux_lemma =>
                                                    obtain ⟨hi0, hin⟩ := hi
                                                    obtain ⟨p, rfl⟩ : ∃ p : Nat, i = (p : Int) := ⟨i.toNat, by omega⟩
                                                    have hpQ : p < Q.length := by rw [← HQn.out]; omega
                                                    obtain ⟨go, rfl, hgo⟩ := HAo.out (by omega)
                                                    obtain ⟨N, hN⟩ : ∃ N, (Q[p]'hpQ).n = N := ⟨_, rfl⟩
                                                    have hNb := HZQ.out _ (List.getElem_mem hpQ)
                                                    rw [hN] at hNb
                                                    have cg : W19.cell? ⟨G, p * 4 + 2, none⟩ = some (.int .i64 N) := by
                                                      rw [← hN]
                                                      refine (World.ownsRow.cellAt HLQ19.out (p * 4 + 2) (by omega)).trans ?_
                                                      rw [nds_get (Q ++ [mrk]) p (by simp; omega) 2 (by decide), List.getElem_append_left hpQ]
                                                      rfl
                                                    have fg := World.ownsRow.frozenAt HLQ19.out (p * 4 + 2)
                                                    have co' : W19.cell? ⟨go, p * 4 + 2, none⟩ = some (.int .i64 N) := by
                                                      rw [← hN]
                                                      exact (HO19.out.cellAt (p * 4 + 2) (by omega)).trans (nds_get Q p hpQ 2 (by decide))
                                                    have fo := HO19.out.frozenAt (p * 4 + 2)
                                                    have hgl19 : G < W19.heap.size := HLQ19.out.lt
                                                    have hne : G ≠ go := by omega
                                                    obtain ⟨N', hN', hN'b⟩ : ∃ N', wrap64 (N + 1) = N' ∧ (-9223372036854775808 ≤ N' ∧ N' ≤ 9223372036854775807) := ⟨_, rfl, by unfold wrap64; omega⟩
                                                    have HNb : Hid (-9223372036854775808 ≤ N' ∧ N' ≤ 9223372036854775807) := hN'b
                                                    have hpI : (p : Int) < (n : Int) := by omega
                                                    have HLs : Hid (Lent G (Q.set p { (Q[p]'hpQ) with n := N' }) G (W19.setCell ⟨G, p * 4 + 2, none⟩ (.int .i64 N'))) := HLQ19.out.setN hpQ N'
                                                    have HOs : Hid (((W19.setCell ⟨G, p * 4 + 2, none⟩ (.int .i64 N')).setCell ⟨go, p * 4 + 2, none⟩ (.int .i64 N')).ownsRow W15.heap.size 34 4 (.slice (some ⟨go, 0, none⟩) n co) n (nds (Q.set p { (Q[p]'hpQ) with n := N' }))) := by
                                                      have h1 := (World.ownsRow.stored (ownsRow_setCell_other HO19.out (a := ⟨G, p * 4 + 2, none⟩) (fun e => hne (by simpa [Value.ownBlock] using e.symm)) (.int .i64 N')) (p * 4 + 2) (.int .i64 N')).1
                                                      rw [nds_setN Q p hpQ N'] at h1
                                                      exact h1
                                                    clear hN'b hN hNb
                                                    go_upto_region 58 with fail
                                                    obtain ⟨X, hX⟩ : ∃ X, X = (W19.setCell ⟨G, p * 4 + 2, none⟩ (.int .i64 N')).setCell ⟨go, p * 4 + 2, none⟩ (.int .i64 N') := ⟨_, rfl⟩
                                                    have HLX : Hid (Lent G (Q.set p { (Q[p]'hpQ) with n := N' }) G X) := by rw [hX]; exact HLs.out.keep (Below.heap_setCell _ _ _ G hne)
                                                    have HOX : Hid (X.ownsRow W15.heap.size 34 4 (.slice (some ⟨go, 0, none⟩) n co) n (nds (Q.set p { (Q[p]'hpQ) with n := N' }))) := by rw [hX]; exact HOs.out
                                                    have HGX : Hid (Below G w X) := by rw [hX]; exact (HG19.out.setCell (Nat.le_refl G) _).setCell (by show G ≤ go; omega) _
                                                    have HQ3 : Hid (n = (Q.set p { (Q[p]'hpQ) with n := N' }).length ∧ ∀ x ∈ Q.set p { (Q[p]'hpQ) with n := N' }, -9223372036854775808 ≤ x.n ∧ x.n ≤ 9223372036854775807) := by
                                                      refine ⟨by rw [List.length_set]; exact HQn.out, fun x hx => ?_⟩
                                                      rcases List.mem_or_eq_of_mem_set hx with h1 | h1
                                                      · exact HZQ.out x h1
                                                      · rw [h1]; exact HNb.out
                                                    rw [← hX]
                                                    clear hX HLs HOs cg fg co' fo
                                                    generalize Q.set p { (Q[p]'hpQ) with n := N' } = Q3 at HLX HOX HQ3
                                                    have HGX3 : NV X (some ⟨G, 0, none⟩) n (n + 1) Q3 := by rw [HQ3.out.1]; exact HLX.out.nv (by rw [← HQ3.out.1]; exact hsm) HQ3.out.2
                                                    obtain ⟨a', c', heq, hnv, -⟩ := own_nv HOX.out HQ3.out.1 hsm HQ3.out.2
                                                    have ha' : a' = some ⟨go, 0, none⟩ := by injection heq with h1 h2 h3; exact h1.symm
                                                    have hc' : c' = co := by injection heq with h1 h2 h3; exact h3.symm
                                                    subst ha' hc'
                                                    have c5 := next_any X (some ⟨G, 0, none⟩) n (n + 1) (p : Int) Q3 HGX3
                                                    have c6 := nextR_any X (some ⟨go, 0, none⟩) n c' (p : Int) Q3 hnv
                                                    generalize nxtI Q3 (p : Int) = x3 at c5 c6
                                                    clear heq hnv HGX3
                                                    go_wp2_with (first | (go_at_call 5; refine Calls.mono c5 ?_; rintro ee W ⟨rfl, rfl⟩) | (go_at_call 6; refine Calls.mono c6 ?_; rintro ee W ⟨rfl, rfl⟩))
                                                    go_ret
                                                    exact ⟨by simp, HGX.out⟩
                                                · as_aux_lemma =>
                                                    have HGX3 : NV W19 (some ⟨G, 0, none⟩) n (n + 1) Q := by rw [HQn.out]; exact HLQ19.out.nv (by rw [← HQn.out]; exact hsm) HZQ.out
                                                    obtain ⟨a', c', heq, hnv, -⟩ := own_nv HO19.out HQn.out hsm HZQ.out
                                                    have ha' : a' = ao := by injection heq with h1 h2 h3; exact h1.symm
                                                    have hc' : c' = co := by injection heq with h1 h2 h3; exact h3.symm
                                                    subst ha' hc'
                                                    have c5 := next_any W19 (some ⟨G, 0, none⟩) n (n + 1) i Q HGX3
                                                    have c6 := nextR_any W19 a' n c' i Q hnv
                                                    generalize nxtI Q i = x3 at c5 c6
                                                    clear heq hnv HGX3
                                                    by_cases hi0 : 0 ≤ i
                                                    · have hin : ¬ i < (n : Int) := by omega
                                                      go_wp2_with (first | (go_at_call 5; refine Calls.mono c5 ?_; rintro ee W ⟨rfl, rfl⟩) | (go_at_call 6; refine Calls.mono c6 ?_; rintro ee W ⟨rfl, rfl⟩))
                                                      go_ret
                                                      exact ⟨by simp, HG19.out⟩
                                                    · go_wp2_with (first | (go_at_call 5; refine Calls.mono c5 ?_; rintro ee W ⟨rfl, rfl⟩) | (go_at_call 6; refine Calls.mono c6 ?_; rintro ee W ⟨rfl, rfl⟩))
                                                      go_ret
                                                      exact ⟨by simp, HG19.out⟩
end Go.Proofs.Ytcnogjmhbkbklaa
