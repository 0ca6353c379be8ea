import Derived.Test.YtfoodjhffehgpaaGreatDoorGh
import Derived.Deep.Cut
import Derived.Deep.CutRange
/-
  DERIVED. Elements laid down in any form: the law's own function.
-/
namespace Go.Proofs.YtfoodjhffehgpaaGreatDoor
open Go Go.Proofs Go.RowKit
open Wk (Nd NV goN nxt)
open Go.Sort

/-- Between two elements. -/
structure ElI (W : World) (cb bits : Nat) (L : List Nd) (x : Bool) (e : Nat) (T : List UInt8) (qe : Nat) (p g : Nat) (u : Value) (wr : World) (Z : List UInt8) (k : Nat) : Prop where
  lev : Lev L p e
  wf : Wf L false p e
  own : Ob W.heap.size wr u Z
  sum : Z ++ (fD bits L false x g k p e).1 = T
  cnt : (fD bits L false x g k p e).2 = qe
  cq : Cq wr cb bits k
  kb : k + 3 * (e - p) ≤ 900000
  bk : Bk W.heap.size cb W wr
/-- Within an element: what is there. -/
structure Ez (W : World) (cb bits : Nat) (kb : Nat) (t v z : Int) (s : ByteArray) (u : Value) (Z : List UInt8) (k : Nat) (wr : World) : Prop where
  own : Ob W.heap.size wr u Z
  cq : Cq wr cb bits k
  bk : Bk W.heap.size cb W wr
  nb : NB wr kb t v z s
  ne : kb ≠ cb

theorem Ez.on {W : World} {cb bits kb : Nat} {t v z : Int} {s : ByteArray} {u : Value} {Z : List UInt8} {k : Nat} {wr wr' : World} (h : Ez W cb bits kb t v z s u Z k wr) (hb : Below wr.heap.size wr wr') : Ez W cb bits kb t v z s u Z k wr' :=
  ⟨h.own.on hb, h.cq.on hb, h.bk.trans (Bk.of hb h.bk.size), h.nb.on hb, h.ne⟩
theorem Ez.gy {W : World} {cb bits kb : Nat} {t v z : Int} {s : ByteArray} {u u' : Value} {Z Z' : List UInt8} {k : Nat} {wr wr' : World} (h : Ez W cb bits kb t v z s u Z k wr) (hg : Gy u wr u' wr') (ho : Ob W.heap.size wr' u' Z') : Ez W cb bits kb t v z s u' Z' k wr' :=
  ⟨ho, h.cq.gy hg h.own, h.bk.trans (hg.by h.own h.bk.size).bk, (hg.cell h.own h.nb (by decide)).trans h.nb, h.ne⟩
theorem Ez.next {W : World} {cb bits kb : Nat} {t v z : Int} {s : ByteArray} {u : Value} {Z : List UInt8} {k k' : Nat} {wr wr' : World} (h : Ez W cb bits kb t v z s u Z k wr) (hb : ∀ base, Bk base cb wr wr') (hc : Cq wr' cb bits k') : Ez W cb bits kb t v z s u Z k' wr' :=
  ⟨h.own.bk (hb _) h.cq, hc, h.bk.trans (hb _), h.nb.bk (hb 0) h.ne, h.ne⟩
theorem and_hi {n : Nat} (h : n < 4294967296) : n &&& 4294901760 = n / 65536 * 65536 := by
  apply Nat.eq_of_testBit_eq
  intro j
  rw [Nat.testBit_and, show (4294901760 : Nat) = (2 ^ 16 - 1) * 2 ^ 16 from rfl, show (65536 : Nat) = 2 ^ 16 from rfl, Nat.testBit_mul_two_pow, Nat.testBit_mul_two_pow, Nat.testBit_two_pow_sub_one, Nat.testBit_div_two_pow]
  by_cases h16 : 16 ≤ j
  · by_cases h32 : j < 32
    · simp [h16, show j - 16 < 16 by omega, show j - 16 + 16 = j by omega]
    · have : n.testBit j = false := Nat.testBit_lt_two_pow (Nat.lt_of_lt_of_le h (by rw [show (4294967296 : Nat) = 2 ^ 32 from rfl]; exact Nat.pow_le_pow_right (by decide) (by omega)))
      simp [this, show j - 16 + 16 = j by omega]
  · simp [h16]

set_option maxRecDepth 100000 in
set_option maxHeartbeats 8000000 in
theorem el_step (m : Nat) (hm : ∀ q, q < m → SqC q) : ElC m := by
  intro W b off n cap L x i e cb bits q hem hV hC hbits hq hie hen hlev hwf
  have HM : Hid (∀ (W : World) (b off n cap : Nat) (L : List Nd) (x o : Bool) (i e cb bits q : Nat), e - i < m → Lz b off n cap L cb W → Cq W cb bits q → bits < 18446744073709551616 → q + 3 * (e - i) ≤ 900000 → i ≤ e → e ≤ n → Lev L i e → Wf L true i e → Calls Tryz.prog 20 #[.pointer (some ⟨cb, 0, none⟩), .slice (some ⟨b, off, none⟩) n cap, .int .i64 (i : Int), .int .i64 (e : Int), .bool x, .bool o] W (FdP W cb bits ((fD bits L true x 0 q i e).1 ++ mkO o) (fD bits L true x 0 q i e).2)) := fun W b off n cap L x o i e cb bits q h => hm (e - i) h W b off n cap L x o i e cb bits q (Nat.le_refl _)
  have HV : Hid (Lz b off n cap L cb W) := hV
  have HN : Hid (n = L.length) := hV.nv.len
  have hn40 := hV.n40
  have hcapn := hV.nv.room
  have HBT : Hid (bits < 18446744073709551616) := hbits
  have hbd := fD_bounds (bits := bits) (x := x) (g := 0) (q := q) (by rw [← hV.nv.len]; exact hen) hwf
  obtain ⟨T, hT⟩ : ∃ T, (fD bits L false x 0 q i e).1 = T := ⟨_, rfl⟩
  obtain ⟨qe, hqe⟩ : ∃ qe, (fD bits L false x 0 q i e).2 = qe := ⟨_, rfl⟩
  have HTL : Hid (T.length ≤ 1212416) := by
    have h1 := hbd.1
    rw [hT] at h1
    have h2 := hV.pv
    show T.length ≤ 1212416
    omega
  have H0 : Hid (ElI W cb bits L x e T qe i 0 (.slice none 0 0) W [] q) := ⟨hlev, hwf, World.ownsRow_nil _ _ _ _, hT, hqe, hC, hq, Bk.refl _ _ _⟩
  rw [hT, hqe]
  clear hm hV hC hbits hq hlev hwf hbd hT hqe
  go_enter Tryz.func6, Tryz.ntmps6
  go_wp2
  go_loopw [2, 11, 12] (fun x2 x11 x12 wr => ∃ (p k g : Nat) (Z : List UInt8), x2 = .int .i64 (p : Int) ∧ x12 = .int .u32 (g : Int) ∧ g < 65536 ∧ i ≤ p ∧ p ≤ e ∧ Hid (ElI W cb bits L x e T qe p g x11 wr Z k)) (fun x2 _ _ _ => n - (intOf x2).toNat)
  case atStart => exact ⟨i, q, 0, [], rfl, rfl, by decide, Nat.le_refl _, hie, H0⟩
  case round =>
    as_aux_lemma =>
      obtain ⟨p, k, g, Z, rfl, rfl, hg, hip, hpe, HI⟩ := hrel
      obtain ⟨wo, rfl⟩ : ∃ wo, wo = wr := ⟨_, rfl⟩
      obtain ⟨uo, rfl⟩ : ∃ uo, uo = u11 := ⟨_, rfl⟩
      have hZl : Z.length ≤ 1212416 := by
        have h1 := congrArg List.length HI.out.sum
        rw [List.length_append] at h1
        have := HTL.out
        omega
      have hbW : W.heap.size ≤ wo.heap.size := HI.out.bk.size
      by_cases hlt : p < e
      · have hltI : (p : Int) < (e : Int) := by omega
        have heL : e ≤ L.length := by rw [← HN.out]; exact hen
        have hpL : p < L.length := by omega
        have HLY : Hid (Lz b off n cap L cb wo) := HV.out.bk HI.out.bk HV.out.lt
        obtain ⟨b', off', hl, he, e0, e1, e2, e3⟩ := NV.cells HLY.out.nv (j := p) (by omega)
        cases he
        obtain ⟨h1, h2, h3, h4, -⟩ := HI.out.lev.next hlt heL
        obtain ⟨w1, w2, w3⟩ := HI.out.wf.next HI.out.lev hlt heL
        have w1 : elemOk (L[p]'hpL) = true := w1
        have hFE := fun (a : Nd) (ha : L[p]'hpL = a) (h18 : a.v ≠ 18) (G : List UInt8 × Nat) (hG : grp (chB bits) x g k p a.t.toNat = G) (V : Int × Nat) (hV : vrP (chB bits) x (fnd a).isSome a.v G.2 = V) => fD_elem (bits := bits) (x := x) (g := g) (q := k) HI.out.lev hlt heL (by rw [ha]; exact h18) ha hG hV
        have hFS := fun (a : Nd) (ha : L[p]'hpL = a) (h18 : a.v = 18) (G : List UInt8 × Nat) (hG : grp (chB bits) x g k p a.t.toNat = G) (o : Bool) (ho : (chB bits G.2 || (!x && !(fnd a).isSome)) = o) (V : Int × Nat) (hV : vrS (chB bits) (stB (sub L p (nxt L p))) x (fnd a).isSome o (G.2 + 1) = V) (I : List UInt8 × Nat) (hI : fD bits L true (x && decide (V.1 = 18)) 0 V.2 (p + 1) (nxt L p) = I) => fD_seq (bits := bits) (x := x) (g := g) (q := k) HI.out.lev hlt heL (by rw [ha]; exact h18) ha hG ho hV hI
        have htg := HV.out.tg _ (List.getElem_mem hpL)
        obtain ⟨hv1, hv28, hss⟩ := elem_vr w1
        obtain ⟨a, ha⟩ : ∃ a, L[p]'hpL = a := ⟨_, rfl⟩
        rw [ha] at e0 e1 e2 e3 htg hv1 hv28 hss w1
        have hFE := hFE a ha
        have hFS := hFS a ha
        obtain ⟨t, v, z, s⟩ := a
        simp only at e0 e1 e2 e3 htg hv1 hv28 hss hFE hFS
        obtain ⟨tn, rfl⟩ : ∃ tn : Nat, t = (tn : Int) := ⟨t.toNat, by omega⟩
        have htn : tn < 4294967296 := by omega
        obtain ⟨nx, hnx⟩ : ∃ nx, nxt L p = nx := ⟨_, rfl⟩
        simp only [hnx] at h1 h2 h3 h4 w2 w3 hFE hFS
        obtain ⟨W1, hW1⟩ : ∃ W1, wo.alloc (.cells #[.int .u32 (tn : Int), .int .i64 v, .int .i64 z, .string s] 48) = W1 := ⟨_, rfl⟩
        have hb1 : Below wo.heap.size wo W1 := by rw [← hW1]; exact (Below.refl _ _).alloc (Nat.le_refl _) _
        have cn := Wk.nextR_in W1 (some ⟨b, off, none⟩) n cap p L (HLY.out.nv.on hb1) (by omega) (by omega)
        rw [hnx] at cn
        have HE1 : Hid (Ez W cb bits wo.heap.size (tn : Int) v z s uo Z k W1) := ⟨HI.out.own.on hb1, HI.out.cq.on hb1, HI.out.bk.trans (Bk.of hb1 hbW), by rw [← hW1]; exact Wk.heap_new wo _, fun e => by have := HI.out.cq.lt; omega⟩
        obtain ⟨kb, hkb⟩ : ∃ kb, wo.heap.size = kb := ⟨_, rfl⟩
        rw [hkb] at HE1
        obtain ⟨y0, y1, y2, y3⟩ := HE1.out.nb.nc
        clear hb1 hnx
        go_upto_region 6 with (first | (go_at_call 13; refine cn.mono ?_; rintro ee w' ⟨rfl, rfl⟩) | fail)
        obtain ⟨G, hG⟩ : ∃ G, grp (chB bits) x g k p tn = G := ⟨_, rfl⟩
        have hGq := grp_q (chB bits) x g k p tn
        rw [hG] at hGq
        have HG : Hid (grp (chB bits) x g k p tn = G) := hG
        have hkk := HI.out.kb
        have hk6 : k < 1000000 := by omega
        clear cn hG e0 e1 e2 e3 hW1
        go_cut [41] from 23 to 147 (fun s41 wx => ∃ ts : Bool, s41 = .bool ts ∧ Hid (Ez W cb bits kb (tn : Int) v z s uo Z G.2 wx) ∧ Hid (G.1 = if ts = true then hdX x (tn / 65536 * 65536) 24 4 ++ le 4 (p * 77) else []))
        case first =>
          as_aux_lemma =>
            by_cases hgE : tn / 65536 = g
            · have bg : (((tn : Int) / 65536) != (g : Int)) = false := by simp; omega
              have hg2 : G = ([], k) := by rw [← HG.out]; unfold grp; rw [if_pos hgE]
              go_wp2
              go_meet
              case rel =>
                refine ⟨false, rfl, ?_, ?_⟩
                · rw [hg2]; exact HE1.out
                · rw [hg2]; rfl
            · have bg : (((tn : Int) / 65536) != (g : Int)) = true := by simp; omega
              go_wp2_with (go_at_call 14; refine StopG.out ?_)
              refine ⟨Calls.mono (next_any _ cb bits k HE1.out.cq HBT.out hk6) ?_⟩
              rintro ee W2 ⟨rfl, hc2, hb2⟩
              have hg2 : G = (if chB bits k = true then hdX x (tn / 65536 * 65536) 24 4 ++ le 4 (p * 77) else [], k + 1) := by rw [← HG.out]; unfold grp; rw [if_neg hgE]
              have HE2 : Hid (Ez W cb bits kb (tn : Int) v z s uo Z (k + 1) W2) := ⟨HE1.out.own.bk (hb2.out _) HE1.out.cq, hc2.out, HE1.out.bk.trans (hb2.out _), HE1.out.nb.bk (hb2.out 0) HE1.out.ne, HE1.out.ne⟩
              go_wp2_with fail
              go_meet
              case rel =>
                refine ⟨chB bits k, rfl, ?_, ?_⟩
                · rw [hg2]; exact HE2.out
                · rw [hg2]; rfl
        case rest =>
          as_aux_lemma =>
            obtain ⟨ts, rfl, HE2, HG1⟩ := hcut
            have hs2 : W.heap.size ≤ wc.heap.size := HE2.out.bk.size
            have hand : Go.bits .and .u32 (tn : Int) 4294901760 = ((tn / 65536 * 65536 : Nat) : Int) := by
              have := u32_and_nat tn 4294901760 htn (by decide)
              rw [and_hi htn] at this
              exact this
            have hpi : ((p * 77 : Nat) : Int) = (p : Int) * 77 := by omega
            clear y0 y1 y2 y3 HE1
            obtain ⟨y0, y1, y2, y3⟩ := HE2.out.nb.nc
            go_upto_if 41 with fail
            go_cut [11] from 23 to 147 (fun s11 wx => Hid (Ez W cb bits kb (tn : Int) v z s s11 (Z ++ G.1) G.2 wx))
            case first =>
              as_aux_lemma =>
                cases ts with
                | false =>
                  go_wp2
                  go_meet
                  case rel =>
                    have e : G.1 = [] := HG1.out
                    rw [e, List.append_nil]
                    exact HE2
                | true =>
                  have HG2 : Hid (G.1 = hdX x (tn / 65536 * 65536) 24 4 ++ le 4 (p * 77)) := HG1.out
                  have cH := headX_gy x wc W.heap.size uo Z (tn / 65536 * 65536) 4 (by omega) (by decide) 24 (by decide) HE2.out.own hs2 (by omega)
                  rw [show ((tn / 65536 * 65536 : Nat) : Int) = (tn : Int) / 65536 * 65536 by omega] at cH
                  go_wp2_with (go_at_call 15; refine StopG.out ?_)
                  refine ⟨Calls.mono cH ?_⟩
                  rintro ee W3 ⟨u3, rfl, ho3, hg3⟩
                  have HE3 : Hid (Ez W cb bits kb (tn : Int) v z s u3 (Z ++ hdX x (tn / 65536 * 65536) 24 4) G.2 W3) := HE2.out.gy hg3.out ho3.out
                  have hs3 : W.heap.size ≤ W3.heap.size := HE3.out.bk.size
                  have cu := u32_gy W3 W.heap.size u3 _ (p * 77) (by omega) HE3.out.own hs3 (by rw [List.length_append, hdX_len (by decide)]; have := hzX_ev x 24; omega)
                  rw [hpi] at cu
                  clear y0 y1 y2 y3 ho3 hg3
                  go_wp2_with (go_at_call 16; refine StopG.out ?_)
                  refine ⟨Calls.mono cu ?_⟩
                  rintro ee W4 ⟨u4, rfl, ho4, hg4⟩
                  have HE4 : Hid (Ez W cb bits kb (tn : Int) v z s u4 (Z ++ G.1) G.2 W4) := by
                    rw [HG2.out, ← List.append_assoc]
                    exact HE3.out.gy hg4.out ho4.out
                  clear cu ho4 hg4
                  go_wp2_with fail
                  go_meet
                  case rel => exact HE4
            case rest =>
              as_aux_lemma =>
                obtain ⟨u1, rfl⟩ : ∃ u1, u1 = u11 := ⟨_, rfl⟩
                obtain ⟨wd, rfl⟩ : ∃ wd, wd = wc := ⟨_, rfl⟩
                have HE5 : Hid (Ez W cb bits kb (tn : Int) v z s u1 (Z ++ G.1) G.2 wd) := hcut
                have hGl : G.1.length ≤ 12 := by
                  have := grp_ev (chB bits) x g k p tn
                  rw [HG.out] at this
                  omega
                clear hcut y0 y1 y2 y3 HE2 HG1 hand
                obtain ⟨y0, y1, y2, y3⟩ := HE5.out.nb.nc
                have cF := Tb.rfind_any wd tn htn
                obtain ⟨O, hO⟩ : ∃ O, Tb.docF tn (Tb.upTo 10) = O := ⟨_, rfl⟩
                obtain ⟨kn, hkn⟩ : ∃ kn, O.isSome = kn := ⟨_, rfl⟩
                have HKN : Hid ((fnd ⟨(tn : Int), v, z, s⟩).isSome = kn) := by
                  show (Tb.docF ((tn : Int)).toNat (Tb.upTo 10)).isSome = kn
                  rw [show ((tn : Int)).toNat = tn from rfl, hO]
                  exact hkn
                rw [hO, hkn] at cF
                clear hO hkn
                go_wp2_with (go_at_call 17; refine StopG.out ?_)
                refine ⟨Calls.mono cF ?_⟩
                rintro ee W6 ⟨rfl, hb6⟩
                obtain ⟨W7, hW7⟩ : ∃ W7, W6.alloc (.cells #[.int .u32 (Tb.eT O), .int .u32 (Tb.eM O), .int .i64 (Tb.eV O), .string (Tb.eS O), .int .i64 (Tb.eL O), .int .i64 (Tb.eN O)] 58) = W7 := ⟨_, rfl⟩
                have hb7 : Below W6.heap.size W6 W7 := by rw [← hW7]; exact (Below.refl _ _).alloc (Nat.le_refl _) _
                have HE7 : Hid (Ez W cb bits kb (tn : Int) v z s u1 (Z ++ G.1) G.2 W7) := (HE5.out.on hb6).on hb7
                clear y0 y1 y2 y3 hb6 hb7 cF HE5
                obtain ⟨y0, y1, y2, y3⟩ := HE7.out.nb.nc
                have hgn : ((tn / 65536 : Nat) : Int) = (tn : Int) / 65536 := by omega
                have hg65 : tn / 65536 < 65536 := by omega
                by_cases hv : v = 18
                · have HV18 : Hid (v = 18) := hv
                  have bv : (v != 18) = false := by rw [hv]; rfl
                  obtain ⟨c1, hc1⟩ : ∃ c1, chB bits G.2 = c1 := ⟨_, rfl⟩
                  obtain ⟨o, ho⟩ : ∃ o, (c1 || (!x && !kn)) = o := ⟨_, rfl⟩
                  obtain ⟨sb, hsb⟩ : ∃ sb, stB (sub L p nx) = sb := ⟨_, rfl⟩
                  obtain ⟨V, hVV⟩ : ∃ V, vrS (chB bits) sb x kn o (G.2 + 1) = V := ⟨_, rfl⟩
                  obtain ⟨xi, hxi⟩ : ∃ xi, (x && decide (V.1 = 18)) = xi := ⟨_, rfl⟩
                  obtain ⟨I, hI⟩ : ∃ I, fD bits L true xi 0 V.2 (p + 1) nx = I := ⟨_, rfl⟩
                  have HF := hFS hv G HG.out o (by rw [HKN.out, hc1]; exact ho) V (by rw [hsb, HKN.out]; exact hVV) I (by rw [hxi]; exact hI)
                  have HFS : Hid _ := HF
                  have hVk := vrS_ok (chB bits) sb x kn o (G.2 + 1)
                  have hVq := vrS_q (chB bits) sb x kn o (G.2 + 1)
                  rw [hVV] at hVk hVq
                  have HVV : Hid (vrS (chB bits) sb x kn o (G.2 + 1) = V ∧ stB (sub L p nx) = sb ∧ chB bits G.2 = c1 ∧ (c1 || (!x && !kn)) = o) := ⟨hVV, hsb, hc1, ho⟩
                  have HXI : Hid ((x && decide (V.1 = 18)) = xi) := hxi
                  have hV1 := hVk.1
                  have hG6 : G.2 < 1000000 := by omega
                  have hG7 : G.2 + 1 < 1000000 := by omega
                  have w2 : Wf L true (p + 1) nx := w2
                  have hbd := fD_bounds (bits := bits) (x := xi) (g := 0) (q := V.2) (show nx ≤ L.length by omega) w2
                  rw [hI] at hbd
                  have hpv := HV.out.pv
                  have hIl : I.1.length ≤ 1212416 := by omega
                  have HNX : Hid (Lev L nx e ∧ Wf L false nx e ∧ I.2 + 3 * (e - nx) ≤ 900000) := ⟨h4, w3, by omega⟩
                  have HSQ : Hid (∀ wx, Lz b off n cap L cb wx → Cq wx cb bits V.2 → Calls Tryz.prog 20 #[.pointer (some ⟨cb, 0, none⟩), .slice (some ⟨b, off, none⟩) n cap, .int .i64 ((p : Int) + 1), .int .i64 (nx : Int), .bool xi, .bool o] wx (FdP wx cb bits (I.1 ++ mkO o) I.2)) := fun wx hz hc => by
                    have := HM.out wx b off n cap L xi o (p + 1) nx cb bits V.2 (by omega) hz hc HBT.out (by omega) (by omega) (by omega) h3 w2
                    rw [hI, show ((p + 1 : Nat) : Int) = (p : Int) + 1 by omega] at this
                    exact this
                  have HLZ : Hid (∀ wx, Bk W.heap.size cb W wx → Lz b off n cap L cb wx) := fun wx h => HV.out.bk h HV.out.lt
                  have hnxe : nx ≤ e := h1
                  have hpnx : p < nx := h2
                  have hpc : p < cap := by omega
                  have hpc1 : ¬ (cap : Int) = (p : Int) := by omega
                  have hpc2 : ¬ (p : Int) = (cap : Int) := by omega
                  clear HF hVk hVV hsb hc1 ho hxi hI hFE hFS h3 h4 w2 w3 w1 hbd hpv hv
                  go_upto_region 19 with fail
                  clear hW7
                  go_cut [19] from 23 to 147 (fun s19 wx => s19 = .bool o ∧ Hid (Ez W cb bits kb (tn : Int) v z s u1 (Z ++ G.1) (G.2 + 1) wx))
                  case first =>
                    as_aux_lemma =>
                      go_wp2_with (go_at_call 14; refine StopG.out ?_)
                      refine ⟨Calls.mono (next_any _ cb bits G.2 HE7.out.cq HBT.out hG6) ?_⟩
                      rintro ee W9 ⟨rfl, hc9, hb9⟩
                      rw [HVV.out.2.2.1]
                      have HE9 : Hid (Ez W cb bits kb (tn : Int) v z s u1 (Z ++ G.1) (G.2 + 1) W9) := HE7.out.next hb9.out hc9.out
                      have ho := HVV.out.2.2.2
                      cases c1 <;> cases x <;> cases kn
                      all_goals (
                        go_wp2_with fail
                        go_meet
                        case rel => exact ⟨by rw [← ho]; rfl, HE9⟩)
                  case rest =>
                    as_aux_lemma =>
                      obtain ⟨rfl, HE9⟩ := hcut
                      obtain ⟨wf, rfl⟩ : ∃ wf, wf = wc := ⟨_, rfl⟩
                      have HST : Hid (NV wf (some ⟨b, off + p * 4, none⟩) (nx - p) (cap - p) (sub L p nx) ∧ TagsOk (sub L p nx)) := ⟨NV.part (HLZ.out wf HE9.out.bk).nv (i := p) (e := nx) (by omega) (by omega) _ (fun _ => rfl), fun y hy => HV.out.tg y (sub_mem hy)⟩
                      go_upto_region 21 with fail
                      go_cut [120] from 23 to 147 (fun s120 wx => ∃ ts : Bool, s120 = .bool ts ∧ Hid (Ez W cb bits kb (tn : Int) v z s u1 (Z ++ G.1) V.2 wx) ∧ Hid (V.1 = if ts = true then 25 else 18))
                      case first =>
                        as_aux_lemma =>
                          cases x with
                          | false =>
                            have e : V = (18, G.2 + 1) := by rw [← HVV.out.1]; rfl
                            go_wp2
                            go_meet
                            case rel => exact ⟨false, rfl, by rw [e]; exact HE9.out, by rw [e]; rfl⟩
                          | true =>
                            have cst := stable_any wf (some ⟨b, off + p * 4, none⟩) (nx - p) (cap - p) (sub L p nx) HST.out.1 HST.out.2
                            rw [HVV.out.2.1] at cst
                            go_wp2_with (go_at_call 19; refine StopG.out ?_)
                            refine ⟨Calls.mono cst ?_⟩
                            rintro ee Wg ⟨rfl, hbg⟩
                            have HEg : Hid (Ez W cb bits kb (tn : Int) v z s u1 (Z ++ G.1) (G.2 + 1) Wg) := HE9.out.on hbg
                            clear cst hbg
                            cases sb with
                            | false =>
                              have e : V = (18, G.2 + 1) := by rw [← HVV.out.1]; rfl
                              go_wp2_with fail
                              go_meet
                              case rel => exact ⟨false, rfl, by rw [e]; exact HEg.out, by rw [e]; rfl⟩
                            | true =>
                              obtain ⟨c2, hc2⟩ : ∃ c2, chB bits (G.2 + 1) = c2 := ⟨_, rfl⟩
                              have e : V = (if (c2 && (kn || o)) = true then 25 else 18, G.2 + 2) := by rw [← HVV.out.1, ← hc2]; rfl
                              have HE : Hid (V = (if (c2 && (kn || o)) = true then 25 else 18, G.2 + 2)) := e
                              clear e
                              go_wp2_with (go_at_call 14; refine StopG.out ?_)
                              refine ⟨Calls.mono (next_any _ cb bits (G.2 + 1) HEg.out.cq HBT.out hG7) ?_⟩
                              rintro ee Wh ⟨rfl, hch, hbh⟩
                              rw [hc2]
                              have HEh : Hid (Ez W cb bits kb (tn : Int) v z s u1 (Z ++ G.1) (G.2 + 2) Wh) := HEg.out.next hbh.out hch.out
                              clear hch hbh hc2
                              cases c2 <;> cases kn <;> cases o
                              all_goals (
                                go_wp2_with fail
                                go_meet
                                case rel => exact ⟨_, rfl, by rw [HE.out]; exact HEh.out, by rw [HE.out]; rfl⟩)
                      case rest =>
                        as_aux_lemma =>
                          obtain ⟨ts, rfl, HEi, HV1⟩ := hcut
                          obtain ⟨wh, rfl⟩ : ∃ wh, wh = wc := ⟨_, rfl⟩
                          go_upto_if 120 with fail
                          go_cut [20] from 23 to 147 (fun s20 wx => s20 = .int .i64 V.1 ∧ wx = wh)
                          case first =>
                            as_aux_lemma =>
                              cases ts with
                              | false =>
                                go_wp2
                                go_meet
                                case rel => exact ⟨by rw [HV1.out]; rfl, rfl⟩
                              | true =>
                                go_wp2
                                go_meet
                                case rel => exact ⟨by rw [HV1.out]; rfl, rfl⟩
                          case rest =>
                            as_aux_lemma =>
                              obtain ⟨rfl, rfl⟩ := hcut
                              have HSEQ : Hid _ := HSQ.out wc (HLZ.out wc HEi.out.bk) HEi.out.cq
                              obtain ⟨vb, hvb⟩ : ∃ vb, (V.1 == 18) = vb := ⟨_, rfl⟩
                              have HXB : Hid ((x && vb) = xi) := by
                                have h := HXI.out
                                rw [← hvb]
                                rw [← h]
                                rfl
                              have hs6 : W.heap.size ≤ wc.heap.size := HEi.out.bk.size
                              obtain ⟨wj, hwj⟩ : ∃ wj, wj = wc := ⟨_, rfl⟩
                              rw [← hwj] at HEi hs6 HSEQ ⊢
                              clear hwj
                              go_upto_region 23 with fail
                              go_cut [21] from 23 to 147 (fun s21 wx => Hid (Ez W cb bits kb (tn : Int) v z s u1 (Z ++ G.1) I.2 wx ∧ Ob wj.heap.size wx s21 (I.1 ++ mkO o) ∧ (s21.ownBlock = none ∨ s21.ownBlock ≠ u1.ownBlock)))
                              case first =>
                                as_aux_lemma =>
                                  cases x <;> cases vb
                                  all_goals (
                                    have hxx := HXB.out
                                    subst hxx
                                    go_wp2_with (go_at_call 20; refine StopG.out ?_)
                                    refine ⟨Calls.mono HSEQ.out ?_⟩
                                    rintro ee Wj ⟨ui, rfl, hoi, hci, hbi⟩
                                    have HEj : Hid (Ez W cb bits kb (tn : Int) v z s u1 (Z ++ G.1) I.2 Wj ∧ Ob wj.heap.size Wj ui (I.1 ++ mkO o) ∧ (ui.ownBlock = none ∨ ui.ownBlock ≠ u1.ownBlock)) := ⟨⟨HEi.out.own.bk hbi.out HEi.out.cq, hci.out, HEi.out.bk.trans (hbi.out.mono hs6), HEi.out.nb.bk hbi.out HEi.out.ne, HEi.out.ne⟩, hoi.out, ne_own HEi.out.own hoi.out⟩
                                    clear hoi hci hbi
                                    go_wp2_with fail
                                    go_meet
                                    case rel => exact HEj)
                              case rest =>
                                as_aux_lemma =>
                                  obtain ⟨ui, rfl⟩ : ∃ ui, ui = u21 := ⟨_, rfl⟩
                                  obtain ⟨wk, rfl⟩ : ∃ wk, wk = wc := ⟨_, rfl⟩
                                  obtain ⟨Y, hYe⟩ : ∃ Y, I.1 ++ mkO o = Y := ⟨_, rfl⟩
                                  have HYe : Hid (I.1 ++ mkO o = Y) := hYe
                                  rw [hYe] at hcut
                                  have HEs : Hid (Ez W cb bits kb (tn : Int) v z s u1 (Z ++ G.1) I.2 wk) := hcut.out.1
                                  have HOs : Hid (Ob wj.heap.size wk ui Y ∧ (ui.ownBlock = none ∨ ui.ownBlock ≠ u1.ownBlock)) := hcut.out.2
                                  have hYl : Y.length ≤ 1212424 := by rw [← hYe, List.length_append]; unfold mkO; split <;> simp only [plL_len, List.length_nil] <;> omega
                                  have hsX : W.heap.size ≤ wk.heap.size := HEs.out.bk.size
                                  clear hcut hYe y0 y1 y2 y3
                                  obtain ⟨y0, y1, y2, y3⟩ := HEs.out.nb.nc
                                  rcases ob_form HOs.out.1 with ⟨hui, hY⟩ | ⟨gi, ci, hui, -⟩
                                  · subst hui
                                    have HY0 : Hid (Y = []) := hY
                                    cases o with
                                    | true =>
                                      exfalso
                                      have h2 := HYe.out
                                      rw [hY] at h2
                                      have h3 := congrArg List.length (List.append_eq_nil_iff.1 h2).2
                                      rw [show mkO true = plL 4294893789 0 from rfl, plL_len] at h3
                                      cases h3
                                    | false =>
                                      have cH := headX_gy x wk W.heap.size u1 (Z ++ G.1) tn 0 htn (by omega) V.1 hV1 HEs.out.own hsX (by rw [List.length_append]; omega)
                                      go_wp2_with (go_at_call 15; refine StopG.out ?_)
                                      refine ⟨Calls.mono cH ?_⟩
                                      rintro ee Wa ⟨ua, rfl, hoa, hga⟩
                                      have HEa : Hid (Ez W cb bits kb (tn : Int) v z s ua (Z ++ G.1 ++ hdX x tn V.1 0) I.2 Wa) := HEs.out.gy hga.out hoa.out
                                      have hsa : W.heap.size ≤ Wa.heap.size := HEa.out.bk.size
                                      obtain ⟨Za, hZa⟩ : ∃ Za, Z ++ G.1 ++ hdX x tn V.1 0 = Za := ⟨_, rfl⟩
                                      have HZa : Hid (Z ++ G.1 ++ hdX x tn V.1 0 = Za) := hZa
                                      have hZal : Za.length ≤ 1300000 := by rw [← hZa, List.length_append, List.length_append, hdX_len hV1]; have := hzX_ev x V.1; omega
                                      rw [hZa] at HEa
                                      clear y0 y1 y2 y3 hoa hga cH hZa
                                      have HR : Hid (ElI W cb bits L x e T qe nx (tn / 65536) ua Wa Za I.2) := by
                                        refine ⟨HNX.out.1, HNX.out.2.1, HEa.out.own, ?_, ?_, HEa.out.cq, HNX.out.2.2, HEa.out.bk⟩
                                        · have h1 := HI.out.sum
                                          rw [HFS.out] at h1
                                          have h2 := HYe.out
                                          rw [hY] at h2
                                          obtain ⟨hI0, hm0⟩ := List.append_eq_nil_iff.1 h2
                                          rw [← h1, ← HZa.out, hI0]
                                          simp [List.append_assoc]
                                        · have h1 := HI.out.cnt
                                          rw [HFS.out] at h1
                                          exact h1
                                      go_wp2_with (at_builtin; refine StopG.out ?_)
                                      refine ⟨wpList_append_own_none rfl (.tmp 144) (.tmp 145) 31 rfl W.heap.size 5 _ 1 Tryz.underlying31 (info_parts info8).choose_spec.1 ua Za.length (bvs Za) rfl HEa.out.own rfl ?_⟩
                                      go_wp2
                                      go_roundw
                                      case rel => exact ⟨nx, I.2, tn / 65536, _, rfl, by rw [hgn], hg65, by omega, hnxe, HR⟩
                                      case measure => simp [intOf]; omega
                                  · subst hui
                                    cases o with
                                    | true =>
                                      have cH := headX_gy x wk W.heap.size u1 (Z ++ G.1) tn 4294967295 htn (by omega) V.1 hV1 HEs.out.own hsX (by rw [List.length_append]; omega)
                                      go_wp2_with (go_at_call 15; refine StopG.out ?_)
                                      refine ⟨Calls.mono cH ?_⟩
                                      rintro ee Wa ⟨ua, rfl, hoa, hga⟩
                                      have HEa : Hid (Ez W cb bits kb (tn : Int) v z s ua (Z ++ G.1 ++ hdX x tn V.1 4294967295) I.2 Wa) := HEs.out.gy hga.out hoa.out
                                      have hsa : W.heap.size ≤ Wa.heap.size := HEa.out.bk.size
                                      have HIa : Hid (Ob wj.heap.size Wa (.slice (some ⟨gi, 0, none⟩) Y.length ci) Y) := hga.out.ob HOs.out.1 HOs.out.2
                                      obtain ⟨Za, hZa⟩ : ∃ Za, Z ++ G.1 ++ hdX x tn V.1 4294967295 = Za := ⟨_, rfl⟩
                                      have HZa : Hid (Z ++ G.1 ++ hdX x tn V.1 4294967295 = Za) := hZa
                                      have hZal : Za.length ≤ 1300000 := by rw [← hZa, List.length_append, List.length_append, hdX_len hV1]; have := hzX_ev x V.1; omega
                                      rw [hZa] at HEa
                                      clear y0 y1 y2 y3 hoa hga cH hZa
                                      obtain ⟨hcell⟩ : Nonempty (∀ j v, (bvs Y)[j]? = some v → Wa.cell? ((⟨gi, 0, none⟩ : Addr).add j) = some v) := by
                                        rcases ob_form HIa.out with ⟨e, -⟩ | ⟨g', c', e, hc⟩
                                        · cases e
                                        · cases e
                                          exact ⟨hc⟩
                                      go_wp2_with (at_builtin; refine StopG.out ?_)
                                      refine ⟨app_bytes rfl (.tmp 144) (.tmp 145) rfl W.heap.size _ _ rfl HEa.out.own ⟨gi, 0, none⟩ Y.length ci Y rfl rfl hcell (by omega) hsa ?_⟩
                                      intro ub Wb hob hbb
                                      have HR : Hid (ElI W cb bits L x e T qe nx (tn / 65536) ub Wb (Za ++ Y) I.2) := by
                                        refine ⟨HNX.out.1, HNX.out.2.1, hob, ?_, ?_, HEa.out.cq.by hbb, HNX.out.2.2, HEa.out.bk.trans hbb.bk⟩
                                        · have h1 := HI.out.sum
                                          rw [HFS.out] at h1
                                          rw [← h1, ← HZa.out, ← HYe.out]
                                          simp [List.append_assoc, mkO]
                                        · have h1 := HI.out.cnt
                                          rw [HFS.out] at h1
                                          exact h1
                                      clear hob hbb hcell
                                      go_wp2
                                      go_roundw
                                      case rel => exact ⟨nx, I.2, tn / 65536, _, rfl, by rw [hgn], hg65, by omega, hnxe, HR⟩
                                      case measure => simp [intOf]; omega
                                    | false =>
                                      have cH := headX_gy x wk W.heap.size u1 (Z ++ G.1) tn Y.length htn (by omega) V.1 hV1 HEs.out.own hsX (by rw [List.length_append]; omega)
                                      go_wp2_with (go_at_call 15; refine StopG.out ?_)
                                      refine ⟨Calls.mono cH ?_⟩
                                      rintro ee Wa ⟨ua, rfl, hoa, hga⟩
                                      have HEa : Hid (Ez W cb bits kb (tn : Int) v z s ua (Z ++ G.1 ++ hdX x tn V.1 Y.length) I.2 Wa) := HEs.out.gy hga.out hoa.out
                                      have hsa : W.heap.size ≤ Wa.heap.size := HEa.out.bk.size
                                      have HIa : Hid (Ob wj.heap.size Wa (.slice (some ⟨gi, 0, none⟩) Y.length ci) Y) := hga.out.ob HOs.out.1 HOs.out.2
                                      obtain ⟨Za, hZa⟩ : ∃ Za, Z ++ G.1 ++ hdX x tn V.1 Y.length = Za := ⟨_, rfl⟩
                                      have HZa : Hid (Z ++ G.1 ++ hdX x tn V.1 Y.length = Za) := hZa
                                      have hZal : Za.length ≤ 1300000 := by rw [← hZa, List.length_append, List.length_append, hdX_len hV1]; have := hzX_ev x V.1; omega
                                      rw [hZa] at HEa
                                      clear y0 y1 y2 y3 hoa hga cH hZa
                                      obtain ⟨hcell⟩ : Nonempty (∀ j v, (bvs Y)[j]? = some v → Wa.cell? ((⟨gi, 0, none⟩ : Addr).add j) = some v) := by
                                        rcases ob_form HIa.out with ⟨e, -⟩ | ⟨g', c', e, hc⟩
                                        · cases e
                                        · cases e
                                          exact ⟨hc⟩
                                      go_wp2_with (at_builtin; refine StopG.out ?_)
                                      refine ⟨app_bytes rfl (.tmp 144) (.tmp 145) rfl W.heap.size _ _ rfl HEa.out.own ⟨gi, 0, none⟩ Y.length ci Y rfl rfl hcell (by omega) hsa ?_⟩
                                      intro ub Wb hob hbb
                                      have HR : Hid (ElI W cb bits L x e T qe nx (tn / 65536) ub Wb (Za ++ Y) I.2) := by
                                        refine ⟨HNX.out.1, HNX.out.2.1, hob, ?_, ?_, HEa.out.cq.by hbb, HNX.out.2.2, HEa.out.bk.trans hbb.bk⟩
                                        · have h1 := HI.out.sum
                                          rw [HFS.out] at h1
                                          rw [← h1, ← HZa.out, ← HYe.out]
                                          simp [List.append_assoc, mkO]
                                        · have h1 := HI.out.cnt
                                          rw [HFS.out] at h1
                                          exact h1
                                      clear hob hbb hcell
                                      go_wp2
                                      go_roundw
                                      case rel => exact ⟨nx, I.2, tn / 65536, _, rfl, by rw [hgn], hg65, by omega, hnxe, HR⟩
                                      case measure => simp [intOf]; omega
                · have bv : (v != 18) = true := by simp [hv]
                  obtain ⟨P, hP⟩ : ∃ P, Rp.padB (Rp.pd (Rp.vn v)) s = P := ⟨_, rfl⟩
                  have cP := fun Wx => Rp.rpad_any Wx v s (by omega)
                  rw [hP] at cP
                  have hPs : P.size ≤ 65536 := by
                    have h1 : P.size = (pvL v s).length := by rw [← hP, pvL, Array.length_toList]; rfl
                    rw [h1, pvL_len]
                    omega
                  have HPV : Hid (pvL v s = P.data.toList) := by show _ = _; rw [← hP]; rfl
                  obtain ⟨V, hVV⟩ : ∃ V, vrP (chB bits) x kn v G.2 = V := ⟨_, rfl⟩
                  have HF := hFE hv G HG.out V (by rw [HKN.out]; exact hVV)
                  have HFE : Hid _ := HF
                  have hVk := vrP_ok (chB bits) x kn v G.2 ⟨hv1, hv28⟩
                  have hVq := vrP_q (chB bits) x kn v G.2
                  rw [hVV] at hVk hVq
                  have HVV : Hid (vrP (chB bits) x kn v G.2 = V) := hVV
                  have hV1 := hVk.1
                  have hG6 : G.2 < 1000000 := by omega
                  have HNX : Hid (Lev L nx e ∧ Wf L false nx e ∧ V.2 + 3 * (e - nx) ≤ 900000) := ⟨h4, w3, by omega⟩
                  have hnxe : nx ≤ e := h1
                  have hpnx : p < nx := h2
                  clear HF hVk hVV hP hFE hFS h3 h4 w2 w3 w1
                  go_upto_region 14 with (first | (go_at_call 18; refine Calls.mono (cP _) ?_; rintro ee W8 ⟨rfl, hb8⟩; obtain ⟨r0, r1, r2, r3⟩ := (HE7.out.on hb8).nb.nc) | fail)
                  have HE8 : Hid (Ez W cb bits kb (tn : Int) v z s u1 (Z ++ G.1) G.2 W8) := HE7.out.on hb8
                  clear y0 y1 y2 y3 hb8 cP hW7
                  go_cut [79] from 23 to 147 (fun s79 wx => ∃ ts : Bool, s79 = .bool ts ∧ Hid (Ez W cb bits kb (tn : Int) v z s u1 (Z ++ G.1) V.2 wx) ∧ Hid (V.1 = if ts = true then 25 else v))
                  case first =>
                    as_aux_lemma =>
                      cases x with
                      | false =>
                        have e : V = (v, G.2) := by rw [← HVV.out]; rfl
                        go_wp2
                        go_meet
                        case rel => exact ⟨false, rfl, by rw [e]; exact HE8.out, by rw [e]; rfl⟩
                      | true =>
                        cases kn with
                        | false =>
                          have e : V = (v, G.2) := by rw [← HVV.out]; rfl
                          go_wp2
                          go_meet
                          case rel => exact ⟨false, rfl, by rw [e]; exact HE8.out, by rw [e]; rfl⟩
                        | true =>
                          have e : V = (if chB bits G.2 = true then 25 else v, G.2 + 1) := by rw [← HVV.out]; rfl
                          go_wp2_with (go_at_call 14; refine StopG.out ?_)
                          refine ⟨Calls.mono (next_any _ cb bits G.2 HE8.out.cq HBT.out hG6) ?_⟩
                          rintro ee W9 ⟨rfl, hc9, hb9⟩
                          have HE9 : Hid (Ez W cb bits kb (tn : Int) v z s u1 (Z ++ G.1) (G.2 + 1) W9) := HE8.out.next hb9.out hc9.out
                          go_wp2_with fail
                          go_meet
                          case rel => exact ⟨chB bits G.2, rfl, by rw [e]; exact HE9.out, by rw [e]; rfl⟩
                  case rest =>
                    as_aux_lemma =>
                      obtain ⟨ts, rfl, HE9, HV1⟩ := hcut
                      obtain ⟨we, rfl⟩ : ∃ we, we = wc := ⟨_, rfl⟩
                      go_upto_if 79 with fail
                      go_cut [18] from 23 to 147 (fun s18 wx => s18 = .int .i64 V.1 ∧ wx = we)
                      case first =>
                        as_aux_lemma =>
                          cases ts with
                          | false =>
                            go_wp2
                            go_meet
                            case rel => exact ⟨by rw [HV1.out]; rfl, rfl⟩
                          | true =>
                            go_wp2
                            go_meet
                            case rel => exact ⟨by rw [HV1.out]; rfl, rfl⟩
                      case rest =>
                        as_aux_lemma =>
                          obtain ⟨rfl, rfl⟩ := hcut
                          clear r0 r1 r2 r3
                          obtain ⟨r0, r1, r2, r3⟩ := HE9.out.nb.nc
                          have hsX : W.heap.size ≤ wc.heap.size := HE9.out.bk.size
                          have cH := headX_gy x wc W.heap.size u1 (Z ++ G.1) tn P.size htn (by omega) V.1 hV1 HE9.out.own hsX (by rw [List.length_append]; omega)
                          go_wp2_with (go_at_call 15; refine StopG.out ?_)
                          refine ⟨Calls.mono cH ?_⟩
                          rintro ee Wa ⟨ua, rfl, hoa, hga⟩
                          have HEa : Hid (Ez W cb bits kb (tn : Int) v z s ua (Z ++ G.1 ++ hdX x tn V.1 P.size) V.2 Wa) := HE9.out.gy hga.out hoa.out
                          have hsa : W.heap.size ≤ Wa.heap.size := HEa.out.bk.size
                          obtain ⟨Za, hZa⟩ : ∃ Za, Z ++ G.1 ++ hdX x tn V.1 P.size = Za := ⟨_, rfl⟩
                          have HZa : Hid (Z ++ G.1 ++ hdX x tn V.1 P.size = Za) := hZa
                          have hZal : Za.length ≤ 1300000 := by rw [← hZa, List.length_append, List.length_append, hdX_len hV1]; have := hzX_ev x V.1; omega
                          rw [hZa] at HEa
                          clear r0 r1 r2 r3 hoa hga cH hZa
                          go_wp2_with (at_builtin; refine StopG.out ?_)
                          refine ⟨app_text rfl (.tmp 89) (.tmp 90) rfl W.heap.size ua Za rfl HEa.out.own P rfl (by omega) hsa ?_⟩
                          intro ub Wb hob hbb
                          have HR : Hid (ElI W cb bits L x e T qe nx (tn / 65536) ub Wb (Za ++ P.data.toList) V.2) := by
                            refine ⟨HNX.out.1, HNX.out.2.1, hob, ?_, ?_, HEa.out.cq.by hbb, HNX.out.2.2, HEa.out.bk.trans hbb.bk⟩
                            · have h1 := HI.out.sum
                              rw [HFE.out] at h1
                              rw [← h1, ← HZa.out, HPV.out, show P.data.toList.length = P.size from Array.length_toList]
                              simp only [List.append_assoc]
                              rfl
                            · have h1 := HI.out.cnt
                              rw [HFE.out] at h1
                              exact h1
                          clear hob hbb
                          go_wp2
                          go_roundw
                          case rel => exact ⟨nx, V.2, tn / 65536, _, rfl, by rw [hgn], hg65, by omega, hnxe, HR⟩
                          case measure => simp [intOf]; omega
      · obtain rfl : p = e := by omega
        have hltI : ¬ (p : Int) < (p : Int) := by omega
        have hn := fD_nil bits L false x g k p p (Nat.le_refl _)
        have HE : Hid (Z = T ∧ k = qe) := by
          have h1 := HI.out.sum
          have h2 := HI.out.cnt
          rw [hn] at h1 h2
          exact ⟨by rw [← h1, List.append_nil], h2⟩
        clear hn
        go_wp2
        go_ret
        refine ⟨_, rfl, ?_, ?_, HI.out.bk⟩
        · rw [← HE.out.1]
          exact HI.out.own
        · rw [← HE.out.2]
          exact HI.out.cq
end Go.Proofs.YtfoodjhffehgpaaGreatDoor
