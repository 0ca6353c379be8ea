import Derived.Test.YtoikdpjjcnmgeaaGreatDoorZn
import Derived.Test.YtoikdpjjcnmgeaaGreatDoorZn1
import Derived.Test.YtoikdpjjcnmgeaaGreatDoorZn2
section
/-
  DERIVED. The law of Decode: way 3.
-/
namespace Go.Proofs.YtoikdpjjcnmgeaaGreatDoor
open Go Go.Proofs Go.RowKit
open Wk (Nd nds NV)
open Go.Sort

set_option maxRecDepth 100000 in
set_option maxHeartbeats 64000000 in
theorem dec_law3 (w : World) (a : Option Addr) (n cap : Nat) (bs : List Nat) (s : Int) (hV : Le.V w (.slice (a) n cap) bs) (hn : bs.length = n) (hl : n ≤ 140737488351232) (hn0 : n = 0) (M : List Nd) (hM : OutD s (yb bs) M) (hm0 : M = []) :
    Calls Tryz.prog 3 #[.slice (a) n cap, .int .i64 s] w fun e w' => e = .returned (.bool true) ∧ Below w.heap.size w w' := by
  have HV : Hid (Le.V w (.slice (a) n cap) bs) := hV
  have HN : Hid (bs.length = n) := hn
  have HM : Hid (OutD s (yb bs) M) := hM
  have HBY : Hid (∀ x ∈ bs, x < 256) := v_byt hV
  have HN0 : Hid (n = 0) := hn0
  have b0 : decide ((0 : Int) < (n : Int)) = false := by rw [hn0]; rfl
  have b1 : decide (0 < n) = false := by rw [hn0]; rfl
  clear hn0
  obtain ⟨m, hm⟩ : ∃ m, M.length = m := ⟨_, rfl⟩
  have HML : Hid (M.length = m) := hm
  obtain rfl : m = 0 := by rw [← hm, hm0]; rfl
  clear hm0
  have c9 := Le.lend_any hV (by rw [hn]; exact hl)
  rw [hn] at c9
  obtain ⟨g, hg⟩ : ∃ g, w.heap.size = g := ⟨_, rfl⟩
  have HGE : Hid (w.heap.size = g) := hg
  obtain ⟨s1, hs1⟩ : ∃ s1, IntKind.i64.wrap (s + 1) = s1 := ⟨_, rfl⟩
  have hq : (n : Int).tdiv 2 = ((n / 2 : Nat) : Int) := by rw [Int.tdiv_eq_ediv_of_nonneg (by omega)]; omega
  have hqn : n / 2 ≤ n := by omega
  have hqc : n / 2 ≤ cap := by
    rcases hV with ⟨a1, c1, e, -⟩ | ⟨b1, o1, c1, e, -, hc, -⟩
    · cases e; omega
    · cases e; omega
  obtain ⟨hf, hhf⟩ : ∃ hf, n / 2 = hf := ⟨_, rfl⟩
  rw [hhf] at hq hqn hqc
  have HHF : Hid (n / 2 = hf) := hhf
  clear hV hn hM hm hhf
  rw [hg] at c9 ⊢
  go_enter Tryz.func3, Tryz.ntmps3
  go_wp2_with (go_at_call 9; refine StopV.out ?_)
  refine ⟨Calls.mono c9 ?_⟩
  rintro e W1 ⟨rfl, hl1, hb1⟩
  have R1 : Hid (Below w.heap.size w W1) := by show Below _ _ _; rw [HGE.out]; exact hb1
  have HL1 : Hid (Le.Lent W1 g g bs) := by show Le.Own _ _ _ _; rw [HN.out]; exact hl1
  have HG1 : Hid (Gv g g n bs W1) := by
    have := Gv.of HL1.out
    rw [HN.out] at this
    exact this
  clear c9 hl1 hb1 hg
  have c10 := decode_any W1 (some ⟨g, 0, none⟩) n (n + 3) (yb bs) s (ba_of HG1.out.v (by rw [HN.out]; exact hl))
  go_wp2_with (go_at_call 10; refine StopV.out ?_)
  refine ⟨Calls.mono c10 ?_⟩
  rintro e W2 ⟨nx, vx, rfl, hd2, hb2⟩
  have R2 : Hid (Below W1.heap.size W1 W2) := hb2.out
  have HD2 : Hid (DcR W1.heap.size W2 s (yb bs) nx vx) := hd2.out
  obtain ⟨M2, ho2, ht2⟩ := dcr_row hd2.out
  obtain rfl : M2 = M := outD_one ho2 HM.out
  obtain ⟨ax, cx, rfl, -⟩ := own_form ht2.own
  rw [HML.out]
  have HT2 : Hid (Tw W1.heap.size W2.heap.size (.slice ax 0 cx) M2 W2) := by have := ht2; rw [HML.out] at this; exact this
  have HD2' : Hid (DcR W1.heap.size W2 s (yb bs) (.slice ax 0 cx) vx) := by have := HD2.out; rw [HML.out] at this; exact this
  clear c10 hd2 hb2 ho2 ht2 HD2
  obtain ⟨rfl, rfl⟩ : ax = none ∧ cx = 0 := by
    have := HT2.out.nz HML.out
    cases this
    exact ⟨rfl, rfl⟩
  have c11 := rdec_any W2 (a) n cap (yb bs) s (ba_of (HV.out.next (lat R1.out R2.out)) (by rw [HN.out]; exact hl))
  go_wp2_with (go_at_call 11; refine StopV.out ?_)
  refine ⟨Calls.mono c11 ?_⟩
  rintro e W3 ⟨ny, vf, rfl, hr3, hb3⟩
  have R3 : Hid (Below W2.heap.size W2 W3) := hb3.out
  obtain ⟨M3, ho3, ht3⟩ := rdr_row hr3.out
  obtain rfl : M3 = M2 := outD_one ho3 HM.out
  obtain ⟨ay, cy, rfl, -⟩ := own_form ht3
  obtain ⟨fa, fm, fc, fk, rfl⟩ := rdr_form hr3.out
  rw [HML.out]
  have HR3 : Hid (RdR W2.heap.size W3 s (yb bs) (.slice ay 0 cy) (.agg #[.slice fa fm fc, .int .i64 fk])) := by have := hr3.out; rw [HML.out] at this; exact this
  have HY3 : Hid (W3.ownsRow W2.heap.size 54 4 (.slice ay 0 cy) 0 (nds M3)) := by have := ht3; rw [HML.out] at this; exact this
  clear c11 hr3 hb3 ho3 ht3
  obtain ⟨W4, hW4⟩ : ∃ W4, W3.alloc (.cells #[.slice fa fm fc, .int .i64 fk] 32) = W4 := ⟨_, rfl⟩
  have R4 : Hid (Below W3.heap.size W3 W4) := by rw [← hW4]; exact (Below.refl _ _).alloc (Nat.le_refl _) _
  have f0 : W4.cell? ⟨W3.heap.size, 0, none⟩ = some (.slice fa fm fc) := by rw [← hW4]; simp
  have f1 : W4.cell? ⟨W3.heap.size, 1, none⟩ = some (.int .i64 fk) := by rw [← hW4]; simp
  have HF4 : Hid (F9 W4 W3.heap.size fa fm fc (.int .i64 fk)) := ⟨f0, f1, fun i => by rw [← hW4]; simp, by rw [← hW4]; exact ⟨_, _, Array.getElem?_push_size⟩⟩
  have c12 := is_both (HD2'.out.on (lat R3.out R4.out)) (HR3.out.on R4.out)
  go_wp2_with (go_at_call 12; refine StopV.out ?_)
  refine ⟨Calls.mono c12 ?_⟩
  rintro e W5 ⟨rfl, hb5⟩
  have R5 : Hid (Below W4.heap.size W4 W5) := hb5
  clear c12 hb5 hW4 f0 f1
  have HX5 : Hid (NV W5 none 0 0 M3) := (HT2.out.on (lat R3.out (lat R4.out R5.out))).nv HML.out.symm
  have HY5 : Hid (NV W5 ay 0 cy M3) := own_nv2 (Wk.ownsRow_below HY3.out (lat R4.out R5.out) (Nat.le_refl _)) HML.out.symm HT2.out.mo
  have c13 := Wk.nodes_same W5 none ay 0 0 cy M3 HX5.out HY5.out
  go_wp2_with (go_at_call 13; refine StopV.out ?_)
  refine ⟨Calls.mono c13 ?_⟩
  rintro e W6 ⟨rfl, k6, hk6⟩
  have R6 : Hid (Below W5.heap.size W5 W6) := by rw [hk6]; exact Wk.below_drw (Below.refl _ _) _
  clear c13 hk6
  have HV6 : Hid (Le.V W6 (.slice (a) n cap) bs) := HV.out.next (lat R1.out (lat R2.out (lat R3.out (lat R4.out (lat R5.out R6.out)))))
  have c14 := Le.kept_any (HL1.out.next (lat R2.out (lat R3.out (lat R4.out (lat R5.out R6.out))))) HV6.out (by rw [HN.out]; exact hl)
  rw [HN.out] at c14
  go_wp2_with (go_at_call 14; refine StopV.out ?_)
  refine ⟨Calls.mono c14 ?_⟩
  rintro e W7 ⟨rfl, k7, hk7⟩
  have R7 : Hid (Below W6.heap.size W6 W7) := by rw [hk7]; exact Wk.below_drw (Below.refl _ _) _
  clear c14 hk7
  have HTK : Hid ((bs.take hf).length = hf) := by show _ = _; rw [List.length_take, HN.out]; omega
  have c9 := Le.lend_any (v_take (HV6.out.next R7.out) hf hqn) (by rw [HTK.out]; omega)
  rw [HTK.out] at c9
  go_wp2_with (go_at_call 9; refine StopV.out ?_)
  refine ⟨Calls.mono c9 ?_⟩
  rintro e W8 ⟨rfl, hl8, hb8⟩
  have R8 : Hid (Below W7.heap.size W7 W8) := hb8
  have HG8 : Hid (Gv W7.heap.size W7.heap.size hf (bs.take hf) W8) := by
    have h8 : Le.Own W8 W7.heap.size (.slice (some ⟨W7.heap.size, 0, none⟩) ((bs.take hf).length + 3) ((bs.take hf).length + 3)) (bs.take hf ++ [160, 161, 162]) := by rw [HTK.out]; exact hl8
    have := Gv.of h8
    rw [HTK.out] at this
    exact this
  clear c9 hl8 hb8
  have c10 := decode_any W8 (some ⟨W7.heap.size, 0, none⟩) hf (hf + 3) (yb (bs.take hf)) s (ba_of HG8.out.v (by rw [HTK.out]; omega))
  go_wp2_with (go_at_call 10; refine StopV.out ?_)
  refine ⟨Calls.mono c10 ?_⟩
  rintro e W9 ⟨no, vo, rfl, hd9, hb9⟩
  have R9 : Hid (Below W8.heap.size W8 W9) := hb9.out
  obtain ⟨Mo, -, ht9⟩ := dcr_row hd9.out
  obtain ⟨ao9, co9, rfl, -⟩ := own_form ht9.own
  obtain ⟨mo9, hmo9⟩ : ∃ mo9, Mo.length = mo9 := ⟨_, rfl⟩
  rw [hmo9] at ht9 ⊢
  have HT9 : Hid (Tw W8.heap.size W9.heap.size (.slice ao9 mo9 co9) Mo W9) := ht9
  clear c10 hd9 hb9 ht9 hmo9
  have c10 := decode_any W9 (some ⟨g, 0, none⟩) n (n + 3) (yb bs) s1 (ba_of (HG1.out.on (lat R2.out (lat R3.out (lat R4.out (lat R5.out (lat R6.out (lat R7.out (lat R8.out R9.out)))))))).v (by rw [HN.out]; exact hl))
  go_wp2_with (go_at_call 10; refine StopV.out ?_)
  refine ⟨Calls.mono c10 ?_⟩
  rintro e W10 ⟨np, vp, rfl, hd10, hb10⟩
  have R10 : Hid (Below W9.heap.size W9 W10) := hb10.out
  obtain ⟨Mp, -, ht10⟩ := dcr_row hd10.out
  obtain ⟨ap9, cp9, rfl, -⟩ := own_form ht10.own
  obtain ⟨mp9, hmp9⟩ : ∃ mp9, Mp.length = mp9 := ⟨_, rfl⟩
  rw [hmp9] at ht10 ⊢
  have HT10 : Hid (Tw W9.heap.size W10.heap.size (.slice ap9 mp9 cp9) Mp W10) := ht10
  clear c10 hd10 hb10 ht10 hs1 hmp9
  have c10 := decode_any W10 (some ⟨g, 0, none⟩) n (n + 3) (yb bs) s (ba_of (HG1.out.on (lat R2.out (lat R3.out (lat R4.out (lat R5.out (lat R6.out (lat R7.out (lat R8.out (lat R9.out R10.out))))))))).v (by rw [HN.out]; exact hl))
  go_wp2_with (go_at_call 10; refine StopV.out ?_)
  refine ⟨Calls.mono c10 ?_⟩
  rintro e W11 ⟨nz, vz, rfl, hd11, hb11⟩
  have R11 : Hid (Below W10.heap.size W10 W11) := hb11.out
  obtain ⟨M11, ho11, ht11⟩ := dcr_row hd11.out
  obtain rfl : M11 = M3 := outD_one ho11 HM.out
  obtain ⟨az, cz, rfl, -⟩ := own_form ht11.own
  rw [HML.out]
  have HT11 : Hid (Tw W10.heap.size W11.heap.size (.slice az 0 cz) M11 W11) := by have := ht11; rw [HML.out] at this; exact this
  have HD11 : Hid (DcR W10.heap.size W11 s (yb bs) (.slice az 0 cz) vz) := by have := hd11.out; rw [HML.out] at this; exact this
  clear c10 hd11 hb11 ho11 ht11
  have HF11 := HF4.out.on (lat R5.out (lat R6.out (lat R7.out (lat R8.out (lat R9.out (lat R10.out R11.out))))))
  have f0 := HF11.c0
  have f1 := HF11.c1
  have c12 := is_both HD11.out (HR3.out.on (lat R4.out (lat R5.out (lat R6.out (lat R7.out (lat R8.out (lat R9.out (lat R10.out R11.out))))))))
  go_wp2_with (go_at_call 12; refine StopV.out ?_)
  refine ⟨Calls.mono c12 ?_⟩
  rintro e W12 ⟨rfl, hb12⟩
  have R12 : Hid (Below W11.heap.size W11 W12) := hb12
  clear c12 hb12 f0 f1 HF11
  have c13 := Wk.nodes_same W12 az ay 0 cz cy M11 ((HT11.out.on R12.out).nv HML.out.symm) (HY5.out.on (lat R6.out (lat R7.out (lat R8.out (lat R9.out (lat R10.out (lat R11.out R12.out)))))))
  go_wp2_with (go_at_call 13; refine StopV.out ?_)
  refine ⟨Calls.mono c13 ?_⟩
  rintro e W13 ⟨rfl, k13, hk13⟩
  have R13 : Hid (Below W12.heap.size W12 W13) := by rw [hk13]; exact Wk.below_drw (Below.refl _ _) _
  clear c13 hk13
  have BW13 : Hid (Below w.heap.size w W13) := lat R1.out (lat R2.out (lat R3.out (lat R4.out (lat R5.out (lat R6.out (lat R7.out (lat R8.out (lat R9.out (lat R10.out (lat R11.out (lat R12.out R13.out)))))))))))
  have HG13 : Hid (Gv g g n bs W13) := HG1.out.on (lat R2.out (lat R3.out (lat R4.out (lat R5.out (lat R6.out (lat R7.out (lat R8.out (lat R9.out (lat R10.out (lat R11.out (lat R12.out R13.out)))))))))))
  go_wp2
  go_loopw [15] (fun x15 wr => ∃ k : Nat, x15 = .int .i64 (k : Int) ∧ k ≤ n ∧ Hid (Gv g g n ((bs.take k).map xr ++ bs.drop k) wr ∧ Below w.heap.size w wr ∧ Ky W13 wr ∧ W13.heap.size ≤ wr.heap.size)) (fun x15 _ => n - (intOf x15).toNat)
  case atStart => exact ⟨0, rfl, Nat.zero_le _, by simpa using HG13.out, BW13.out, Ky.refl _, Nat.le_refl _⟩
  case round =>
    obtain ⟨k, rfl, hk, HI⟩ := hrel
    by_cases hkn : k < n
    · have hkI : (k : Int) < (n : Int) := by omega
      have hkb : k < bs.length := by rw [HN.out]; exact hkn
      have hc := HI.out.1.cell hkn
      rw [mix_get xr hkb] at hc
      have hz := World.ownsRow.frozenAt HI.out.1.own k
      have hy := byte_lt HBY.out hkb
      have hx := xr_eq hy
      have HST := HI.out.1.set k (xr (bs.getD k 0)) (xr_lt hy)
      rw [mix_set xr hkb] at HST
      obtain ⟨y, hyy⟩ : ∃ y, bs.getD k 0 = y := ⟨_, rfl⟩
      rw [hyy] at hc hx HST
      obtain ⟨z, hzz⟩ : ∃ z, xr y = z := ⟨_, rfl⟩
      rw [hzz] at hx HST
      have HGN : Hid (Gv g g n ((bs.take (k + 1)).map xr ++ bs.drop (k + 1)) (wr.setCell ⟨g, k, none⟩ (.int .u8 (z : Int)))) := HST
      have HBN : Hid (Below w.heap.size w (wr.setCell ⟨g, k, none⟩ (.int .u8 (z : Int))) ∧ Ky W13 (wr.setCell ⟨g, k, none⟩ (.int .u8 (z : Int)))) := ⟨HI.out.2.1.setCell (p := ⟨g, k, none⟩) (by rw [HGE.out]; exact Nat.le_refl _) _, HI.out.2.2.1.trans (Ky.set HI.out.1.ty)⟩
      have HSN : Hid (W13.heap.size ≤ (wr.setCell ⟨g, k, none⟩ (.int .u8 (z : Int))).heap.size) := by show _ ≤ _; have := HI.out.2.2.2; simpa using this
      have hy2 : y < 256 := by rw [← hyy]; exact hy
      clear HST hyy hzz hkb hy
      go_wp2
      go_roundw
      case rel => exact ⟨k + 1, by go_num, by omega, HGN.out, HBN.out.1, HBN.out.2, HSN.out⟩
      case measure => simp [intOf]; omega
    obtain rfl : k = n := by omega
    have hkI : ¬ (k : Int) < (k : Int) := by omega
    obtain ⟨W14, hW14⟩ : ∃ W14, wr = W14 := ⟨_, rfl⟩
    rw [hW14] at HI ⊢
    have HG14 : Hid (Gv g g k (bs.map xr) W14) := by
      have := HI.out.1
      rw [List.take_of_length_le (by rw [HN.out]; exact Nat.le_refl _), List.drop_eq_nil_of_le (by rw [HN.out]; exact Nat.le_refl _), List.append_nil] at this
      exact this
    have BW14 : Hid (Below w.heap.size w W14) := HI.out.2.1
    have Y14 : Hid (Ky W13 W14) := HI.out.2.2.1
    have Z14 : Hid (Kz W13 W14) := Y14.out.kz
    have S14 : Hid (W13.heap.size ≤ W14.heap.size) := HI.out.2.2.2
    clear HI hW14
    have HXL : Hid ((bs.map xr).length = k) := by show _ = _; rw [List.length_map]; exact HN.out
    have c10 := decode_any W14 (some ⟨g, 0, none⟩) k (k + 3) (yb (bs.map xr)) s (ba_of HG14.out.v (by rw [HXL.out]; exact hl))
    go_wp2_with (go_at_call 10; refine StopV.out ?_)
    refine ⟨Calls.mono c10 ?_⟩
    rintro e W15 ⟨nw, vw, rfl, hd15, hb15⟩
    have R15 : Hid (Below W14.heap.size W14 W15) := hb15.out
    obtain ⟨Mw, ho15, ht15⟩ := dcr_row hd15.out
    obtain ⟨aw, cw, rfl, -⟩ := own_form ht15.own
    obtain ⟨mw, hmw⟩ : ∃ mw, Mw.length = mw := ⟨_, rfl⟩
    have HMW : Hid (Mw.length = mw) := hmw
    rw [hmw] at ht15 ⊢
    have HT15 : Hid (Tw W14.heap.size W15.heap.size (.slice aw mw cw) Mw W15) := ht15
    have HD15 : Hid (DcR W14.heap.size W15 s (yb (bs.map xr)) (.slice aw mw cw) vw) := by have := hd15.out; rw [hmw] at this; exact this
    have HO15 : Hid (OutD s (yb (bs.map xr)) Mw) := ho15
    have BW15 : Hid (Below w.heap.size w W15) := lat BW14.out R15.out
    have HG15 : Hid (Gv g g k (bs.map xr) W15) := HG14.out.on R15.out
    clear c10 hd15 hb15 ho15 ht15 hmw
    obtain ⟨i0, hi, hz0, hz1, hz2⟩ := info_parts Le.info5s
    obtain ⟨B, hB⟩ : ∃ B, W15.heap.size = B := ⟨_, rfl⟩
    have HB : Hid (W15.heap.size = B) := hB
    go_wp2
    go_loopw [17, 18] (fun x17 x18 wr => ∃ j : Nat, x18 = .int .i64 (j : Int) ∧ j ≤ k ∧ Hid (wr.ownsRow B 5 1 x17 j (Le.u8s ((bs.take j).map xr)) ∧ Below B W15 wr)) (fun _ x18 _ => k - (intOf x18).toNat)
    case atStart => exact ⟨0, rfl, Nat.zero_le _, World.ownsRow_nil _ _ _ _, Below.refl _ _⟩
    case round =>
      obtain ⟨j, rfl, hj, HI⟩ := hrel
      by_cases hjn : j < k
      · exact absurd hjn (by have := HN0.out; omega)
      obtain rfl : j = k := by omega
      have hjI : ¬ (j : Int) < (j : Int) := by omega
      obtain ⟨W16, hW16⟩ : ∃ W16, wr = W16 := ⟨_, rfl⟩
      obtain ⟨vo17, hvo⟩ : ∃ vo17, u17 = vo17 := ⟨_, rfl⟩
      rw [hW16, hvo] at HI
      rw [hW16, hvo]
      have HOV : Hid (Le.Own W16 B vo17 (bs.map xr)) := by
        refine ⟨?_, xr_byt HBY.out⟩
        have := HI.out.1
        rw [List.take_of_length_le (by rw [HN.out]; exact Nat.le_refl _)] at this
        rw [HXL.out]
        exact this
      have R16 : Hid (Below W15.heap.size W15 W16) := by show Below _ _ _; rw [HB.out]; exact HI.out.2
      obtain ⟨ao, co, rfl⟩ : ∃ ao co, vo17 = .slice ao j co := by
        obtain ⟨a1, c1, e, -⟩ := own_form HOV.out.1
        rw [HXL.out] at e
        exact ⟨a1, c1, e⟩
      clear HI hW16 hvo
      have c11 := rdec_any W16 ao j co (yb (bs.map xr)) s (ba_of HOV.out.v (by rw [HXL.out]; exact hl))
      go_wp2_with (go_at_call 11; refine StopV.out ?_)
      refine ⟨Calls.mono c11 ?_⟩
      rintro e W17 ⟨nv, vf2, rfl, hr17, hb17⟩
      have R17 : Hid (Below W16.heap.size W16 W17) := hb17.out
      obtain ⟨Mv, ho17, ht17⟩ := rdr_row hr17.out
      obtain rfl : Mv = Mw := outD_one ho17 HO15.out
      obtain ⟨av, cv, rfl, -⟩ := own_form ht17
      obtain ⟨fa2, fm2, fc2, fk2, rfl⟩ := rdr_form hr17.out
      rw [HMW.out]
      have HR17 : Hid (RdR W16.heap.size W17 s (yb (bs.map xr)) (.slice av mw cv) (.agg #[.slice fa2 fm2 fc2, .int .i64 fk2])) := by have := hr17.out; rw [HMW.out] at this; exact this
      have HV17 : Hid (W17.ownsRow W16.heap.size 54 4 (.slice av mw cv) mw (nds Mv)) := by have := ht17; rw [HMW.out] at this; exact this
      clear c11 hr17 hb17 ho17 ht17
      have HF17 : Hid (F9 W17 W3.heap.size fa fm fc (.int .i64 fk)) := ((HF4.out.on (lat R5.out (lat R6.out (lat R7.out (lat R8.out (lat R9.out (lat R10.out (lat R11.out (lat R12.out R13.out))))))))).ky Y14.out).on (lat R15.out (lat R16.out R17.out))
      have q0 := HF17.out.c0
      have q1 := HF17.out.c1
      have qf := HF17.out.fz
      obtain ⟨W18, hW18⟩ : ∃ W18, (W17.setCell ⟨W3.heap.size, 0, none⟩ (.slice fa2 fm2 fc2)).setCell ⟨W3.heap.size, 1, none⟩ (.int .i64 fk2) = W18 := ⟨_, rfl⟩
      have HF18 : Hid (F9 W18 W3.heap.size fa2 fm2 fc2 (.int .i64 fk2)) := by rw [← hW18]; exact HF17.out.set _ _ _ _
      have HD18 : Hid (DcR W14.heap.size W18 s (yb (bs.map xr)) (.slice aw mw cw) vw) := by rw [← hW18]; exact HF17.out.dcr _ _ (HD15.out.on (lat R16.out R17.out))
      have HR18 : Hid (RdR W16.heap.size W18 s (yb (bs.map xr)) (.slice av mw cv) (.agg #[.slice fa2 fm2 fc2, .int .i64 fk2])) := by rw [← hW18]; exact HF17.out.rdr _ _ HR17.out
      have HG18 : Hid (Gv g g j (bs.map xr) W18) := by rw [← hW18]; exact HF17.out.gv _ _ (HG15.out.on (lat R16.out R17.out))
      have Z18 : Hid (Kz W17 W18) := by rw [← hW18]; exact HF17.out.kz _ _
      have BW17 : Hid (Below w.heap.size w W17) := lat BW15.out (lat R16.out R17.out)
      have SQ : Hid (w.heap.size ≤ W3.heap.size) := Nat.le_trans R1.out.size (Nat.le_trans R2.out.size R3.out.size)
      have BW18 : Hid (Below w.heap.size w W18) := by rw [← hW18]; exact below2 BW17.out SQ.out _ _
      have S18 : Hid (W17.heap.size ≤ W18.heap.size) := by rw [← hW18]; show _ ≤ _; simp
      have f0 := HF18.out.c0
      have f1 := HF18.out.c1
      have c12 := is_both HD18.out HR18.out
      go_wp2_with (go_at_call 12; refine StopV.out ?_)
      refine ⟨Calls.mono c12 ?_⟩
      rintro e W19 ⟨rfl, hb19⟩
      have R19 : Hid (Below W18.heap.size W18 W19) := hb19
      clear c12 hb19 f0 f1 q0 q1 qf hW18
      have c13 := Wk.nodes_same W19 aw av mw cw cv Mv ((((HT15.out.on (lat R16.out R17.out)).kz Z18.out).on R19.out).nv HMW.out.symm) (own_nv2 (Wk.ownsRow_below (own_kz HV17.out Z18.out) R19.out (Nat.le_refl _)) HMW.out.symm HT15.out.mo)
      go_wp2_with (go_at_call 13; refine StopV.out ?_)
      refine ⟨Calls.mono c13 ?_⟩
      rintro e W20 ⟨rfl, k20, hk20⟩
      have R20 : Hid (Below W19.heap.size W19 W20) := by rw [hk20]; exact Wk.below_drw (Below.refl _ _) _
      clear c13 hk20
      have BW20 : Hid (Below w.heap.size w W20) := lat BW18.out (lat R19.out R20.out)
      have HG20 : Hid (Gv g g j (bs.map xr) W20) := HG18.out.on (lat R19.out R20.out)
      go_wp2
      go_loopw [20] (fun x20 wr => ∃ i : Nat, x20 = .int .i64 (i : Int) ∧ i ≤ j ∧ Hid (Gv g g j (bs.take i ++ (bs.map xr).drop i) wr ∧ Below w.heap.size w wr ∧ Ky W20 wr ∧ W20.heap.size ≤ wr.heap.size)) (fun x20 _ => j - (intOf x20).toNat)
      case atStart => exact ⟨0, rfl, Nat.zero_le _, by simpa using HG20.out, BW20.out, Ky.refl _, Nat.le_refl _⟩
      case round =>
        obtain ⟨i, rfl, hi3, HI⟩ := hrel
        by_cases hin : i < j
        · exact absurd hin (by have := HN0.out; omega)
        obtain rfl : i = j := by omega
        have hiI : ¬ (i : Int) < (i : Int) := by omega
        obtain ⟨W21, hW21⟩ : ∃ W21, wr = W21 := ⟨_, rfl⟩
        rw [hW21] at HI ⊢
        have HG21 : Hid (Gv g g i bs W21) := by
          have := HI.out.1
          rw [List.take_of_length_le (by rw [HN.out]; exact Nat.le_refl _), List.drop_eq_nil_of_le (by rw [HXL.out]; exact Nat.le_refl _), List.append_nil] at this
          exact this
        have BW21 : Hid (Below w.heap.size w W21) := HI.out.2.1
        have Y21 : Hid (Ky W20 W21) := HI.out.2.2.1
        have Z21 : Hid (Kz W20 W21) := Y21.out.kz
        have S21 : Hid (W20.heap.size ≤ W21.heap.size) := HI.out.2.2.2
        clear HI hW21
        obtain ⟨W23, hW23⟩ : ∃ W23, W21 = W23 := ⟨_, rfl⟩
        obtain ⟨bs3, hbs3⟩ : ∃ bs3, bs = bs3 := ⟨_, rfl⟩
        have HG23 : Hid (Gv g g i bs3 W23) := by rw [← hbs3, ← hW23]; exact HG21.out
        have BW23 : Hid (Below w.heap.size w W23) := by rw [← hW23]; exact BW21.out
        have Y23 : Hid (Ky W21 W23) := by rw [← hW23]; exact Ky.refl _
        have Z23 : Hid (Kz W21 W23) := Y23.out.kz
        have S23 : Hid (W21.heap.size ≤ W23.heap.size) := by rw [← hW23]; exact Nat.le_refl _
        rw [hW23]
        clear hbs3 hW23
        have HL3 : Hid (bs3.length = i) := HG23.out.len
        have c10 := decode_any W23 (some ⟨g, 0, none⟩) i (i + 3) (yb bs3) s (ba_of HG23.out.v (by rw [HL3.out]; exact hl))
        go_wp2_with (go_at_call 10; refine StopV.out ?_)
        refine ⟨Calls.mono c10 ?_⟩
        rintro e W24 ⟨nu, vu, rfl, hd24, hb24⟩
        have R24 : Hid (Below W23.heap.size W23 W24) := hb24.out
        obtain ⟨Mu, ho24, ht24⟩ := dcr_row hd24.out
        obtain ⟨au, cu, rfl, -⟩ := own_form ht24.own
        obtain ⟨mu, hmu⟩ : ∃ mu, Mu.length = mu := ⟨_, rfl⟩
        have HMU : Hid (Mu.length = mu) := hmu
        rw [hmu] at ht24 ⊢
        have HT24 : Hid (Tw W23.heap.size W24.heap.size (.slice au mu cu) Mu W24) := ht24
        have HD24 : Hid (DcR W23.heap.size W24 s (yb bs3) (.slice au mu cu) vu) := by have := hd24.out; rw [hmu] at this; exact this
        have HO24 : Hid (OutD s (yb bs3) Mu) := ho24
        clear c10 hd24 hb24 ho24 ht24 hmu
        have c16 := Le.copy_any (HG23.out.on R24.out).v (by rw [HL3.out]; exact hl)
        go_wp2_with (go_at_call 16; refine StopV.out ?_)
        refine ⟨Calls.mono c16 ?_⟩
        rintro e W25 ⟨vc, rfl, hown25, hb25⟩
        have R25 : Hid (Below W24.heap.size W24 W25) := hb25
        have HC25 : Hid (Le.Own W25 W24.heap.size vc bs3) := hown25
        obtain ⟨ac, cc, rfl⟩ : ∃ ac cc, vc = .slice ac i cc := by
          obtain ⟨a1, c1, e, -⟩ := own_form HC25.out.1
          rw [HL3.out] at e
          exact ⟨a1, c1, e⟩
        clear c16 hown25 hb25
        have c11 := rdec_any W25 ac i cc (yb bs3) s (ba_of HC25.out.v (by rw [HL3.out]; exact hl))
        go_wp2_with (go_at_call 11; refine StopV.out ?_)
        refine ⟨Calls.mono c11 ?_⟩
        rintro e W26 ⟨nr, vf3, rfl, hr26, hb26⟩
        have R26 : Hid (Below W25.heap.size W25 W26) := hb26.out
        obtain ⟨Mr, ho26, ht26⟩ := rdr_row hr26.out
        obtain rfl : Mr = Mu := outD_one ho26 HO24.out
        obtain ⟨ar, cr, rfl, -⟩ := own_form ht26
        obtain ⟨fa3, fm3, fc3, fk3, rfl⟩ := rdr_form hr26.out
        rw [HMU.out]
        have HR26 : Hid (RdR W25.heap.size W26 s (yb bs3) (.slice ar mu cr) (.agg #[.slice fa3 fm3 fc3, .int .i64 fk3])) := by have := hr26.out; rw [HMU.out] at this; exact this
        have HV26 : Hid (W26.ownsRow W25.heap.size 54 4 (.slice ar mu cr) mu (nds Mr)) := by have := ht26; rw [HMU.out] at this; exact this
        clear c11 hr26 hb26 ho26 ht26
        have HF26 : Hid (F9 W26 W3.heap.size fa2 fm2 fc2 (.int .i64 fk2)) := (((HF18.out.on (lat R19.out R20.out)).ky Y21.out).ky Y23.out).on (lat R24.out (lat R25.out R26.out))
        have q0 := HF26.out.c0
        have q1 := HF26.out.c1
        have qf := HF26.out.fz
        obtain ⟨W27, hW27⟩ : ∃ W27, (W26.setCell ⟨W3.heap.size, 0, none⟩ (.slice fa3 fm3 fc3)).setCell ⟨W3.heap.size, 1, none⟩ (.int .i64 fk3) = W27 := ⟨_, rfl⟩
        have HF27 : Hid (F9 W27 W3.heap.size fa3 fm3 fc3 (.int .i64 fk3)) := by rw [← hW27]; exact HF26.out.set _ _ _ _
        have HD27 : Hid (DcR W23.heap.size W27 s (yb bs3) (.slice au mu cu) vu) := by rw [← hW27]; exact HF26.out.dcr _ _ (HD24.out.on (lat R25.out R26.out))
        have HR27 : Hid (RdR W25.heap.size W27 s (yb bs3) (.slice ar mu cr) (.agg #[.slice fa3 fm3 fc3, .int .i64 fk3])) := by rw [← hW27]; exact HF26.out.rdr _ _ HR26.out
        have Z27 : Hid (Kz W26 W27) := by rw [← hW27]; exact HF26.out.kz _ _
        have BW26 : Hid (Below w.heap.size w W26) := lat BW23.out (lat R24.out (lat R25.out R26.out))
        have BW27 : Hid (Below w.heap.size w W27) := by rw [← hW27]; exact below2 BW26.out SQ.out _ _
        have S27 : Hid (W26.heap.size ≤ W27.heap.size) := by rw [← hW27]; show _ ≤ _; simp
        have f0 := HF27.out.c0
        have f1 := HF27.out.c1
        have c12 := is_both HD27.out HR27.out
        go_wp2_with (go_at_call 12; refine StopV.out ?_)
        refine ⟨Calls.mono c12 ?_⟩
        rintro e W28 ⟨rfl, hb28⟩
        have R28 : Hid (Below W27.heap.size W27 W28) := hb28
        clear c12 hb28 f0 f1 q0 q1 qf hW27
        have c13 := Wk.nodes_same W28 au ar mu cu cr Mr ((((HT24.out.on (lat R25.out R26.out)).kz Z27.out).on R28.out).nv HMU.out.symm) (own_nv2 (Wk.ownsRow_below (own_kz HV26.out Z27.out) R28.out (Nat.le_refl _)) HMU.out.symm HT24.out.mo)
        go_wp2_with (go_at_call 13; refine StopV.out ?_)
        refine ⟨Calls.mono c13 ?_⟩
        rintro e W29 ⟨rfl, k29, hk29⟩
        have R29 : Hid (Below W28.heap.size W28 W29) := by rw [hk29]; exact Wk.below_drw (Below.refl _ _) _
        clear c13 hk29
        have Z3 : Hid (Kz W2 W3) := Kz.below R3.out
        have Z4 : Hid (Kz W3 W4) := Kz.below R4.out
        have Z5 : Hid (Kz W4 W5) := Kz.below R5.out
        have Z6 : Hid (Kz W5 W6) := Kz.below R6.out
        have Z7 : Hid (Kz W6 W7) := Kz.below R7.out
        have Z8 : Hid (Kz W7 W8) := Kz.below R8.out
        have Z9 : Hid (Kz W8 W9) := Kz.below R9.out
        have Z10 : Hid (Kz W9 W10) := Kz.below R10.out
        have Z11 : Hid (Kz W10 W11) := Kz.below R11.out
        have Z12 : Hid (Kz W11 W12) := Kz.below R12.out
        have Z13 : Hid (Kz W12 W13) := Kz.below R13.out
        have Z15 : Hid (Kz W14 W15) := Kz.below R15.out
        have Z16 : Hid (Kz W15 W16) := Kz.below R16.out
        have Z17 : Hid (Kz W16 W17) := Kz.below R17.out
        have Z19 : Hid (Kz W18 W19) := Kz.below R19.out
        have Z20 : Hid (Kz W19 W20) := Kz.below R20.out
        have Z24 : Hid (Kz W23 W24) := Kz.below R24.out
        have Z25 : Hid (Kz W24 W25) := Kz.below R25.out
        have Z26 : Hid (Kz W25 W26) := Kz.below R26.out
        have Z28 : Hid (Kz W27 W28) := Kz.below R28.out
        have Z29 : Hid (Kz W28 W29) := Kz.below R29.out
        have HX29 : Hid (NV W29 none 0 0 M11) := (HT2.out.kz (Z3.out.trans (Z4.out.trans (Z5.out.trans (Z6.out.trans (Z7.out.trans (Z8.out.trans (Z9.out.trans (Z10.out.trans (Z11.out.trans (Z12.out.trans (Z13.out.trans (Z14.out.trans (Z15.out.trans (Z16.out.trans (Z17.out.trans (Z18.out.trans (Z19.out.trans (Z20.out.trans (Z21.out.trans (Z23.out.trans (Z24.out.trans (Z25.out.trans (Z26.out.trans (Z27.out.trans (Z28.out.trans Z29.out)))))))))))))))))))))))))).nv HML.out.symm
        have HY29 : Hid (NV W29 ay 0 cy M11) := own_nv2 (own_kz HY3.out (Z4.out.trans (Z5.out.trans (Z6.out.trans (Z7.out.trans (Z8.out.trans (Z9.out.trans (Z10.out.trans (Z11.out.trans (Z12.out.trans (Z13.out.trans (Z14.out.trans (Z15.out.trans (Z16.out.trans (Z17.out.trans (Z18.out.trans (Z19.out.trans (Z20.out.trans (Z21.out.trans (Z23.out.trans (Z24.out.trans (Z25.out.trans (Z26.out.trans (Z27.out.trans (Z28.out.trans Z29.out))))))))))))))))))))))))) HML.out.symm HT2.out.mo
        have HZ29 : Hid (NV W29 az 0 cz M11) := (HT11.out.kz (Z12.out.trans (Z13.out.trans (Z14.out.trans (Z15.out.trans (Z16.out.trans (Z17.out.trans (Z18.out.trans (Z19.out.trans (Z20.out.trans (Z21.out.trans (Z23.out.trans (Z24.out.trans (Z25.out.trans (Z26.out.trans (Z27.out.trans (Z28.out.trans Z29.out))))))))))))))))).nv HML.out.symm
        have c13 := Wk.nodes_same W29 none ay 0 0 cy M11 HX29.out HY29.out
        go_wp2_with (go_at_call 13; refine StopV.out ?_)
        refine ⟨Calls.mono c13 ?_⟩
        rintro e W30 ⟨rfl, k30, hk30⟩
        have R30 : Hid (Below W29.heap.size W29 W30) := by rw [hk30]; exact Wk.below_drw (Below.refl _ _) _
        clear c13 hk30
        have c13 := Wk.nodes_same W30 az ay 0 cz cy M11 (HZ29.out.on R30.out) (HY29.out.on R30.out)
        go_wp2_with (go_at_call 13; refine StopV.out ?_)
        refine ⟨Calls.mono c13 ?_⟩
        rintro e W31 ⟨rfl, k31, hk31⟩
        have R31 : Hid (Below W30.heap.size W30 W31) := by rw [hk31]; exact Wk.below_drw (Below.refl _ _) _
        clear c13 hk31
        obtain ⟨W32, hW32⟩ : ∃ W32, W31.alloc (.cells #[.slice none 0 0, .slice ao9 mo9 co9, .slice ap9 mp9 cp9, .slice az 0 cz, .slice aw mw cw, .slice au mu cu] 25) = W32 := ⟨_, rfl⟩
        have R32 : Hid (Below W31.heap.size W31 W32) := by rw [← hW32]; exact (Below.refl _ _).alloc (Nat.le_refl _) _
        have e0 : W32.cell? ⟨W31.heap.size, 0, none⟩ = some (.slice none 0 0) := by rw [← hW32]; simp
        have e1 : W32.cell? ⟨W31.heap.size, 1, none⟩ = some (.slice ao9 mo9 co9) := by rw [← hW32]; simp
        have e2 : W32.cell? ⟨W31.heap.size, 2, none⟩ = some (.slice ap9 mp9 cp9) := by rw [← hW32]; simp
        have e3 : W32.cell? ⟨W31.heap.size, 3, none⟩ = some (.slice az 0 cz) := by rw [← hW32]; simp
        have e4 : W32.cell? ⟨W31.heap.size, 4, none⟩ = some (.slice aw mw cw) := by rw [← hW32]; simp
        have e5 : W32.cell? ⟨W31.heap.size, 5, none⟩ = some (.slice au mu cu) := by rw [← hW32]; simp
        have Z30 : Hid (Kz W29 W30) := Kz.below R30.out
        have Z31 : Hid (Kz W30 W31) := Kz.below R31.out
        have Z32 : Hid (Kz W31 W32) := Kz.below R32.out
        have BW31 : Hid (Below w.heap.size w W31) := lat BW27.out (lat R28.out (lat R29.out (lat R30.out R31.out)))
        have BW32 : Hid (Below w.heap.size w W32) := lat BW31.out R32.out
        have c17 : Hid (Calls Tryz.prog 17 #[.slice (some ⟨W31.heap.size, 0, none⟩) 6 6] W32 fun e w' => e = .returned (.bool true) ∧ Wk.KR 6 (fun i => [.slice none 0 0, .slice ao9 mo9 co9, .slice ap9 mp9 cp9, .slice az 0 cz, .slice aw mw cw, .slice au mu cu].getD i .nilIface) W32 w') := by
          have z1 := R1.out.size
          have z2 := R2.out.size
          have z3 := R3.out.size
          have z4 := R4.out.size
          have z5 := R5.out.size
          have z6 := R6.out.size
          have z7 := R7.out.size
          have z8 := R8.out.size
          have z9 := R9.out.size
          have z10 := R10.out.size
          have z11 := R11.out.size
          have z12 := R12.out.size
          have z13 := R13.out.size
          have z15 := R15.out.size
          have z16 := R16.out.size
          have z17 := R17.out.size
          have z19 := R19.out.size
          have z20 := R20.out.size
          have z24 := R24.out.size
          have z25 := R25.out.size
          have z26 := R26.out.size
          have z28 := R28.out.size
          have z29 := R29.out.size
          have z30 := R30.out.size
          have z31 := R31.out.size
          have z14 := S14.out
          have z18 := S18.out
          have z21 := S21.out
          have z23 := S23.out
          have z27 := S27.out
          exact free6 W32 w.heap.size W31.heap.size 6 _ _ _ _ _ _ _ _ _ _ _ _ _ _ _ _ _ _ _ _ _ _ _ _ (HT2.out.kz (Z3.out.trans (Z4.out.trans (Z5.out.trans (Z6.out.trans (Z7.out.trans (Z8.out.trans (Z9.out.trans (Z10.out.trans (Z11.out.trans (Z12.out.trans (Z13.out.trans (Z14.out.trans (Z15.out.trans (Z16.out.trans (Z17.out.trans (Z18.out.trans (Z19.out.trans (Z20.out.trans (Z21.out.trans (Z23.out.trans (Z24.out.trans (Z25.out.trans (Z26.out.trans (Z27.out.trans (Z28.out.trans (Z29.out.trans (Z30.out.trans (Z31.out.trans Z32.out))))))))))))))))))))))))))))) (HT9.out.kz (Z10.out.trans (Z11.out.trans (Z12.out.trans (Z13.out.trans (Z14.out.trans (Z15.out.trans (Z16.out.trans (Z17.out.trans (Z18.out.trans (Z19.out.trans (Z20.out.trans (Z21.out.trans (Z23.out.trans (Z24.out.trans (Z25.out.trans (Z26.out.trans (Z27.out.trans (Z28.out.trans (Z29.out.trans (Z30.out.trans (Z31.out.trans Z32.out)))))))))))))))))))))) (HT10.out.kz (Z11.out.trans (Z12.out.trans (Z13.out.trans (Z14.out.trans (Z15.out.trans (Z16.out.trans (Z17.out.trans (Z18.out.trans (Z19.out.trans (Z20.out.trans (Z21.out.trans (Z23.out.trans (Z24.out.trans (Z25.out.trans (Z26.out.trans (Z27.out.trans (Z28.out.trans (Z29.out.trans (Z30.out.trans (Z31.out.trans Z32.out))))))))))))))))))))) (HT11.out.kz (Z12.out.trans (Z13.out.trans (Z14.out.trans (Z15.out.trans (Z16.out.trans (Z17.out.trans (Z18.out.trans (Z19.out.trans (Z20.out.trans (Z21.out.trans (Z23.out.trans (Z24.out.trans (Z25.out.trans (Z26.out.trans (Z27.out.trans (Z28.out.trans (Z29.out.trans (Z30.out.trans (Z31.out.trans Z32.out)))))))))))))))))))) (HT15.out.kz (Z16.out.trans (Z17.out.trans (Z18.out.trans (Z19.out.trans (Z20.out.trans (Z21.out.trans (Z23.out.trans (Z24.out.trans (Z25.out.trans (Z26.out.trans (Z27.out.trans (Z28.out.trans (Z29.out.trans (Z30.out.trans (Z31.out.trans Z32.out)))))))))))))))) (HT24.out.kz (Z25.out.trans (Z26.out.trans (Z27.out.trans (Z28.out.trans (Z29.out.trans (Z30.out.trans (Z31.out.trans Z32.out)))))))) e0 e1 e2 e3 e4 e5 BW32.out.size (by omega) (by omega) (by omega) (by omega) (by omega) (by omega) (by omega) (by omega) (by omega) (by omega) (by omega) (by omega) (by omega)
        have HLO : Hid (∀ i, i < 6 → ∀ q, ([.slice none 0 0, .slice ao9 mo9 co9, .slice ap9 mp9 cp9, .slice az 0 cz, .slice aw mw cw, .slice au mu cu].getD i Value.nilIface).ownBlock = some q → w.heap.size ≤ q) := by
          have z1 := R1.out.size
          have z2 := R2.out.size
          have z3 := R3.out.size
          have z4 := R4.out.size
          have z5 := R5.out.size
          have z6 := R6.out.size
          have z7 := R7.out.size
          have z8 := R8.out.size
          have z9 := R9.out.size
          have z10 := R10.out.size
          have z11 := R11.out.size
          have z12 := R12.out.size
          have z13 := R13.out.size
          have z15 := R15.out.size
          have z16 := R16.out.size
          have z17 := R17.out.size
          have z19 := R19.out.size
          have z20 := R20.out.size
          have z24 := R24.out.size
          have z25 := R25.out.size
          have z26 := R26.out.size
          have z28 := R28.out.size
          have z29 := R29.out.size
          have z30 := R30.out.size
          have z31 := R31.out.size
          have z14 := S14.out
          have z18 := S18.out
          have z21 := S21.out
          have z23 := S23.out
          have z27 := S27.out
          intro i hi6 q hq6
          rcases (show i = 0 ∨ i = 1 ∨ i = 2 ∨ i = 3 ∨ i = 4 ∨ i = 5 by omega) with rfl | rfl | rfl | rfl | rfl | rfl
          · have := HT2.out.blk q hq6; omega
          · have := HT9.out.blk q hq6; omega
          · have := HT10.out.blk q hq6; omega
          · have := HT11.out.blk q hq6; omega
          · have := HT15.out.blk q hq6; omega
          · have := HT24.out.blk q hq6; omega
        clear e0 e1 e2 e3 e4 e5
        go_wp2_with (go_at_call 17; refine StopV.out ?_)
        refine ⟨Calls.mono c17.out ?_⟩
        rintro e W33 ⟨rfl, hk33⟩
        have HEND : Hid (Below w.heap.size w W33) := kr_below BW32.out hk33 HLO.out
        clear hk33
        go_wp2
        go_ret
        exact ⟨rfl, by have := HEND.out; rw [HGE.out] at this; exact this⟩
end Go.Proofs.YtoikdpjjcnmgeaaGreatDoor
end

section
/-
  DERIVED. The law of Decode, whole.
-/
namespace Go.Proofs.YtoikdpjjcnmgeaaGreatDoor
open Go Go.Proofs Go.RowKit
open Wk (Nd nds NV)
open Go.Sort

set_option maxRecDepth 100000 in
theorem dec_law0 (w : World) (a : Option Addr) (n cap : Nat) (bs : List Nat) (s : Int) (hV : Le.V w (.slice a n cap) bs) (hn : bs.length = n) (hl : n ≤ 140737488351232) (hno : ¬ ∃ M, OutD s (yb bs) M) :
    Calls Tryz.prog 3 #[.slice a n cap, .int .i64 s] w fun e w' => e = .returned (.bool true) ∧ Below w.heap.size w w' := by
  have HNO : Hid (¬ ∃ M, OutD s (yb bs) M) := hno
  have HN : Hid (bs.length = n) := hn
  have c9 := Le.lend_any hV (by rw [hn]; exact hl)
  rw [hn] at c9
  clear hV hn hno
  go_enter Tryz.func3, Tryz.ntmps3
  go_wp2_with (go_at_call 9; refine StopV.out ?_)
  refine ⟨Calls.mono c9 ?_⟩
  rintro e W1 ⟨rfl, hl1, hb1⟩
  have hg : Gv w.heap.size w.heap.size n bs W1 := by
    have h8 : Le.Own W1 w.heap.size (.slice (some ⟨w.heap.size, 0, none⟩) (bs.length + 3) (bs.length + 3)) (bs ++ [160, 161, 162]) := by rw [HN.out]; exact hl1
    have := Gv.of h8
    rw [HN.out] at this
    exact this
  have c10 := decode_any W1 (some ⟨w.heap.size, 0, none⟩) n (n + 3) (yb bs) s (ba_of hg.v (by rw [HN.out]; exact hl))
  clear c9 hl1 hg
  go_wp2_with (go_at_call 10; refine StopV.out ?_)
  refine ⟨Calls.mono c10 ?_⟩
  rintro e W2 ⟨nx, vx, rfl, hd2, hb2⟩
  obtain ⟨M2, ho2, -⟩ := dcr_row hd2.out
  exact absurd ⟨M2, ho2⟩ HNO.out
theorem decodes_law (w : World) (a : Option Addr) (n cap : Nat) (bs : List Nat) (s : Int) (hV : Le.V w (.slice a n cap) bs) (hn : bs.length = n) (hl : n ≤ 140737488351232) :
    Calls Tryz.prog 3 #[.slice a n cap, .int .i64 s] w fun e w' => e = .returned (.bool true) ∧ Below w.heap.size w w' := by
  by_cases hex : ∃ M, OutD s (yb bs) M
  · obtain ⟨M, hM⟩ := hex
    by_cases h0 : n = 0
    · have hb : bs = [] := List.eq_nil_of_length_eq_zero (by omega)
      have hm : M = [] := outD_nil (by rw [hb] at hM; exact hM)
      exact dec_law3 w a n cap bs s hV hn hl h0 M hM hm
    · obtain ⟨bb, off, rfl⟩ : ∃ bb off, a = some ⟨bb, off, none⟩ := by
        rcases hV with ⟨a1, c1, e, rfl⟩ | ⟨b1, o1, c1, e, -⟩
        · exact absurd hn (by simp; omega)
        · cases e
          exact ⟨_, _, rfl⟩
      by_cases hm : M = []
      · exact dec_law2 w bb off n cap bs s hV hn hl (by omega) M hM hm
      · exact dec_law1 w bb off n cap bs s hV hn hl (by omega) M hM (fun e => hm (List.length_eq_zero_iff.1 e))
  · exact dec_law0 w a n cap bs s hV hn hl hex
end Go.Proofs.YtoikdpjjcnmgeaaGreatDoor
end
