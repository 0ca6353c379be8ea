import Derived.Test.YtilkogodhjnemaaGreatDoorBu
/-
  DERIVED. The law of Encode.
-/
namespace Go.Proofs.YtilkogodhjnemaaGreatDoor
open Go Go.Proofs Go.RowKit
open Wk (Nd NV Lent TnI KO)

set_option maxRecDepth 100000 in
set_option maxHeartbeats 16000000 in
theorem encodes_law (w : World) (a : Option Addr) (n cap : Nat) (s : Int) (L : List Nd) (hV : NV w a n cap L) (hT : TagsOk L) (hts : ∀ x ∈ L, x.s.size ≤ 140737488351232) (hE : EG w) :
    Calls Tryz.prog 3 #[.slice a n cap, .int .i64 s] w fun e w' => e = .returned (.bool true) ∧ Below w.heap.size w w' := by
  have HV : Hid (NV w a n cap L) := hV
  have HT : Hid (TagsOk L) := hT
  have HTS : Hid (∀ x ∈ L, x.s.size ≤ 140737488351232) := hts
  have HE : Hid (EG w) := hE
  have hsm := hV.small
  have HN : Hid (n = L.length) := hV.len
  have HNUM : Hid (∀ x ∈ L, -9223372036854775808 ≤ x.n ∧ x.n ≤ 9223372036854775807) := hV.num
  have c4 := Wk.lend_any w a n cap L hV
  clear hV hT hts hE
  go_enter Tryz.func3, Tryz.ntmps3
  go_wp2_with (go_at_call 4; refine StopF.out ?_)
  refine ⟨Calls.mono c4 ?_⟩
  rintro e W1 ⟨rfl, hl1, hb1⟩
  have HL1 : Hid (Lent w.heap.size L w.heap.size W1) := hl1
  have R1 : Hid (Below w.heap.size w W1) := hb1
  have hnv1 : NV W1 (some ⟨w.heap.size, 0, none⟩) n (n + 1) L := by
    have := hl1.nv (by rw [← HN.out]; exact hsm) HNUM.out
    rw [← HN.out] at this
    exact this
  obtain ⟨g, hg⟩ : ∃ g, w.heap.size = g := ⟨_, rfl⟩
  have HG : Hid (w.heap.size = g) := hg
  have HVG : Hid (NV W1 (some ⟨g, 0, none⟩) n (n + 1) L) := by rw [← hg]; exact hnv1
  have HLG : Hid (Lent g L w.heap.size W1) := by have := hl1; rw [show Lent w.heap.size L w.heap.size W1 = Lent g L w.heap.size W1 by rw [hg]] at this; exact this
  rw [hg]
  clear c4 hl1 hb1 hnv1 hg
  have c := encode_any W1 (some ⟨g, 0, none⟩) n (n + 1) L HVG.out HT.out (HE.out.on R1.out) s
  go_wp2_with (go_at_call 5; refine StopF.out ?_)
  refine ⟨Calls.mono c ?_⟩
  rintro e W2 ⟨ua, va, rfl, hoa, hna, hpa, hb2⟩
  obtain ⟨m, hm⟩ : ∃ m, (outB s L).length = m := ⟨_, rfl⟩
  have HM : Hid ((outB s L).length = m ∧ siz s L = m ∧ m ≤ 1048576) := ⟨hm, (out_le s L).1.symm.trans hm, by rw [← hm, (out_le s L).1]; exact (out_le s L).2⟩
  obtain ⟨aa, qa, rfl, -⟩ := hoa.form
  have HOA : Hid (Ob W1.heap.size W2 (.slice aa m qa) (outB s L)) := by rw [← hm]; exact hoa
  have HNA : Hid (m = 0 → aa = none ∧ qa = 0) := fun h0 => by
    have h1 := hna (List.length_eq_zero_iff.1 (by omega))
    injection h1 with e1 e2 e3
    exact ⟨e1, e3⟩
  have HPA : Hid (PErr W2 va (errOf s L)) := hpa
  have R2 : Hid (Below W1.heap.size W1 W2) := hb2
  rw [hm]
  clear c hoa hna hpa hb2 hm
  have c := size_any W2 (some ⟨g, 0, none⟩) n (n + 1) L (HVG.out.on R2.out) HT.out (HE.out.on (lat R1.out R2.out)) s
  go_wp2_with (go_at_call 6; refine StopF.out ?_)
  refine ⟨Calls.mono c ?_⟩
  rintro e W3 ⟨vs, rfl, hps, hb3⟩
  have HPS : Hid (PErr W3 vs (errOf s L)) := hps
  have R3 : Hid (Below W2.heap.size W2 W3) := hb3
  rw [HM.out.2.1]
  clear c hps hb3
  have c := rencode_any some_zero W3 a n cap L (HV.out.on (lat R1.out (lat R2.out R3.out))) HT.out s
  go_wp2_with (go_at_call 7; refine StopF.out ?_)
  refine ⟨Calls.mono c ?_⟩
  rintro e W4 ⟨ub, vf, rfl, hob, hrf, hb4⟩
  obtain ⟨ab, qb, rfl, -⟩ := hob.form
  have HOB : Hid (Ob W3.heap.size W4 (.slice ab m qb) (outB s L)) := by rw [← HM.out.1]; exact hob
  have HRF : Hid (RErr2 W4 vf (errOf s L)) := hrf
  obtain ⟨fa, fm, fc, fk, rfl⟩ := hrf.form
  have R4 : Hid (Below W3.heap.size W3 W4) := hb4
  rw [HM.out.1]
  clear c hob hrf hb4
  obtain ⟨W5, hW5⟩ : ∃ W5, W4.alloc (.cells #[.slice fa fm fc, .int .i64 fk] 34) = W5 := ⟨_, rfl⟩
  have R5 : Hid (Below W4.heap.size W4 W5) := by rw [← hW5]; exact (Below.refl _ _).alloc (Nat.le_refl _) _
  have f0 : W5.cell? ⟨W4.heap.size, 0, none⟩ = some (.slice fa fm fc) := by rw [← hW5]; simp
  have f1 : W5.cell? ⟨W4.heap.size, 1, none⟩ = some (.int .i64 fk) := by rw [← hW5]; simp
  have HFC : Hid (W5.cell? ⟨W4.heap.size, 0, none⟩ = some (.slice fa fm fc) ∧ W5.cell? ⟨W4.heap.size, 1, none⟩ = some (.int .i64 fk)) := ⟨f0, f1⟩
  have hmI : m ≤ 1048576 := HM.out.2.2
  have c := is_both (HPA.out.on (lat R3.out (lat R4.out R5.out))) (HRF.out.on R5.out)
  go_wp2_with (go_at_call 8; refine StopF.out ?_)
  refine ⟨Calls.mono c ?_⟩
  rintro e W6 ⟨rfl, hb6⟩
  have R6 : Hid (Below W5.heap.size W5 W6) := hb6
  clear c hb6 hW5
  have k0 := (R6.out.cell (p := ⟨W4.heap.size, 0, none⟩) (Tb.cell_lt f0)).trans f0
  have k1 := (R6.out.cell (p := ⟨W4.heap.size, 1, none⟩) (Tb.cell_lt f1)).trans f1
  clear f0 f1
  have c := is_both (HPS.out.on (lat R4.out (lat R5.out R6.out))) (HRF.out.on (lat R5.out R6.out))
  go_wp2_with (go_at_call 8; refine StopF.out ?_)
  refine ⟨Calls.mono c ?_⟩
  rintro e W7 ⟨rfl, hb7⟩
  have R7 : Hid (Below W6.heap.size W6 W7) := hb7
  clear c hb7 k0 k1
  have c := bytes_same W7 W1.heap.size W3.heap.size (.slice aa m qa) (.slice ab m qb) (outB s L) (HOA.out.on (lat R3.out (lat R4.out (lat R5.out (lat R6.out R7.out))))) (HOB.out.on (lat R5.out (lat R6.out R7.out))) (by rw [HM.out.1]; omega)
  go_wp2_with (go_at_call 9; refine StopF.out ?_)
  refine ⟨Calls.mono c ?_⟩
  rintro e W8 ⟨rfl, hb8⟩
  have R8 : Hid (Below W7.heap.size W7 W8) := hb8.out
  clear c hb8
  by_cases hm0 : m = 0
  · obtain ⟨rfl, rfl⟩ := HNA.out hm0
    subst hm0
    have c := Wk.kept_any W8 g w.heap.size a n cap L (HV.out.on (lat R1.out (lat R2.out (lat R3.out (lat R4.out (lat R5.out (lat R6.out (lat R7.out R8.out)))))))) (HLG.out.keep (Below.block (lat R2.out (lat R3.out (lat R4.out (lat R5.out (lat R6.out (lat R7.out R8.out)))))) _ HLG.out.lt))
    go_wp2_with (go_at_call 10; refine StopF.out ?_)
    refine ⟨Calls.mono c ?_⟩
    rintro e W9 ⟨rfl, hb9⟩
    have R9 : Hid (Below W8.heap.size W8 W9) := hb9
    clear c hb9
    have c := fun s' => encode_any W9 (some ⟨g, 0, none⟩) n (n + 1) L (HVG.out.on (lat R2.out (lat R3.out (lat R4.out (lat R5.out (lat R6.out (lat R7.out (lat R8.out R9.out)))))))) HT.out (HE.out.on (lat R1.out (lat R2.out (lat R3.out (lat R4.out (lat R5.out (lat R6.out (lat R7.out (lat R8.out R9.out))))))))) s'
    go_wp2_with (go_at_call 5; refine StopF.out ?_)
    refine ⟨Calls.mono (c _) ?_⟩
    rintro e W10 ⟨uo, vo, rfl, hoo, -, hpo, hb10⟩
    obtain ⟨ao, qo, rfl, -⟩ := hoo.form
    generalize hso : wrap64 (s + 1) = so at hoo ⊢
    obtain ⟨mo, hmo⟩ : ∃ mo, (outB so L).length = mo := ⟨_, rfl⟩
    have HOO : Hid (Ob W9.heap.size W10 (.slice ao mo qo) (outB so L) ∧ (outB so L).length = mo) := ⟨by rw [← hmo]; exact hoo, hmo⟩
    rw [hmo]
    have R10 : Hid (Below W9.heap.size W9 W10) := hb10
    clear c hoo hpo hb10 hso hmo
    have c := encode_any W10 (some ⟨g, 0, none⟩) n (n + 1) L (HVG.out.on (lat R2.out (lat R3.out (lat R4.out (lat R5.out (lat R6.out (lat R7.out (lat R8.out (lat R9.out R10.out))))))))) HT.out (HE.out.on (lat R1.out (lat R2.out (lat R3.out (lat R4.out (lat R5.out (lat R6.out (lat R7.out (lat R8.out (lat R9.out R10.out)))))))))) 1
    go_wp2_with (go_at_call 5; refine StopF.out ?_)
    refine ⟨Calls.mono c ?_⟩
    rintro e W11 ⟨up, vp, rfl, hop, -, hpp, hb11⟩
    obtain ⟨ap, qp, rfl, -⟩ := hop.form
    obtain ⟨mp, hmp⟩ : ∃ mp, (outB 1 L).length = mp := ⟨_, rfl⟩
    have HOP : Hid (Ob W10.heap.size W11 (.slice ap mp qp) (outB 1 L) ∧ (outB 1 L).length = mp) := ⟨by rw [← hmp]; exact hop, hmp⟩
    rw [hmp]
    have R11 : Hid (Below W10.heap.size W10 W11) := hb11
    clear c hop hpp hb11 hmp
    have c := encode_any W11 (some ⟨g, 0, none⟩) n (n + 1) L (HVG.out.on (lat R2.out (lat R3.out (lat R4.out (lat R5.out (lat R6.out (lat R7.out (lat R8.out (lat R9.out (lat R10.out R11.out)))))))))) HT.out (HE.out.on (lat R1.out (lat R2.out (lat R3.out (lat R4.out (lat R5.out (lat R6.out (lat R7.out (lat R8.out (lat R9.out (lat R10.out R11.out))))))))))) s
    go_wp2_with (go_at_call 5; refine StopF.out ?_)
    refine ⟨Calls.mono c ?_⟩
    rintro e W12 ⟨uc, vc, rfl, hoc, -, hpc, hb12⟩
    obtain ⟨ac, qc, rfl, -⟩ := hoc.form
    rw [HM.out.1] at hoc ⊢
    have HOC : Hid (Ob W11.heap.size W12 (.slice ac 0 qc) (outB s L)) := hoc
    have R12 : Hid (Below W11.heap.size W11 W12) := hb12
    have f0 := (Below.cell (lat R6.out (lat R7.out (lat R8.out (lat R9.out (lat R10.out (lat R11.out R12.out)))))) (p := ⟨W4.heap.size, 0, none⟩) (Tb.cell_lt HFC.out.1)).trans HFC.out.1
    have f1 := (Below.cell (lat R6.out (lat R7.out (lat R8.out (lat R9.out (lat R10.out (lat R11.out R12.out)))))) (p := ⟨W4.heap.size, 1, none⟩) (Tb.cell_lt HFC.out.2)).trans HFC.out.2
    have cc := is_both hpc (HRF.out.on (lat R5.out (lat R6.out (lat R7.out (lat R8.out (lat R9.out (lat R10.out (lat R11.out R12.out))))))))
    clear c hoc hpc hb12
    go_wp2_with (go_at_call 8; refine StopF.out ?_)
    refine ⟨Calls.mono cc ?_⟩
    rintro e W13 ⟨rfl, hb13⟩
    have R13 : Hid (Below W12.heap.size W12 W13) := hb13
    clear cc hb13 f0 f1
    have c := bytes_same W13 W1.heap.size W3.heap.size (.slice none 0 0) (.slice ab 0 qb) (outB s L) (HOA.out.on (lat R3.out (lat R4.out (lat R5.out (lat R6.out (lat R7.out (lat R8.out (lat R9.out (lat R10.out (lat R11.out (lat R12.out R13.out))))))))))) (HOB.out.on (lat R5.out (lat R6.out (lat R7.out (lat R8.out (lat R9.out (lat R10.out (lat R11.out (lat R12.out R13.out))))))))) (by rw [HM.out.1]; omega)
    go_wp2_with (go_at_call 9; refine StopF.out ?_)
    refine ⟨Calls.mono c ?_⟩
    rintro e W14 ⟨rfl, hb14⟩
    have R14 : Hid (Below W13.heap.size W13 W14) := hb14.out
    clear c hb14
    have c := bytes_same W14 W11.heap.size W3.heap.size (.slice ac 0 qc) (.slice ab 0 qb) (outB s L) (HOC.out.on (lat R13.out R14.out)) (HOB.out.on (lat R5.out (lat R6.out (lat R7.out (lat R8.out (lat R9.out (lat R10.out (lat R11.out (lat R12.out (lat R13.out R14.out)))))))))) (by rw [HM.out.1]; omega)
    go_wp2_with (go_at_call 9; refine StopF.out ?_)
    refine ⟨Calls.mono c ?_⟩
    rintro e W15 ⟨rfl, hb15⟩
    have R15 : Hid (Below W14.heap.size W14 W15) := hb15.out
    clear c hb15
    have HL15 : Hid (Lent g L w.heap.size W15) := HLG.out.keep (Below.block (lat R2.out (lat R3.out (lat R4.out (lat R5.out (lat R6.out (lat R7.out (lat R8.out (lat R9.out (lat R10.out (lat R11.out (lat R12.out (lat R13.out (lat R14.out R15.out))))))))))))) _ HLG.out.lt)
    have c := Wk.turn_any W15 g w.heap.size n L HL15.out HN.out hsm HTS.out
    go_wp2_with (go_at_call 11; refine StopF.out ?_)
    refine ⟨Calls.mono c ?_⟩
    rintro e W16 ⟨v16, rfl, h16⟩
    obtain ⟨Q, hQ⟩ := h16.out
    have hlen : Q.length = n := hQ.sh.1.trans HN.out.symm
    have ho := hQ.own
    rw [← hlen, List.take_length, hlen] at ho
    obtain ⟨az, cz, rfl⟩ : ∃ az cz, v16 = .slice az n cz := by
      rcases ho.2 with ⟨hv, hn⟩ | ⟨g2, cp, cur, hv, -⟩
      · exact ⟨none, 0, by rw [hv, hn]⟩
      · exact ⟨_, cp, hv⟩
    have HQT : Hid (TagsOk Q) := Sh.tags hQ.sh HT.out
    have HQN : Hid (∀ x ∈ Q, -9223372036854775808 ≤ x.n ∧ x.n ≤ 9223372036854775807) := Sh.num hQ.sh HNUM.out
    have HQO : Hid (W16.ownsRow W15.heap.size 47 4 (.slice az n cz) n (Wk.nds Q)) := ho
    have HQL : Hid (Q.length = n) := hlen
    have HQG : Hid (Lent g Q w.heap.size W16) := hQ.lent
    have HKO : Hid (KO g W15 W16) := hQ.ko
    clear h16 hQ ho hlen c
    have H0 : Hid (0 < w.heap.size) := Rp.cell_lt HE.out
    have HE16 : Hid (EG W16) := (World.cell?_of_block (a := ⟨0, 0, none⟩) (HKO.out.block 0 (Nat.lt_of_lt_of_le H0.out (Below.size (lat R1.out (lat R2.out (lat R3.out (lat R4.out (lat R5.out (lat R6.out (lat R7.out (lat R8.out (lat R9.out (lat R10.out (lat R11.out (lat R12.out (lat R13.out (lat R14.out R15.out)))))))))))))))) (by have := H0.out; have := HG.out; omega))).trans (HE.out.on (lat R1.out (lat R2.out (lat R3.out (lat R4.out (lat R5.out (lat R6.out (lat R7.out (lat R8.out (lat R9.out (lat R10.out (lat R11.out (lat R12.out (lat R13.out (lat R14.out R15.out)))))))))))))))
    have HVQ : Hid (NV W16 (some ⟨g, 0, none⟩) n (n + 1) Q) := by
      have := HQG.out.nv (by rw [HQL.out]; exact hsm) HQN.out
      rw [HQL.out] at this
      exact this
    have HVO : Hid (NV W16 az n cz Q) := by
      rcases HQO.out.2 with ⟨hv, hn⟩ | ⟨g2, cp, cur, hv, -⟩
      · cases hv
        exact ⟨HQL.out.symm, Nat.zero_le _, by omega, fun h => absurd h (by omega), HQN.out⟩
      · cases hv
        exact own_nv HQO.out HQL.out.symm hsm HQN.out
    have hg1 : g < W1.heap.size := HLG.out.lt
    have HSZ : Hid (w.heap.size = g ∧ g < W1.heap.size ∧ W1.heap.size ≤ W2.heap.size ∧ W2.heap.size ≤ W3.heap.size ∧ W3.heap.size ≤ W4.heap.size ∧ W4.heap.size ≤ W9.heap.size ∧ W9.heap.size ≤ W10.heap.size ∧ W10.heap.size ≤ W11.heap.size ∧ W11.heap.size ≤ W12.heap.size ∧ W12.heap.size ≤ W15.heap.size ∧ W15.heap.size ≤ W16.heap.size) := ⟨HG.out, hg1, R2.out.size, R3.out.size, R4.out.size, Below.size (lat R5.out (lat R6.out (lat R7.out (lat R8.out R9.out)))), R10.out.size, R11.out.size, R12.out.size, Below.size (lat R13.out (lat R14.out R15.out)), HKO.out.size⟩
    have HA16 : Hid (Ob W1.heap.size W16 (.slice none 0 0) (outB s L)) := own_ko (HOA.out.on (lat R3.out (lat R4.out (lat R5.out (lat R6.out (lat R7.out (lat R8.out (lat R9.out (lat R10.out (lat R11.out (lat R12.out (lat R13.out (lat R14.out R15.out))))))))))))) HKO.out hg1
    have HB16 : Hid (Ob W3.heap.size W16 (.slice ab 0 qb) (outB s L)) := own_ko (HOB.out.on (lat R5.out (lat R6.out (lat R7.out (lat R8.out (lat R9.out (lat R10.out (lat R11.out (lat R12.out (lat R13.out (lat R14.out R15.out))))))))))) HKO.out (by have := HSZ.out; omega)
    have HO16 : Hid (Ob W9.heap.size W16 (.slice ao mo qo) (outB so L)) := own_ko (HOO.out.1.on (lat R11.out (lat R12.out (lat R13.out (lat R14.out R15.out))))) HKO.out (by have := HSZ.out; omega)
    have HP16 : Hid (Ob W10.heap.size W16 (.slice ap mp qp) (outB 1 L)) := own_ko (HOP.out.1.on (lat R12.out (lat R13.out (lat R14.out R15.out)))) HKO.out (by have := HSZ.out; omega)
    have HC16 : Hid (Ob W11.heap.size W16 (.slice ac 0 qc) (outB s L)) := own_ko (HOC.out.on (lat R13.out (lat R14.out R15.out))) HKO.out (by have := HSZ.out; omega)
    have c := encode_any W16 (some ⟨g, 0, none⟩) n (n + 1) Q HVQ.out HQT.out HE16.out s
    go_wp2_with (go_at_call 5; refine StopF.out ?_)
    refine ⟨Calls.mono c ?_⟩
    rintro e W17 ⟨ud, vd, rfl, hod, -, hpd, hb17⟩
    obtain ⟨m2, hm2⟩ : ∃ m2, (outB s Q).length = m2 := ⟨_, rfl⟩
    have HM2 : Hid ((outB s Q).length = m2 ∧ siz s Q = m2 ∧ m2 ≤ 1048576) := ⟨hm2, (out_le s Q).1.symm.trans hm2, by rw [← hm2, (out_le s Q).1]; exact (out_le s Q).2⟩
    obtain ⟨ad, qd, rfl, -⟩ := hod.form
    have HOD : Hid (Ob W16.heap.size W17 (.slice ad m2 qd) (outB s Q)) := by rw [← hm2]; exact hod
    have HPD : Hid (PErr W17 vd (errOf s Q)) := hpd
    have R17 : Hid (Below W16.heap.size W16 W17) := hb17
    rw [hm2]
    clear c hod hpd hb17 hm2
    have c := size_any W17 (some ⟨g, 0, none⟩) n (n + 1) Q (HVQ.out.on R17.out) HQT.out (HE16.out.on R17.out) s
    go_wp2_with (go_at_call 6; refine StopF.out ?_)
    refine ⟨Calls.mono c ?_⟩
    rintro e W18 ⟨vt, rfl, hpt, hb18⟩
    have HPT : Hid (PErr W18 vt (errOf s Q)) := hpt
    have R18 : Hid (Below W17.heap.size W17 W18) := hb18
    rw [HM2.out.2.1]
    clear c hpt hb18
    have c := rencode_any some_zero W18 az n cz Q (HVO.out.on (lat R17.out R18.out)) HQT.out s
    go_wp2_with (go_at_call 7; refine StopF.out ?_)
    refine ⟨Calls.mono c ?_⟩
    rintro e W19 ⟨ue, vg, rfl, hoe, hrg, hb19⟩
    obtain ⟨ae, qe, rfl, -⟩ := hoe.form
    have HOE : Hid (Ob W18.heap.size W19 (.slice ae m2 qe) (outB s Q)) := by rw [← HM2.out.1]; exact hoe
    have HRG : Hid (RErr2 W19 vg (errOf s Q)) := hrg
    obtain ⟨ga, gm, gc, gk, rfl⟩ := hrg.form
    have R19 : Hid (Below W18.heap.size W18 W19) := hb19
    rw [HM2.out.1]
    clear c hoe hrg hb19
    obtain ⟨W20, hW20⟩ : ∃ W20, W19.alloc (.cells #[.slice ga gm gc, .int .i64 gk] 34) = W20 := ⟨_, rfl⟩
    have R20 : Hid (Below W19.heap.size W19 W20) := by rw [← hW20]; exact (Below.refl _ _).alloc (Nat.le_refl _) _
    have f0 : W20.cell? ⟨W19.heap.size, 0, none⟩ = some (.slice ga gm gc) := by rw [← hW20]; simp
    have f1 : W20.cell? ⟨W19.heap.size, 1, none⟩ = some (.int .i64 gk) := by rw [← hW20]; simp
    have hm2I : m2 ≤ 1048576 := HM2.out.2.2
    have c := is_both (HPD.out.on (lat R18.out (lat R19.out R20.out))) (HRG.out.on R20.out)
    go_wp2_with (go_at_call 8; refine StopF.out ?_)
    refine ⟨Calls.mono c ?_⟩
    rintro e W21 ⟨rfl, hb21⟩
    have R21 : Hid (Below W20.heap.size W20 W21) := hb21
    clear c hb21 hW20
    have k0 := (R21.out.cell (p := ⟨W19.heap.size, 0, none⟩) (Tb.cell_lt f0)).trans f0
    have k1 := (R21.out.cell (p := ⟨W19.heap.size, 1, none⟩) (Tb.cell_lt f1)).trans f1
    clear f0 f1
    have c := is_both (HPT.out.on (lat R19.out (lat R20.out R21.out))) (HRG.out.on (lat R20.out R21.out))
    go_wp2_with (go_at_call 8; refine StopF.out ?_)
    refine ⟨Calls.mono c ?_⟩
    rintro e W22 ⟨rfl, hb22⟩
    have R22 : Hid (Below W21.heap.size W21 W22) := hb22
    clear c hb22 k0 k1
    have c := bytes_same W22 W16.heap.size W18.heap.size (.slice ad m2 qd) (.slice ae m2 qe) (outB s Q) (HOD.out.on (lat R18.out (lat R19.out (lat R20.out (lat R21.out R22.out))))) (HOE.out.on (lat R20.out (lat R21.out R22.out))) (by rw [HM2.out.1]; omega)
    go_wp2_with (go_at_call 9; refine StopF.out ?_)
    refine ⟨Calls.mono c ?_⟩
    rintro e W23 ⟨rfl, hb23⟩
    have R23 : Hid (Below W22.heap.size W22 W23) := hb23.out
    clear c hb23
    have c := bytes_same W23 W1.heap.size W3.heap.size (.slice none 0 0) (.slice ab 0 qb) (outB s L) (HA16.out.on (lat R17.out (lat R18.out (lat R19.out (lat R20.out (lat R21.out (lat R22.out R23.out))))))) (HB16.out.on (lat R17.out (lat R18.out (lat R19.out (lat R20.out (lat R21.out (lat R22.out R23.out))))))) (by rw [HM.out.1]; omega)
    go_wp2_with (go_at_call 9; refine StopF.out ?_)
    refine ⟨Calls.mono c ?_⟩
    rintro e W24 ⟨rfl, hb24⟩
    have R24 : Hid (Below W23.heap.size W23 W24) := hb24.out
    clear c hb24
    obtain ⟨W25, hW25⟩ : ∃ W25, W24.alloc (.cells #[.slice none 0 0, .slice ao mo qo, .slice ap mp qp, .slice ac 0 qc, .slice ad m2 qd] 25) = W25 := ⟨_, rfl⟩
    have R25 : Hid (Below W24.heap.size W24 W25) := by rw [← hW25]; exact (Below.refl _ _).alloc (Nat.le_refl _) _
    have HS25 : Hid (W25.heap.size = W24.heap.size + 1) := by rw [← hW25]; show _ = _; simp
    have HC25 : Hid (∀ i : Fin 5, W25.cell? ⟨W24.heap.size, i.val, none⟩ = some ([Value.slice none 0 0, .slice ao mo qo, .slice ap mp qp, .slice ac 0 qc, .slice ad m2 qd].getD i.val .nilIface)) := by
      rw [← hW25]
      intro i
      rcases i with ⟨i, hi⟩
      rcases (show i = 0 ∨ i = 1 ∨ i = 2 ∨ i = 3 ∨ i = 4 by omega) with rfl | rfl | rfl | rfl | rfl <;> simp
    have HSZ2 : Hid (W16.heap.size ≤ W17.heap.size ∧ W17.heap.size ≤ W24.heap.size) := ⟨R17.out.size, Below.size (lat R18.out (lat R19.out (lat R20.out (lat R21.out (lat R22.out (lat R23.out R24.out))))))⟩
    have r0 : ∀ k, (Value.slice none 0 0).ownBlock = some k → W1.heap.size ≤ k ∧ k < W2.heap.size := fun k hk => HOA.out.lt k hk
    have r1 : ∀ k, (Value.slice ao mo qo).ownBlock = some k → W9.heap.size ≤ k ∧ k < W10.heap.size := fun k hk => HOO.out.1.lt k hk
    have r2 : ∀ k, (Value.slice ap mp qp).ownBlock = some k → W10.heap.size ≤ k ∧ k < W11.heap.size := fun k hk => HOP.out.1.lt k hk
    have r3 : ∀ k, (Value.slice ac 0 qc).ownBlock = some k → W11.heap.size ≤ k ∧ k < W12.heap.size := fun k hk => HOC.out.lt k hk
    have r4 : ∀ k, (Value.slice ad m2 qd).ownBlock = some k → W16.heap.size ≤ k ∧ k < W17.heap.size := fun k hk => HOD.out.lt k hk
    have hr : ∀ (i : Fin 5) k, ([Value.slice none 0 0, .slice ao mo qo, .slice ap mp qp, .slice ac 0 qc, .slice ad m2 qd].getD i.val .nilIface).ownBlock = some k → (i.val = 0 ∧ W1.heap.size ≤ k ∧ k < W2.heap.size) ∨ (i.val = 1 ∧ W9.heap.size ≤ k ∧ k < W10.heap.size) ∨ (i.val = 2 ∧ W10.heap.size ≤ k ∧ k < W11.heap.size) ∨ (i.val = 3 ∧ W11.heap.size ≤ k ∧ k < W12.heap.size) ∨ (i.val = 4 ∧ W16.heap.size ≤ k ∧ k < W17.heap.size) := fun i k hk => by
      rcases i with ⟨i, hi⟩
      rcases (show i = 0 ∨ i = 1 ∨ i = 2 ∨ i = 3 ∨ i = 4 by omega) with rfl | rfl | rfl | rfl | rfl
      · exact .inl ⟨rfl, r0 k hk⟩
      · exact .inr (.inl ⟨rfl, r1 k hk⟩)
      · exact .inr (.inr (.inl ⟨rfl, r2 k hk⟩))
      · exact .inr (.inr (.inr (.inl ⟨rfl, r3 k hk⟩)))
      · exact .inr (.inr (.inr (.inr ⟨rfl, r4 k hk⟩)))
    have HHR : Hid _ := hr
    clear r0 r1 r2 r3 r4 hr
    have c := free5 W25 w.heap.size W24.heap.size 5 (fun i => [Value.slice none 0 0, .slice ao mo qo, .slice ap mp qp, .slice ac 0 qc, .slice ad m2 qd].getD i.val .nilIface) (fun i => [outB s L, outB so L, outB 1 L, outB s L, outB s Q].getD i.val [])
      (fun i => by
        rcases i with ⟨i, hi⟩
        have hsz := HSZ.out
        rcases (show i = 0 ∨ i = 1 ∨ i = 2 ∨ i = 3 ∨ i = 4 by omega) with rfl | rfl | rfl | rfl | rfl
        · exact Ob.low (HA16.out.on (lat R17.out (lat R18.out (lat R19.out (lat R20.out (lat R21.out (lat R22.out (lat R23.out (lat R24.out R25.out))))))))) (by omega)
        · exact Ob.low (HO16.out.on (lat R17.out (lat R18.out (lat R19.out (lat R20.out (lat R21.out (lat R22.out (lat R23.out (lat R24.out R25.out))))))))) (by omega)
        · exact Ob.low (HP16.out.on (lat R17.out (lat R18.out (lat R19.out (lat R20.out (lat R21.out (lat R22.out (lat R23.out (lat R24.out R25.out))))))))) (by omega)
        · exact Ob.low (HC16.out.on (lat R17.out (lat R18.out (lat R19.out (lat R20.out (lat R21.out (lat R22.out (lat R23.out (lat R24.out R25.out))))))))) (by omega)
        · exact Ob.low (HOD.out.on (lat R18.out (lat R19.out (lat R20.out (lat R21.out (lat R22.out (lat R23.out (lat R24.out R25.out)))))))) (by omega))
      (fun i => by
        rcases i with ⟨i, hi⟩
        have q1 := out_le s L
        have q2 := out_le so L
        have q3 := out_le 1 L
        have q4 := out_le s Q
        rcases (show i = 0 ∨ i = 1 ∨ i = 2 ∨ i = 3 ∨ i = 4 by omega) with rfl | rfl | rfl | rfl | rfl
        · show (outB s L).length ≤ _; omega
        · show (outB so L).length ≤ _; omega
        · show (outB 1 L).length ≤ _; omega
        · show (outB s L).length ≤ _; omega
        · show (outB s Q).length ≤ _; omega)
      HC25.out (by have := HSZ.out; have := HSZ2.out; have := HS25.out; omega)
      (fun i j hij k e1 e2 => by
        have t1 := HHR.out i k e1
        have t2 := HHR.out j k e2
        have := HSZ.out
        have hne : i.val ≠ j.val := fun e => hij (Fin.ext e)
        omega)
      (fun i e => by
        have t1 := HHR.out i _ e
        have := HSZ.out
        have := HSZ2.out
        omega)
    go_wp2_with (go_at_call 12; refine StopF.out ?_)
    refine ⟨Calls.mono c ?_⟩
    rintro e W26 ⟨rfl, hkr⟩
    have HF : Hid (Below w.heap.size w W26) := by
      have b1 : Below w.heap.size w W16 := Below.trans (lat R1.out (lat R2.out (lat R3.out (lat R4.out (lat R5.out (lat R6.out (lat R7.out (lat R8.out (lat R9.out (lat R10.out (lat R11.out (lat R12.out (lat R13.out (lat R14.out R15.out)))))))))))))) (HKO.out.below (by have := HG.out; omega) (Below.size (lat R1.out (lat R2.out (lat R3.out (lat R4.out (lat R5.out (lat R6.out (lat R7.out (lat R8.out (lat R9.out (lat R10.out (lat R11.out (lat R12.out (lat R13.out (lat R14.out R15.out))))))))))))))))
      have b2 : Below w.heap.size w W25 := b1.trans (Below.mono (lat R17.out (lat R18.out (lat R19.out (lat R20.out (lat R21.out (lat R22.out (lat R23.out (lat R24.out R25.out)))))))) b1.size)
      refine b2.trans ⟨hkr.os, hkr.tape, hkr.output, hkr.size, fun k hk => hkr.block k (Nat.lt_of_lt_of_le hk b2.size) (fun i hi e => ?_)⟩
      simp only [dif_pos hi] at e
      have t1 := HHR.out ⟨i, hi⟩ k e
      have := HSZ.out
      omega
    clear c hkr hW25
    go_wp2
    go_ret
    exact ⟨rfl, HF.out⟩
  · have hm0I : ¬ (m : Int) = 0 := by omega
    have hm0b : ((m : Int) == 0) = false := beq_eq_false_iff_ne.2 (by omega)
    clear hm0
    have c := Wk.kept_any W8 g w.heap.size a n cap L (HV.out.on (lat R1.out (lat R2.out (lat R3.out (lat R4.out (lat R5.out (lat R6.out (lat R7.out R8.out)))))))) (HLG.out.keep (Below.block (lat R2.out (lat R3.out (lat R4.out (lat R5.out (lat R6.out (lat R7.out R8.out)))))) _ HLG.out.lt))
    go_wp2_with (go_at_call 10; refine StopF.out ?_)
    refine ⟨Calls.mono c ?_⟩
    rintro e W9 ⟨rfl, hb9⟩
    have R9 : Hid (Below W8.heap.size W8 W9) := hb9
    clear c hb9
    have c := fun s' => encode_any W9 (some ⟨g, 0, none⟩) n (n + 1) L (HVG.out.on (lat R2.out (lat R3.out (lat R4.out (lat R5.out (lat R6.out (lat R7.out (lat R8.out R9.out)))))))) HT.out (HE.out.on (lat R1.out (lat R2.out (lat R3.out (lat R4.out (lat R5.out (lat R6.out (lat R7.out (lat R8.out R9.out))))))))) s'
    go_wp2_with (go_at_call 5; refine StopF.out ?_)
    refine ⟨Calls.mono (c _) ?_⟩
    rintro e W10 ⟨uo, vo, rfl, hoo, -, hpo, hb10⟩
    obtain ⟨ao, qo, rfl, -⟩ := hoo.form
    generalize hso : wrap64 (s + 1) = so at hoo ⊢
    obtain ⟨mo, hmo⟩ : ∃ mo, (outB so L).length = mo := ⟨_, rfl⟩
    have HOO : Hid (Ob W9.heap.size W10 (.slice ao mo qo) (outB so L) ∧ (outB so L).length = mo) := ⟨by rw [← hmo]; exact hoo, hmo⟩
    rw [hmo]
    have R10 : Hid (Below W9.heap.size W9 W10) := hb10
    clear c hoo hpo hb10 hso hmo
    have c := encode_any W10 (some ⟨g, 0, none⟩) n (n + 1) L (HVG.out.on (lat R2.out (lat R3.out (lat R4.out (lat R5.out (lat R6.out (lat R7.out (lat R8.out (lat R9.out R10.out))))))))) HT.out (HE.out.on (lat R1.out (lat R2.out (lat R3.out (lat R4.out (lat R5.out (lat R6.out (lat R7.out (lat R8.out (lat R9.out R10.out)))))))))) 1
    go_wp2_with (go_at_call 5; refine StopF.out ?_)
    refine ⟨Calls.mono c ?_⟩
    rintro e W11 ⟨up, vp, rfl, hop, -, hpp, hb11⟩
    obtain ⟨ap, qp, rfl, -⟩ := hop.form
    obtain ⟨mp, hmp⟩ : ∃ mp, (outB 1 L).length = mp := ⟨_, rfl⟩
    have HOP : Hid (Ob W10.heap.size W11 (.slice ap mp qp) (outB 1 L) ∧ (outB 1 L).length = mp) := ⟨by rw [← hmp]; exact hop, hmp⟩
    rw [hmp]
    have R11 : Hid (Below W10.heap.size W10 W11) := hb11
    clear c hop hpp hb11 hmp
    have c := encode_any W11 (some ⟨g, 0, none⟩) n (n + 1) L (HVG.out.on (lat R2.out (lat R3.out (lat R4.out (lat R5.out (lat R6.out (lat R7.out (lat R8.out (lat R9.out (lat R10.out R11.out)))))))))) HT.out (HE.out.on (lat R1.out (lat R2.out (lat R3.out (lat R4.out (lat R5.out (lat R6.out (lat R7.out (lat R8.out (lat R9.out (lat R10.out R11.out))))))))))) s
    go_wp2_with (go_at_call 5; refine StopF.out ?_)
    refine ⟨Calls.mono c ?_⟩
    rintro e W12 ⟨uc, vc, rfl, hoc, -, hpc, hb12⟩
    obtain ⟨ac, qc, rfl, -⟩ := hoc.form
    rw [HM.out.1] at hoc ⊢
    have HOC : Hid (Ob W11.heap.size W12 (.slice ac m qc) (outB s L)) := hoc
    have R12 : Hid (Below W11.heap.size W11 W12) := hb12
    have f0 := (Below.cell (lat R6.out (lat R7.out (lat R8.out (lat R9.out (lat R10.out (lat R11.out R12.out)))))) (p := ⟨W4.heap.size, 0, none⟩) (Tb.cell_lt HFC.out.1)).trans HFC.out.1
    have f1 := (Below.cell (lat R6.out (lat R7.out (lat R8.out (lat R9.out (lat R10.out (lat R11.out R12.out)))))) (p := ⟨W4.heap.size, 1, none⟩) (Tb.cell_lt HFC.out.2)).trans HFC.out.2
    have cc := is_both hpc (HRF.out.on (lat R5.out (lat R6.out (lat R7.out (lat R8.out (lat R9.out (lat R10.out (lat R11.out R12.out))))))))
    clear c hoc hpc hb12
    go_wp2_with (go_at_call 8; refine StopF.out ?_)
    refine ⟨Calls.mono cc ?_⟩
    rintro e W13 ⟨rfl, hb13⟩
    have R13 : Hid (Below W12.heap.size W12 W13) := hb13
    clear cc hb13 f0 f1
    have c := bytes_same W13 W1.heap.size W3.heap.size (.slice aa m qa) (.slice ab m qb) (outB s L) (HOA.out.on (lat R3.out (lat R4.out (lat R5.out (lat R6.out (lat R7.out (lat R8.out (lat R9.out (lat R10.out (lat R11.out (lat R12.out R13.out))))))))))) (HOB.out.on (lat R5.out (lat R6.out (lat R7.out (lat R8.out (lat R9.out (lat R10.out (lat R11.out (lat R12.out R13.out))))))))) (by rw [HM.out.1]; omega)
    go_wp2_with (go_at_call 9; refine StopF.out ?_)
    refine ⟨Calls.mono c ?_⟩
    rintro e W14 ⟨rfl, hb14⟩
    have R14 : Hid (Below W13.heap.size W13 W14) := hb14.out
    clear c hb14
    have c := bytes_same W14 W11.heap.size W3.heap.size (.slice ac m qc) (.slice ab m qb) (outB s L) (HOC.out.on (lat R13.out R14.out)) (HOB.out.on (lat R5.out (lat R6.out (lat R7.out (lat R8.out (lat R9.out (lat R10.out (lat R11.out (lat R12.out (lat R13.out R14.out)))))))))) (by rw [HM.out.1]; omega)
    go_wp2_with (go_at_call 9; refine StopF.out ?_)
    refine ⟨Calls.mono c ?_⟩
    rintro e W15 ⟨rfl, hb15⟩
    have R15 : Hid (Below W14.heap.size W14 W15) := hb15.out
    clear c hb15
    have HL15 : Hid (Lent g L w.heap.size W15) := HLG.out.keep (Below.block (lat R2.out (lat R3.out (lat R4.out (lat R5.out (lat R6.out (lat R7.out (lat R8.out (lat R9.out (lat R10.out (lat R11.out (lat R12.out (lat R13.out (lat R14.out R15.out))))))))))))) _ HLG.out.lt)
    have c := Wk.turn_any W15 g w.heap.size n L HL15.out HN.out hsm HTS.out
    go_wp2_with (go_at_call 11; refine StopF.out ?_)
    refine ⟨Calls.mono c ?_⟩
    rintro e W16 ⟨v16, rfl, h16⟩
    obtain ⟨Q, hQ⟩ := h16.out
    have hlen : Q.length = n := hQ.sh.1.trans HN.out.symm
    have ho := hQ.own
    rw [← hlen, List.take_length, hlen] at ho
    obtain ⟨az, cz, rfl⟩ : ∃ az cz, v16 = .slice az n cz := by
      rcases ho.2 with ⟨hv, hn⟩ | ⟨g2, cp, cur, hv, -⟩
      · exact ⟨none, 0, by rw [hv, hn]⟩
      · exact ⟨_, cp, hv⟩
    have HQT : Hid (TagsOk Q) := Sh.tags hQ.sh HT.out
    have HQN : Hid (∀ x ∈ Q, -9223372036854775808 ≤ x.n ∧ x.n ≤ 9223372036854775807) := Sh.num hQ.sh HNUM.out
    have HQO : Hid (W16.ownsRow W15.heap.size 47 4 (.slice az n cz) n (Wk.nds Q)) := ho
    have HQL : Hid (Q.length = n) := hlen
    have HQG : Hid (Lent g Q w.heap.size W16) := hQ.lent
    have HKO : Hid (KO g W15 W16) := hQ.ko
    clear h16 hQ ho hlen c
    have H0 : Hid (0 < w.heap.size) := Rp.cell_lt HE.out
    have HE16 : Hid (EG W16) := (World.cell?_of_block (a := ⟨0, 0, none⟩) (HKO.out.block 0 (Nat.lt_of_lt_of_le H0.out (Below.size (lat R1.out (lat R2.out (lat R3.out (lat R4.out (lat R5.out (lat R6.out (lat R7.out (lat R8.out (lat R9.out (lat R10.out (lat R11.out (lat R12.out (lat R13.out (lat R14.out R15.out)))))))))))))))) (by have := H0.out; have := HG.out; omega))).trans (HE.out.on (lat R1.out (lat R2.out (lat R3.out (lat R4.out (lat R5.out (lat R6.out (lat R7.out (lat R8.out (lat R9.out (lat R10.out (lat R11.out (lat R12.out (lat R13.out (lat R14.out R15.out)))))))))))))))
    have HVQ : Hid (NV W16 (some ⟨g, 0, none⟩) n (n + 1) Q) := by
      have := HQG.out.nv (by rw [HQL.out]; exact hsm) HQN.out
      rw [HQL.out] at this
      exact this
    have HVO : Hid (NV W16 az n cz Q) := by
      rcases HQO.out.2 with ⟨hv, hn⟩ | ⟨g2, cp, cur, hv, -⟩
      · cases hv
        exact ⟨HQL.out.symm, Nat.zero_le _, by omega, fun h => absurd h (by omega), HQN.out⟩
      · cases hv
        exact own_nv HQO.out HQL.out.symm hsm HQN.out
    have hg1 : g < W1.heap.size := HLG.out.lt
    have HSZ : Hid (w.heap.size = g ∧ g < W1.heap.size ∧ W1.heap.size ≤ W2.heap.size ∧ W2.heap.size ≤ W3.heap.size ∧ W3.heap.size ≤ W4.heap.size ∧ W4.heap.size ≤ W9.heap.size ∧ W9.heap.size ≤ W10.heap.size ∧ W10.heap.size ≤ W11.heap.size ∧ W11.heap.size ≤ W12.heap.size ∧ W12.heap.size ≤ W15.heap.size ∧ W15.heap.size ≤ W16.heap.size) := ⟨HG.out, hg1, R2.out.size, R3.out.size, R4.out.size, Below.size (lat R5.out (lat R6.out (lat R7.out (lat R8.out R9.out)))), R10.out.size, R11.out.size, R12.out.size, Below.size (lat R13.out (lat R14.out R15.out)), HKO.out.size⟩
    have HA16 : Hid (Ob W1.heap.size W16 (.slice aa m qa) (outB s L)) := own_ko (HOA.out.on (lat R3.out (lat R4.out (lat R5.out (lat R6.out (lat R7.out (lat R8.out (lat R9.out (lat R10.out (lat R11.out (lat R12.out (lat R13.out (lat R14.out R15.out))))))))))))) HKO.out hg1
    have HB16 : Hid (Ob W3.heap.size W16 (.slice ab m qb) (outB s L)) := own_ko (HOB.out.on (lat R5.out (lat R6.out (lat R7.out (lat R8.out (lat R9.out (lat R10.out (lat R11.out (lat R12.out (lat R13.out (lat R14.out R15.out))))))))))) HKO.out (by have := HSZ.out; omega)
    have HO16 : Hid (Ob W9.heap.size W16 (.slice ao mo qo) (outB so L)) := own_ko (HOO.out.1.on (lat R11.out (lat R12.out (lat R13.out (lat R14.out R15.out))))) HKO.out (by have := HSZ.out; omega)
    have HP16 : Hid (Ob W10.heap.size W16 (.slice ap mp qp) (outB 1 L)) := own_ko (HOP.out.1.on (lat R12.out (lat R13.out (lat R14.out R15.out)))) HKO.out (by have := HSZ.out; omega)
    have HC16 : Hid (Ob W11.heap.size W16 (.slice ac m qc) (outB s L)) := own_ko (HOC.out.on (lat R13.out (lat R14.out R15.out))) HKO.out (by have := HSZ.out; omega)
    have c := encode_any W16 (some ⟨g, 0, none⟩) n (n + 1) Q HVQ.out HQT.out HE16.out s
    go_wp2_with (go_at_call 5; refine StopF.out ?_)
    refine ⟨Calls.mono c ?_⟩
    rintro e W17 ⟨ud, vd, rfl, hod, -, hpd, hb17⟩
    obtain ⟨m2, hm2⟩ : ∃ m2, (outB s Q).length = m2 := ⟨_, rfl⟩
    have HM2 : Hid ((outB s Q).length = m2 ∧ siz s Q = m2 ∧ m2 ≤ 1048576) := ⟨hm2, (out_le s Q).1.symm.trans hm2, by rw [← hm2, (out_le s Q).1]; exact (out_le s Q).2⟩
    obtain ⟨ad, qd, rfl, -⟩ := hod.form
    have HOD : Hid (Ob W16.heap.size W17 (.slice ad m2 qd) (outB s Q)) := by rw [← hm2]; exact hod
    have HPD : Hid (PErr W17 vd (errOf s Q)) := hpd
    have R17 : Hid (Below W16.heap.size W16 W17) := hb17
    rw [hm2]
    clear c hod hpd hb17 hm2
    have c := size_any W17 (some ⟨g, 0, none⟩) n (n + 1) Q (HVQ.out.on R17.out) HQT.out (HE16.out.on R17.out) s
    go_wp2_with (go_at_call 6; refine StopF.out ?_)
    refine ⟨Calls.mono c ?_⟩
    rintro e W18 ⟨vt, rfl, hpt, hb18⟩
    have HPT : Hid (PErr W18 vt (errOf s Q)) := hpt
    have R18 : Hid (Below W17.heap.size W17 W18) := hb18
    rw [HM2.out.2.1]
    clear c hpt hb18
    have c := rencode_any some_zero W18 az n cz Q (HVO.out.on (lat R17.out R18.out)) HQT.out s
    go_wp2_with (go_at_call 7; refine StopF.out ?_)
    refine ⟨Calls.mono c ?_⟩
    rintro e W19 ⟨ue, vg, rfl, hoe, hrg, hb19⟩
    obtain ⟨ae, qe, rfl, -⟩ := hoe.form
    have HOE : Hid (Ob W18.heap.size W19 (.slice ae m2 qe) (outB s Q)) := by rw [← HM2.out.1]; exact hoe
    have HRG : Hid (RErr2 W19 vg (errOf s Q)) := hrg
    obtain ⟨ga, gm, gc, gk, rfl⟩ := hrg.form
    have R19 : Hid (Below W18.heap.size W18 W19) := hb19
    rw [HM2.out.1]
    clear c hoe hrg hb19
    obtain ⟨W20, hW20⟩ : ∃ W20, W19.alloc (.cells #[.slice ga gm gc, .int .i64 gk] 34) = W20 := ⟨_, rfl⟩
    have R20 : Hid (Below W19.heap.size W19 W20) := by rw [← hW20]; exact (Below.refl _ _).alloc (Nat.le_refl _) _
    have f0 : W20.cell? ⟨W19.heap.size, 0, none⟩ = some (.slice ga gm gc) := by rw [← hW20]; simp
    have f1 : W20.cell? ⟨W19.heap.size, 1, none⟩ = some (.int .i64 gk) := by rw [← hW20]; simp
    have hm2I : m2 ≤ 1048576 := HM2.out.2.2
    have c := is_both (HPD.out.on (lat R18.out (lat R19.out R20.out))) (HRG.out.on R20.out)
    go_wp2_with (go_at_call 8; refine StopF.out ?_)
    refine ⟨Calls.mono c ?_⟩
    rintro e W21 ⟨rfl, hb21⟩
    have R21 : Hid (Below W20.heap.size W20 W21) := hb21
    clear c hb21 hW20
    have k0 := (R21.out.cell (p := ⟨W19.heap.size, 0, none⟩) (Tb.cell_lt f0)).trans f0
    have k1 := (R21.out.cell (p := ⟨W19.heap.size, 1, none⟩) (Tb.cell_lt f1)).trans f1
    clear f0 f1
    have c := is_both (HPT.out.on (lat R19.out (lat R20.out R21.out))) (HRG.out.on (lat R20.out R21.out))
    go_wp2_with (go_at_call 8; refine StopF.out ?_)
    refine ⟨Calls.mono c ?_⟩
    rintro e W22 ⟨rfl, hb22⟩
    have R22 : Hid (Below W21.heap.size W21 W22) := hb22
    clear c hb22 k0 k1
    have c := bytes_same W22 W16.heap.size W18.heap.size (.slice ad m2 qd) (.slice ae m2 qe) (outB s Q) (HOD.out.on (lat R18.out (lat R19.out (lat R20.out (lat R21.out R22.out))))) (HOE.out.on (lat R20.out (lat R21.out R22.out))) (by rw [HM2.out.1]; omega)
    go_wp2_with (go_at_call 9; refine StopF.out ?_)
    refine ⟨Calls.mono c ?_⟩
    rintro e W23 ⟨rfl, hb23⟩
    have R23 : Hid (Below W22.heap.size W22 W23) := hb23.out
    clear c hb23
    have c := bytes_same W23 W1.heap.size W3.heap.size (.slice aa m qa) (.slice ab m qb) (outB s L) (HA16.out.on (lat R17.out (lat R18.out (lat R19.out (lat R20.out (lat R21.out (lat R22.out R23.out))))))) (HB16.out.on (lat R17.out (lat R18.out (lat R19.out (lat R20.out (lat R21.out (lat R22.out R23.out))))))) (by rw [HM.out.1]; omega)
    go_wp2_with (go_at_call 9; refine StopF.out ?_)
    refine ⟨Calls.mono c ?_⟩
    rintro e W24 ⟨rfl, hb24⟩
    have R24 : Hid (Below W23.heap.size W23 W24) := hb24.out
    clear c hb24
    obtain ⟨W25, hW25⟩ : ∃ W25, W24.alloc (.cells #[.slice aa m qa, .slice ao mo qo, .slice ap mp qp, .slice ac m qc, .slice ad m2 qd] 25) = W25 := ⟨_, rfl⟩
    have R25 : Hid (Below W24.heap.size W24 W25) := by rw [← hW25]; exact (Below.refl _ _).alloc (Nat.le_refl _) _
    have HS25 : Hid (W25.heap.size = W24.heap.size + 1) := by rw [← hW25]; show _ = _; simp
    have HC25 : Hid (∀ i : Fin 5, W25.cell? ⟨W24.heap.size, i.val, none⟩ = some ([Value.slice aa m qa, .slice ao mo qo, .slice ap mp qp, .slice ac m qc, .slice ad m2 qd].getD i.val .nilIface)) := by
      rw [← hW25]
      intro i
      rcases i with ⟨i, hi⟩
      rcases (show i = 0 ∨ i = 1 ∨ i = 2 ∨ i = 3 ∨ i = 4 by omega) with rfl | rfl | rfl | rfl | rfl <;> simp
    have HSZ2 : Hid (W16.heap.size ≤ W17.heap.size ∧ W17.heap.size ≤ W24.heap.size) := ⟨R17.out.size, Below.size (lat R18.out (lat R19.out (lat R20.out (lat R21.out (lat R22.out (lat R23.out R24.out))))))⟩
    have r0 : ∀ k, (Value.slice aa m qa).ownBlock = some k → W1.heap.size ≤ k ∧ k < W2.heap.size := fun k hk => HOA.out.lt k hk
    have r1 : ∀ k, (Value.slice ao mo qo).ownBlock = some k → W9.heap.size ≤ k ∧ k < W10.heap.size := fun k hk => HOO.out.1.lt k hk
    have r2 : ∀ k, (Value.slice ap mp qp).ownBlock = some k → W10.heap.size ≤ k ∧ k < W11.heap.size := fun k hk => HOP.out.1.lt k hk
    have r3 : ∀ k, (Value.slice ac m qc).ownBlock = some k → W11.heap.size ≤ k ∧ k < W12.heap.size := fun k hk => HOC.out.lt k hk
    have r4 : ∀ k, (Value.slice ad m2 qd).ownBlock = some k → W16.heap.size ≤ k ∧ k < W17.heap.size := fun k hk => HOD.out.lt k hk
    have hr : ∀ (i : Fin 5) k, ([Value.slice aa m qa, .slice ao mo qo, .slice ap mp qp, .slice ac m qc, .slice ad m2 qd].getD i.val .nilIface).ownBlock = some k → (i.val = 0 ∧ W1.heap.size ≤ k ∧ k < W2.heap.size) ∨ (i.val = 1 ∧ W9.heap.size ≤ k ∧ k < W10.heap.size) ∨ (i.val = 2 ∧ W10.heap.size ≤ k ∧ k < W11.heap.size) ∨ (i.val = 3 ∧ W11.heap.size ≤ k ∧ k < W12.heap.size) ∨ (i.val = 4 ∧ W16.heap.size ≤ k ∧ k < W17.heap.size) := fun i k hk => by
      rcases i with ⟨i, hi⟩
      rcases (show i = 0 ∨ i = 1 ∨ i = 2 ∨ i = 3 ∨ i = 4 by omega) with rfl | rfl | rfl | rfl | rfl
      · exact .inl ⟨rfl, r0 k hk⟩
      · exact .inr (.inl ⟨rfl, r1 k hk⟩)
      · exact .inr (.inr (.inl ⟨rfl, r2 k hk⟩))
      · exact .inr (.inr (.inr (.inl ⟨rfl, r3 k hk⟩)))
      · exact .inr (.inr (.inr (.inr ⟨rfl, r4 k hk⟩)))
    have HHR : Hid _ := hr
    clear r0 r1 r2 r3 r4 hr
    have c := free5 W25 w.heap.size W24.heap.size 5 (fun i => [Value.slice aa m qa, .slice ao mo qo, .slice ap mp qp, .slice ac m qc, .slice ad m2 qd].getD i.val .nilIface) (fun i => [outB s L, outB so L, outB 1 L, outB s L, outB s Q].getD i.val [])
      (fun i => by
        rcases i with ⟨i, hi⟩
        have hsz := HSZ.out
        rcases (show i = 0 ∨ i = 1 ∨ i = 2 ∨ i = 3 ∨ i = 4 by omega) with rfl | rfl | rfl | rfl | rfl
        · exact Ob.low (HA16.out.on (lat R17.out (lat R18.out (lat R19.out (lat R20.out (lat R21.out (lat R22.out (lat R23.out (lat R24.out R25.out))))))))) (by omega)
        · exact Ob.low (HO16.out.on (lat R17.out (lat R18.out (lat R19.out (lat R20.out (lat R21.out (lat R22.out (lat R23.out (lat R24.out R25.out))))))))) (by omega)
        · exact Ob.low (HP16.out.on (lat R17.out (lat R18.out (lat R19.out (lat R20.out (lat R21.out (lat R22.out (lat R23.out (lat R24.out R25.out))))))))) (by omega)
        · exact Ob.low (HC16.out.on (lat R17.out (lat R18.out (lat R19.out (lat R20.out (lat R21.out (lat R22.out (lat R23.out (lat R24.out R25.out))))))))) (by omega)
        · exact Ob.low (HOD.out.on (lat R18.out (lat R19.out (lat R20.out (lat R21.out (lat R22.out (lat R23.out (lat R24.out R25.out)))))))) (by omega))
      (fun i => by
        rcases i with ⟨i, hi⟩
        have q1 := out_le s L
        have q2 := out_le so L
        have q3 := out_le 1 L
        have q4 := out_le s Q
        rcases (show i = 0 ∨ i = 1 ∨ i = 2 ∨ i = 3 ∨ i = 4 by omega) with rfl | rfl | rfl | rfl | rfl
        · show (outB s L).length ≤ _; omega
        · show (outB so L).length ≤ _; omega
        · show (outB 1 L).length ≤ _; omega
        · show (outB s L).length ≤ _; omega
        · show (outB s Q).length ≤ _; omega)
      HC25.out (by have := HSZ.out; have := HSZ2.out; have := HS25.out; omega)
      (fun i j hij k e1 e2 => by
        have t1 := HHR.out i k e1
        have t2 := HHR.out j k e2
        have := HSZ.out
        have hne : i.val ≠ j.val := fun e => hij (Fin.ext e)
        omega)
      (fun i e => by
        have t1 := HHR.out i _ e
        have := HSZ.out
        have := HSZ2.out
        omega)
    go_wp2_with (go_at_call 12; refine StopF.out ?_)
    refine ⟨Calls.mono c ?_⟩
    rintro e W26 ⟨rfl, hkr⟩
    have HF : Hid (Below w.heap.size w W26) := by
      have b1 : Below w.heap.size w W16 := Below.trans (lat R1.out (lat R2.out (lat R3.out (lat R4.out (lat R5.out (lat R6.out (lat R7.out (lat R8.out (lat R9.out (lat R10.out (lat R11.out (lat R12.out (lat R13.out (lat R14.out R15.out)))))))))))))) (HKO.out.below (by have := HG.out; omega) (Below.size (lat R1.out (lat R2.out (lat R3.out (lat R4.out (lat R5.out (lat R6.out (lat R7.out (lat R8.out (lat R9.out (lat R10.out (lat R11.out (lat R12.out (lat R13.out (lat R14.out R15.out))))))))))))))))
      have b2 : Below w.heap.size w W25 := b1.trans (Below.mono (lat R17.out (lat R18.out (lat R19.out (lat R20.out (lat R21.out (lat R22.out (lat R23.out (lat R24.out R25.out)))))))) b1.size)
      refine b2.trans ⟨hkr.os, hkr.tape, hkr.output, hkr.size, fun k hk => hkr.block k (Nat.lt_of_lt_of_le hk b2.size) (fun i hi e => ?_)⟩
      simp only [dif_pos hi] at e
      have t1 := HHR.out ⟨i, hi⟩ k e
      have := HSZ.out
      omega
    clear c hkr hW25
    go_wp2
    go_ret
    exact ⟨rfl, HF.out⟩
end Go.Proofs.YtilkogodhjnemaaGreatDoor
