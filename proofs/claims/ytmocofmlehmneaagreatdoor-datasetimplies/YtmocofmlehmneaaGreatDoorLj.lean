import Derived.Test.YtmocofmlehmneaaGreatDoorLb
import Derived.ChangeArms
import Derived.SizedLaws
import Derived.OpenShut
/-
  DERIVED. The law of Implied.
-/
namespace Go.Proofs.YtmocofmlehmneaaGreatDoor
open Go Go.Proofs Go.RowKit
open Wk (Nd NV Lent TnI KO)

set_option maxRecDepth 100000 in
set_option maxHeartbeats 8000000 in
theorem implies_law (w : World) (a : Option Addr) (n cap : Nat) (L : List Nd) (hV : NV w a n cap L) (hT : TagsOk L) (hts : ∀ x ∈ L, x.s.size ≤ 140737488351232) (hE : EG w) :
    Calls Tryz.prog 3 #[.slice a n cap] w fun e w' => e = .returned (.bool true) ∧ Below w.heap.size w w' := by
  have HV : Hid (NV w a n cap L) := hV
  have HT : Hid (TagsOk L) := hT
  have HTS : Hid (∀ x ∈ L, x.s.size ≤ 140737488351232) := hts
  have HE : Hid (EG w) := hE
  have HOLD : Hid (0 < n → ∀ b off, a = some ⟨b, off, none⟩ → b < w.heap.size) := fun hn b off e => by
    obtain ⟨b', off', h1, h2⟩ := hV.lies hn
    rw [h1] at e
    cases e
    exact Tb.cell_lt (h2 0 (by have := hV.len; omega)).1
  have hsm := hV.small
  have HN : Hid (n = L.length) := hV.len
  have HNUM : Hid (∀ x ∈ L, -9223372036854775808 ≤ x.n ∧ x.n ≤ 9223372036854775807) := hV.num
  have c4 := Wk.lend_any w a n cap L hV
  clear hV hT hts hE
  go_enter Tryz.func3, Tryz.ntmps3
  go_wp2_with (go_at_call 4; refine StopF.out ?_)
  refine ⟨Calls.mono c4 ?_⟩
  rintro e W1 ⟨rfl, hl1, hb1⟩
  have HL1 : Hid (Lent w.heap.size L w.heap.size W1) := hl1
  have R1 : Hid (Below w.heap.size w W1) := hb1
  have HV1 : Hid (NV W1 (some ⟨w.heap.size, 0, none⟩) n (n + 1) L) := by
    have := hl1.nv (by rw [← HN.out]; exact hsm) HNUM.out
    rw [← HN.out] at this
    exact this
  have c5 := implied_any W1 w.heap.size n (n + 1) L HV1.out HT.out (HE.out.on hb1)
  clear c4 hl1 hb1
  obtain ⟨g, hg⟩ : ∃ g, w.heap.size = g := ⟨_, rfl⟩
  have HG : Hid (w.heap.size = g) := hg
  rw [hg] at c5 ⊢
  clear hg
  go_wp2_with (go_at_call 5; refine StopF.out ?_)
  refine ⟨Calls.mono c5 ?_⟩
  rintro e W2 ⟨u1, ve, rfl, ho1, hn1, hpd, hb2⟩
  obtain ⟨a1, q1, rfl, hz1⟩ := told_form ho1 hn1
  obtain ⟨m, hm⟩ : ∃ m, (out L).length = m := ⟨_, rfl⟩
  have HM : Hid ((out L).length = m) := hm
  rw [hm] at ho1 hz1
  have HO1 : Hid (W2.ownsRow W1.heap.size 42 4 (.slice a1 m q1) m (Wk.nds (out L))) := ho1
  have HZ1 : Hid (m = 0 → a1 = none ∧ q1 = 0) := hz1
  have HPD : Hid (PD W2 ve (res L)) := hpd
  have R2 : Hid (Below W1.heap.size W1 W2) := hb2
  rw [hm]
  clear c5 ho1 hn1 hpd hb2 hz1 hm
  have c6 := rimplied_any some_zero W2 a n cap L (HV.out.on (lat R1.out R2.out)) HT.out
  go_wp2_with (go_at_call 6; refine StopF.out ?_)
  refine ⟨Calls.mono c6 ?_⟩
  rintro e W3 ⟨uy, vf, rfl, hoy, hny, hrd, hb3⟩
  obtain ⟨ay, qy, rfl, hzy⟩ := told_form hoy hny
  rw [HM.out] at hoy hzy ⊢
  have HOY : Hid (W3.ownsRow W2.heap.size 42 4 (.slice ay m qy) m (Wk.nds (out L))) := hoy
  have HRD : Hid (RD W3 vf (res L)) := hrd
  have R3 : Hid (Below W2.heap.size W2 W3) := hb3
  obtain ⟨fa, fm, fc, fk, rfl⟩ := hrd.form
  clear c6 hoy hny hzy hrd hb3
  obtain ⟨W4, hW4⟩ : ∃ W4, W3.alloc (.cells #[.slice fa fm fc, .int .i64 fk] 30) = W4 := ⟨_, rfl⟩
  have R4 : Hid (Below W3.heap.size W3 W4) := by rw [← hW4]; exact (Below.refl _ _).alloc (Nat.le_refl _) _
  have f0 : W4.cell? ⟨W3.heap.size, 0, none⟩ = some (.slice fa fm fc) := by rw [← hW4]; simp
  have f1 : W4.cell? ⟨W3.heap.size, 1, none⟩ = some (.int .i64 fk) := by rw [← hW4]; simp
  have HFC : Hid (W4.cell? ⟨W3.heap.size, 0, none⟩ = some (.slice fa fm fc) ∧ W4.cell? ⟨W3.heap.size, 1, none⟩ = some (.int .i64 fk)) := ⟨f0, f1⟩
  have c7 := is_d (HPD.out.on (lat R3.out R4.out)) (HRD.out.on R4.out)
  go_wp2_with (go_at_call 7; refine StopF.out ?_)
  refine ⟨Calls.mono c7 ?_⟩
  rintro e W5 ⟨rfl, hb5⟩
  have R5 : Hid (Below W4.heap.size W4 W5) := hb5
  clear c7 hb5 hW4 f0 f1
  have HX5 : Hid (NV W5 a1 m q1 (out L)) := told_nv (Wk.ownsRow_below HO1.out (lat R3.out (lat R4.out R5.out)) (Nat.le_refl _)) HM.out.symm HNUM.out
  have HY5 : Hid (NV W5 ay m qy (out L)) := told_nv (Wk.ownsRow_below HOY.out (lat R4.out R5.out) (Nat.le_refl _)) HM.out.symm HNUM.out
  have c8 := Wk.nodes_same W5 a1 ay m q1 qy (out L) HX5.out HY5.out
  go_wp2_with (go_at_call 8; refine StopF.out ?_)
  refine ⟨Calls.mono c8 ?_⟩
  rintro e W6 ⟨rfl, k6, hk6⟩
  have R6 : Hid (Below W5.heap.size W5 W6) := by rw [hk6]; exact Wk.below_drw (Below.refl _ _) _
  clear c8 hk6
  by_cases hm0 : m = 0
  · obtain ⟨rfl, rfl⟩ := HZ1.out hm0
    subst hm0
    have c4 := Wk.lend_any W6 none 0 0 [] ⟨rfl, Nat.le_refl _, by decide, fun h => absurd h (by decide), fun x hx => by simp at hx⟩
    go_wp2_with (go_at_call 4; refine StopF.out ?_)
    refine ⟨Calls.mono c4 ?_⟩
    rintro e W7 ⟨rfl, hl7, hb7⟩
    have R7 : Hid (Below W6.heap.size W6 W7) := hb7
    have c5 := implied_any W7 W6.heap.size 0 (0 + 1) [] (hl7.nv (by simp) (by simp)) (fun x hx => by simp at hx) (HE.out.on (lat R1.out (lat R2.out (lat R3.out (lat R4.out (lat R5.out (lat R6.out R7.out)))))))
    clear c4 hl7 hb7
    go_wp2_with (go_at_call 5; refine StopF.out ?_)
    refine ⟨Calls.mono c5 ?_⟩
    rintro e W8 ⟨u2, ve2, rfl, ho2, hn2, -, hb8⟩
    obtain rfl := hn2 out_nil
    have R8 : Hid (Below W7.heap.size W7 W8) := hb8
    clear c5 ho2 hn2 hb8
    have HVG : Hid (NV W1 (some ⟨g, 0, none⟩) n (n + 1) L) := by have := HV1.out; rw [HG.out] at this; exact this
    have HLG : Hid (Lent g L w.heap.size W1) := by have := HL1.out; rw [show Lent w.heap.size L w.heap.size W1 = Lent g L w.heap.size W1 by rw [HG.out]] at this; exact this
    have c5 := implied_any W8 g n (n + 1) L (HVG.out.on (lat R2.out (lat R3.out (lat R4.out (lat R5.out (lat R6.out (lat R7.out R8.out))))))) HT.out (HE.out.on (lat R1.out (lat R2.out (lat R3.out (lat R4.out (lat R5.out (lat R6.out (lat R7.out R8.out))))))))
    go_wp2_with (go_at_call 5; refine StopF.out ?_)
    refine ⟨Calls.mono c5 ?_⟩
    rintro e W9 ⟨u3, ve3, rfl, ho3, hn3, hpd3, hb9⟩
    obtain ⟨a3, q3, rfl, -⟩ := told_form ho3 hn3
    rw [HM.out] at ho3 ⊢
    have HO3 : Hid (W9.ownsRow W8.heap.size 42 4 (.slice a3 0 q3) 0 (Wk.nds (out L))) := ho3
    have R9 : Hid (Below W8.heap.size W8 W9) := hb9
    have f0 := (Below.cell (lat R5.out (lat R6.out (lat R7.out (lat R8.out R9.out)))) (p := ⟨W3.heap.size, 0, none⟩) (Tb.cell_lt HFC.out.1)).trans HFC.out.1
    have f1 := (Below.cell (lat R5.out (lat R6.out (lat R7.out (lat R8.out R9.out)))) (p := ⟨W3.heap.size, 1, none⟩) (Tb.cell_lt HFC.out.2)).trans HFC.out.2
    have c7 := is_d hpd3 (HRD.out.on (lat R4.out (lat R5.out (lat R6.out (lat R7.out (lat R8.out R9.out))))))
    clear c5 ho3 hn3 hpd3 hb9
    go_wp2_with (go_at_call 7; refine StopF.out ?_)
    refine ⟨Calls.mono c7 ?_⟩
    rintro e W10 ⟨rfl, hb10⟩
    have R10 : Hid (Below W9.heap.size W9 W10) := hb10
    clear c7 hb10 f0 f1
    have c8 := Wk.nodes_same W10 none ay 0 0 qy (out L) (HX5.out.on (lat R6.out (lat R7.out (lat R8.out (lat R9.out R10.out))))) (HY5.out.on (lat R6.out (lat R7.out (lat R8.out (lat R9.out R10.out)))))
    go_wp2_with (go_at_call 8; refine StopF.out ?_)
    refine ⟨Calls.mono c8 ?_⟩
    rintro e W11 ⟨rfl, k11, hk11⟩
    have R11 : Hid (Below W10.heap.size W10 W11) := by rw [hk11]; exact Wk.below_drw (Below.refl _ _) _
    clear c8 hk11
    have c8 := Wk.nodes_same W11 a3 ay 0 q3 qy (out L) (told_nv (Wk.ownsRow_below HO3.out (lat R10.out R11.out) (Nat.le_refl _)) HM.out.symm HNUM.out) (HY5.out.on (lat R6.out (lat R7.out (lat R8.out (lat R9.out (lat R10.out R11.out))))))
    go_wp2_with (go_at_call 8; refine StopF.out ?_)
    refine ⟨Calls.mono c8 ?_⟩
    rintro e W12 ⟨rfl, k12, hk12⟩
    have R12 : Hid (Below W11.heap.size W11 W12) := by rw [hk12]; exact Wk.below_drw (Below.refl _ _) _
    clear c8 hk12
    have c9 := Wk.kept_any W12 g w.heap.size a n cap L (HV.out.on (lat R1.out (lat R2.out (lat R3.out (lat R4.out (lat R5.out (lat R6.out (lat R7.out (lat R8.out (lat R9.out (lat R10.out (lat R11.out R12.out)))))))))))) (HLG.out.keep (Below.block (lat R2.out (lat R3.out (lat R4.out (lat R5.out (lat R6.out (lat R7.out (lat R8.out (lat R9.out (lat R10.out (lat R11.out R12.out)))))))))) _ HLG.out.lt))
    go_wp2_with (go_at_call 9; refine StopF.out ?_)
    refine ⟨Calls.mono c9 ?_⟩
    rintro e W13 ⟨rfl, hb13⟩
    have R13 : Hid (Below W12.heap.size W12 W13) := hb13
    clear c9 hb13
    have HL13 : Hid (Lent g L w.heap.size W13) := HLG.out.keep (Below.block (lat R2.out (lat R3.out (lat R4.out (lat R5.out (lat R6.out (lat R7.out (lat R8.out (lat R9.out (lat R10.out (lat R11.out (lat R12.out R13.out))))))))))) _ HLG.out.lt)
    have c10 := Wk.turn_any W13 g w.heap.size n L HL13.out HN.out hsm HTS.out
    go_wp2_with (go_at_call 10; refine StopF.out ?_)
    refine ⟨Calls.mono c10 ?_⟩
    rintro e W14 ⟨v14, rfl, h14⟩
    obtain ⟨Q, hQ⟩ := h14.out
    have hlen : Q.length = n := hQ.sh.1.trans HN.out.symm
    have ho := hQ.own
    rw [← hlen, List.take_length, hlen] at ho
    obtain ⟨ao, c2, rfl⟩ : ∃ ao c2, v14 = .slice ao n c2 := by
      rcases ho.2 with ⟨hv, hn⟩ | ⟨g2, cp, cur, hv, -⟩
      · exact ⟨none, 0, by rw [hv, hn]⟩
      · exact ⟨_, cp, hv⟩
    have HQT : Hid (TagsOk Q) := Sh.tags hQ.sh HT.out
    have HQN : Hid (∀ x ∈ Q, -9223372036854775808 ≤ x.n ∧ x.n ≤ 9223372036854775807) := Sh.num hQ.sh HNUM.out
    have HQO : Hid (W14.ownsRow W13.heap.size 42 4 (.slice ao n c2) n (Wk.nds Q)) := ho
    have HQL : Hid (Q.length = n) := hlen
    have HQG : Hid (Lent g Q w.heap.size W14) := hQ.lent
    have HKO : Hid (KO g W13 W14) := hQ.ko
    clear h14 hQ ho hlen c10
    have H0 : Hid (0 < w.heap.size) := Rp.cell_lt HE.out
    have HE14 : Hid (EG W14) := (World.cell?_of_block (a := ⟨0, 0, none⟩) (HKO.out.block 0 (Nat.lt_of_lt_of_le H0.out (Below.size (lat R1.out (lat R2.out (lat R3.out (lat R4.out (lat R5.out (lat R6.out (lat R7.out (lat R8.out (lat R9.out (lat R10.out (lat R11.out (lat R12.out R13.out)))))))))))))) (by have := H0.out; have := HG.out; omega))).trans (HE.out.on (lat R1.out (lat R2.out (lat R3.out (lat R4.out (lat R5.out (lat R6.out (lat R7.out (lat R8.out (lat R9.out (lat R10.out (lat R11.out (lat R12.out R13.out)))))))))))))
    have HVQ : Hid (NV W14 (some ⟨g, 0, none⟩) n (n + 1) Q) := by
      have := HQG.out.nv (by rw [HQL.out]; exact hsm) HQN.out
      rw [HQL.out] at this
      exact this
    have HVO : Hid (NV W14 ao n c2 Q) := by
      rcases HQO.out.2 with ⟨hv, hn⟩ | ⟨g2, cp, cur, hv, -⟩
      · cases hv
        exact ⟨HQL.out.symm, Nat.zero_le _, by omega, fun h => absurd h (by omega), HQN.out⟩
      · cases hv
        exact own_nv HQO.out HQL.out.symm hsm HQN.out
    have c5 := implied_any W14 g n (n + 1) Q HVQ.out HQT.out HE14.out
    go_wp2_with (go_at_call 5; refine StopF.out ?_)
    refine ⟨Calls.mono c5 ?_⟩
    rintro e W15 ⟨u4, ve4, rfl, ho4, hn4, hpd4, hb15⟩
    obtain ⟨a4, q4, rfl, -⟩ := told_form ho4 hn4
    have HO4 : Hid (W15.ownsRow W14.heap.size 42 4 (.slice a4 (out Q).length q4) (out Q).length (Wk.nds (out Q))) := ho4
    have HPD4 : Hid (PD W15 ve4 (res Q)) := hpd4
    have R15 : Hid (Below W14.heap.size W14 W15) := hb15
    clear c5 ho4 hn4 hpd4 hb15
    have c6 := rimplied_any some_zero W15 ao n c2 Q (HVO.out.on R15.out) HQT.out
    go_wp2_with (go_at_call 6; refine StopF.out ?_)
    refine ⟨Calls.mono c6 ?_⟩
    rintro e W16 ⟨u5, vf5, rfl, ho5, hn5, hrd5, hb16⟩
    obtain ⟨a5, q5, rfl, -⟩ := told_form ho5 hn5
    have HO5 : Hid (W16.ownsRow W15.heap.size 42 4 (.slice a5 (out Q).length q5) (out Q).length (Wk.nds (out Q))) := ho5
    have HRD5 : Hid (RD W16 vf5 (res Q)) := hrd5
    have R16 : Hid (Below W15.heap.size W15 W16) := hb16
    obtain ⟨ga, gm, gc, gk, rfl⟩ := hrd5.form
    clear c6 ho5 hn5 hrd5 hb16
    obtain ⟨m2, hm2⟩ : ∃ m2, (out Q).length = m2 := ⟨_, rfl⟩
    have HM2 : Hid ((out Q).length = m2) := hm2
    rw [hm2] at HO4 HO5 ⊢
    clear hm2
    obtain ⟨W17, hW17⟩ : ∃ W17, W16.alloc (.cells #[.slice ga gm gc, .int .i64 gk] 30) = W17 := ⟨_, rfl⟩
    have R17 : Hid (Below W16.heap.size W16 W17) := by rw [← hW17]; exact (Below.refl _ _).alloc (Nat.le_refl _) _
    have f0 : W17.cell? ⟨W16.heap.size, 0, none⟩ = some (.slice ga gm gc) := by rw [← hW17]; simp
    have f1 : W17.cell? ⟨W16.heap.size, 1, none⟩ = some (.int .i64 gk) := by rw [← hW17]; simp
    have c7 := is_d (HPD4.out.on (lat R16.out R17.out)) (HRD5.out.on R17.out)
    go_wp2_with (go_at_call 7; refine StopF.out ?_)
    refine ⟨Calls.mono c7 ?_⟩
    rintro e W18 ⟨rfl, hb18⟩
    have R18 : Hid (Below W17.heap.size W17 W18) := hb18
    clear c7 hb18 hW17 f0 f1
    have c8 := Wk.nodes_same W18 a4 a5 m2 q4 q5 (out Q) (told_nv (Wk.ownsRow_below HO4.out (lat R16.out (lat R17.out R18.out)) (Nat.le_refl _)) HM2.out.symm HQN.out) (told_nv (Wk.ownsRow_below HO5.out (lat R17.out R18.out) (Nat.le_refl _)) HM2.out.symm HQN.out)
    go_wp2_with (go_at_call 8; refine StopF.out ?_)
    refine ⟨Calls.mono c8 ?_⟩
    rintro e W19 ⟨rfl, k19, hk19⟩
    have R19 : Hid (Below W18.heap.size W18 W19) := by rw [hk19]; exact Wk.below_drw (Below.refl _ _) _
    clear c8 hk19
    have hg1 : g < W1.heap.size := HLG.out.lt
    have HX14 : Hid (W14.ownsRow W1.heap.size 42 4 (.slice none 0 0) 0 (Wk.nds (out L))) := own_ko (Wk.ownsRow_below HO1.out (lat R3.out (lat R4.out (lat R5.out (lat R6.out (lat R7.out (lat R8.out (lat R9.out (lat R10.out (lat R11.out (lat R12.out R13.out)))))))))) (Nat.le_refl _)) HKO.out hg1
    have HY14 : Hid (W14.ownsRow W2.heap.size 42 4 (.slice ay 0 qy) 0 (Wk.nds (out L))) := own_ko (Wk.ownsRow_below HOY.out (lat R4.out (lat R5.out (lat R6.out (lat R7.out (lat R8.out (lat R9.out (lat R10.out (lat R11.out (lat R12.out R13.out))))))))) (Nat.le_refl _)) HKO.out (Nat.lt_of_lt_of_le hg1 R2.out.size)
    have HZ14 : Hid (W14.ownsRow W8.heap.size 42 4 (.slice a3 0 q3) 0 (Wk.nds (out L))) := own_ko (Wk.ownsRow_below HO3.out (lat R10.out (lat R11.out (lat R12.out R13.out))) (Nat.le_refl _)) HKO.out (Nat.lt_of_lt_of_le hg1 (Below.size (lat R2.out (lat R3.out (lat R4.out (lat R5.out (lat R6.out (lat R7.out R8.out))))))))
    have c8 := Wk.nodes_same W19 none ay 0 0 qy (out L) (told_nv (Wk.ownsRow_below HX14.out (lat R15.out (lat R16.out (lat R17.out (lat R18.out R19.out)))) (Nat.le_refl _)) HM.out.symm HNUM.out) (told_nv (Wk.ownsRow_below HY14.out (lat R15.out (lat R16.out (lat R17.out (lat R18.out R19.out)))) (Nat.le_refl _)) HM.out.symm HNUM.out)
    go_wp2_with (go_at_call 8; refine StopF.out ?_)
    refine ⟨Calls.mono c8 ?_⟩
    rintro e W20 ⟨rfl, k20, hk20⟩
    have R20 : Hid (Below W19.heap.size W19 W20) := by rw [hk20]; exact Wk.below_drw (Below.refl _ _) _
    clear c8 hk20
    obtain ⟨W21, hW21⟩ : ∃ W21, W20.alloc (.cells #[.slice none 0 0, .slice none 0 0, .slice a3 0 q3, .slice a4 m2 q4] 22) = W21 := ⟨_, rfl⟩
    have R21 : Hid (Below W20.heap.size W20 W21) := by rw [← hW21]; exact (Below.refl _ _).alloc (Nat.le_refl _) _
    have HS21 : Hid (W21.heap.size = W20.heap.size + 1) := by rw [← hW21]; show _ = _; simp
    have HC21 : Hid (W21.cell? ⟨W20.heap.size, 0, none⟩ = some (.slice none 0 0) ∧ W21.cell? ⟨W20.heap.size, 1, none⟩ = some (.slice none 0 0) ∧ W21.cell? ⟨W20.heap.size, 2, none⟩ = some (.slice a3 0 q3) ∧ W21.cell? ⟨W20.heap.size, 3, none⟩ = some (.slice a4 m2 q4)) := by rw [← hW21]; exact ⟨by simp, by simp, by simp, by simp⟩
    have HSZ : Hid (w.heap.size = g ∧ g < W1.heap.size ∧ W1.heap.size ≤ W2.heap.size ∧ W2.heap.size ≤ W8.heap.size ∧ W8.heap.size ≤ W9.heap.size ∧ W9.heap.size ≤ W13.heap.size ∧ W13.heap.size ≤ W14.heap.size ∧ W14.heap.size ≤ W15.heap.size ∧ W15.heap.size ≤ W20.heap.size) := ⟨HG.out, hg1, R2.out.size, Below.size (lat R3.out (lat R4.out (lat R5.out (lat R6.out (lat R7.out R8.out))))), R9.out.size, Below.size (lat R10.out (lat R11.out (lat R12.out R13.out))), HKO.out.size, R15.out.size, Below.size (lat R16.out (lat R17.out (lat R18.out (lat R19.out R20.out))))⟩
    have r0 : ∀ k, (Value.slice none 0 0).ownBlock = some k → W1.heap.size ≤ k ∧ k < W2.heap.size := fun k hk => HO1.out.lt k hk
    have r1 : ∀ k, (Value.slice none 0 0).ownBlock = some k → False := fun k hk => by cases hk
    have r2 : ∀ k, (Value.slice a3 0 q3).ownBlock = some k → W8.heap.size ≤ k ∧ k < W9.heap.size := fun k hk => HO3.out.lt k hk
    have r3 : ∀ k, (Value.slice a4 m2 q4).ownBlock = some k → W14.heap.size ≤ k ∧ k < W15.heap.size := fun k hk => HO4.out.lt k hk
    have hr : ∀ i, i < 4 → ∀ k, ([Value.slice none 0 0, .slice none 0 0, .slice a3 0 q3, .slice a4 m2 q4].getD i .nilIface).ownBlock = some k → (i = 0 ∧ W1.heap.size ≤ k ∧ k < W2.heap.size) ∨ (i = 2 ∧ W8.heap.size ≤ k ∧ k < W9.heap.size) ∨ (i = 3 ∧ W14.heap.size ≤ k ∧ k < W15.heap.size) := fun i hi k hk => by
      rcases (show i = 0 ∨ i = 1 ∨ i = 2 ∨ i = 3 by omega) with rfl | rfl | rfl | rfl
      · exact .inl ⟨rfl, r0 k hk⟩
      · exact (r1 k hk).elim
      · exact .inr (.inl ⟨rfl, r2 k hk⟩)
      · exact .inr (.inr ⟨rfl, r3 k hk⟩)
    have HHR : Hid _ := hr
    clear r0 r1 r2 r3 hr
    have c11 := free4 W21 w.heap.size W20.heap.size 4 (.slice none 0 0) (.slice none 0 0) (.slice a3 0 q3) (.slice a4 m2 q4) L [] L Q
      (by rw [HM.out]; exact Wk.own_base (Wk.ownsRow_below HX14.out (lat R15.out (lat R16.out (lat R17.out (lat R18.out (lat R19.out (lat R20.out R21.out)))))) (Nat.le_refl _)) (by have := HSZ.out; omega)) (by rw [out_nil]; exact World.ownsRow_nil _ _ _ _) (by rw [HM.out]; exact Wk.own_base (Wk.ownsRow_below HZ14.out (lat R15.out (lat R16.out (lat R17.out (lat R18.out (lat R19.out (lat R20.out R21.out)))))) (Nat.le_refl _)) (by have := HSZ.out; omega)) (by rw [HM2.out]; exact Wk.own_base (Wk.ownsRow_below HO4.out (lat R16.out (lat R17.out (lat R18.out (lat R19.out (lat R20.out R21.out))))) (Nat.le_refl _)) (by have := HSZ.out; omega))
      HC21.out.1 HC21.out.2.1 HC21.out.2.2.1 HC21.out.2.2.2 (by have := HSZ.out; have := HS21.out; omega)
      (fun i j hi hj hij k e1 e2 => by
        have t1 := HHR.out i hi k e1
        have t2 := HHR.out j hj k e2
        have := HSZ.out
        omega)
      (fun i hi e => by
        have t1 := HHR.out i hi _ e
        have := HSZ.out
        omega)
    go_wp2_with (go_at_call 11; refine StopF.out ?_)
    refine ⟨Calls.mono c11 ?_⟩
    rintro e W22 ⟨rfl, hkr⟩
    have HKR : Hid _ := hkr
    clear c11 hkr hW21
    have kg : W22.heap[g]? = W14.heap[g]? := (HKR.out.block g (by have := HSZ.out; have := HS21.out; omega) (fun i hi e => by have := HHR.out i hi g e; have := HSZ.out; omega)).trans (Below.block (lat R15.out (lat R16.out (lat R17.out (lat R18.out (lat R19.out (lat R20.out R21.out)))))) g (by have := HSZ.out; omega))
    have HV22 : Hid (NV W22 ao n c2 Q) := by
      have hown : W22.ownsRow W13.heap.size 42 4 (.slice ao n c2) n (Wk.nds Q) := Wk.own_keep HQO.out (fun g' hg' => by
        have hlt := HQO.out.lt g' hg'
        exact (HKR.out.block g' (by have := HSZ.out; have := HS21.out; omega) (fun i hi e => by have := HHR.out i hi g' e; have := HSZ.out; omega)).trans (Below.block (lat R15.out (lat R16.out (lat R17.out (lat R18.out (lat R19.out (lat R20.out R21.out)))))) g' hlt.2))
      rcases hown.2 with ⟨hv, hn⟩ | ⟨g2, cp, cur, hv, -⟩
      · cases hv
        exact ⟨HQL.out.symm, Nat.zero_le _, by omega, fun h => absurd h (by omega), HQN.out⟩
      · cases hv
        exact own_nv hown HQL.out.symm hsm HQN.out
    have c9 := Wk.kept_any W22 g w.heap.size ao n c2 Q HV22.out (HQG.out.keep kg)
    have HBE : Hid (Below w.heap.size w W22) := by
      have b13 : Below w.heap.size w W13 := (lat R1.out (lat R2.out (lat R3.out (lat R4.out (lat R5.out (lat R6.out (lat R7.out (lat R8.out (lat R9.out (lat R10.out (lat R11.out (lat R12.out R13.out))))))))))))
      have b14 : Below w.heap.size W13 W14 := ⟨HKO.out.os, HKO.out.tape, HKO.out.output, HKO.out.size, fun k hk => HKO.out.block k (by have := HSZ.out; omega) (by have := HSZ.out; omega)⟩
      have b22 : Below w.heap.size W21 W22 := ⟨HKR.out.os, HKR.out.tape, HKR.out.output, HKR.out.size, fun k hk => HKR.out.block k (by have := HSZ.out; have := HS21.out; omega) (fun i hi e => by have := HHR.out i hi k e; have := HSZ.out; omega)⟩
      exact b13.trans (b14.trans ((Below.mono (lat R15.out (lat R16.out (lat R17.out (lat R18.out (lat R19.out (lat R20.out R21.out)))))) (by have := HSZ.out; omega)).trans b22))
    clear kg
    go_wp2_with (go_at_call 9; refine StopF.out ?_)
    refine ⟨Calls.mono c9 ?_⟩
    rintro e W23 ⟨rfl, hb23⟩
    go_wp2
    go_ret
    exact ⟨rfl, HBE.out.trans (hb23.mono HBE.out.size)⟩
  · have hm0I : ((m : Int) == 0) = false := beq_eq_false_iff_ne.2 (by omega)
    clear hm0
    have c4 := Wk.lend_any W6 none 0 0 [] ⟨rfl, Nat.le_refl _, by decide, fun h => absurd h (by decide), fun x hx => by simp at hx⟩
    go_wp2_with (go_at_call 4; refine StopF.out ?_)
    refine ⟨Calls.mono c4 ?_⟩
    rintro e W7 ⟨rfl, hl7, hb7⟩
    have R7 : Hid (Below W6.heap.size W6 W7) := hb7
    have c5 := implied_any W7 W6.heap.size 0 (0 + 1) [] (hl7.nv (by simp) (by simp)) (fun x hx => by simp at hx) (HE.out.on (lat R1.out (lat R2.out (lat R3.out (lat R4.out (lat R5.out (lat R6.out R7.out)))))))
    clear c4 hl7 hb7
    go_wp2_with (go_at_call 5; refine StopF.out ?_)
    refine ⟨Calls.mono c5 ?_⟩
    rintro e W8 ⟨u2, ve2, rfl, ho2, hn2, -, hb8⟩
    obtain rfl := hn2 out_nil
    have R8 : Hid (Below W7.heap.size W7 W8) := hb8
    clear c5 ho2 hn2 hb8
    have HVG : Hid (NV W1 (some ⟨g, 0, none⟩) n (n + 1) L) := by have := HV1.out; rw [HG.out] at this; exact this
    have HLG : Hid (Lent g L w.heap.size W1) := by have := HL1.out; rw [show Lent w.heap.size L w.heap.size W1 = Lent g L w.heap.size W1 by rw [HG.out]] at this; exact this
    have c5 := implied_any W8 g n (n + 1) L (HVG.out.on (lat R2.out (lat R3.out (lat R4.out (lat R5.out (lat R6.out (lat R7.out R8.out))))))) HT.out (HE.out.on (lat R1.out (lat R2.out (lat R3.out (lat R4.out (lat R5.out (lat R6.out (lat R7.out R8.out))))))))
    go_wp2_with (go_at_call 5; refine StopF.out ?_)
    refine ⟨Calls.mono c5 ?_⟩
    rintro e W9 ⟨u3, ve3, rfl, ho3, hn3, hpd3, hb9⟩
    obtain ⟨a3, q3, rfl, -⟩ := told_form ho3 hn3
    rw [HM.out] at ho3 ⊢
    have HO3 : Hid (W9.ownsRow W8.heap.size 42 4 (.slice a3 m q3) m (Wk.nds (out L))) := ho3
    have R9 : Hid (Below W8.heap.size W8 W9) := hb9
    have f0 := (Below.cell (lat R5.out (lat R6.out (lat R7.out (lat R8.out R9.out)))) (p := ⟨W3.heap.size, 0, none⟩) (Tb.cell_lt HFC.out.1)).trans HFC.out.1
    have f1 := (Below.cell (lat R5.out (lat R6.out (lat R7.out (lat R8.out R9.out)))) (p := ⟨W3.heap.size, 1, none⟩) (Tb.cell_lt HFC.out.2)).trans HFC.out.2
    have c7 := is_d hpd3 (HRD.out.on (lat R4.out (lat R5.out (lat R6.out (lat R7.out (lat R8.out R9.out))))))
    clear c5 ho3 hn3 hpd3 hb9
    go_wp2_with (go_at_call 7; refine StopF.out ?_)
    refine ⟨Calls.mono c7 ?_⟩
    rintro e W10 ⟨rfl, hb10⟩
    have R10 : Hid (Below W9.heap.size W9 W10) := hb10
    clear c7 hb10 f0 f1
    have c8 := Wk.nodes_same W10 a1 ay m q1 qy (out L) (HX5.out.on (lat R6.out (lat R7.out (lat R8.out (lat R9.out R10.out))))) (HY5.out.on (lat R6.out (lat R7.out (lat R8.out (lat R9.out R10.out)))))
    go_wp2_with (go_at_call 8; refine StopF.out ?_)
    refine ⟨Calls.mono c8 ?_⟩
    rintro e W11 ⟨rfl, k11, hk11⟩
    have R11 : Hid (Below W10.heap.size W10 W11) := by rw [hk11]; exact Wk.below_drw (Below.refl _ _) _
    clear c8 hk11
    have c8 := Wk.nodes_same W11 a3 ay m q3 qy (out L) (told_nv (Wk.ownsRow_below HO3.out (lat R10.out R11.out) (Nat.le_refl _)) HM.out.symm HNUM.out) (HY5.out.on (lat R6.out (lat R7.out (lat R8.out (lat R9.out (lat R10.out R11.out))))))
    go_wp2_with (go_at_call 8; refine StopF.out ?_)
    refine ⟨Calls.mono c8 ?_⟩
    rintro e W12 ⟨rfl, k12, hk12⟩
    have R12 : Hid (Below W11.heap.size W11 W12) := by rw [hk12]; exact Wk.below_drw (Below.refl _ _) _
    clear c8 hk12
    have c9 := Wk.kept_any W12 g w.heap.size a n cap L (HV.out.on (lat R1.out (lat R2.out (lat R3.out (lat R4.out (lat R5.out (lat R6.out (lat R7.out (lat R8.out (lat R9.out (lat R10.out (lat R11.out R12.out)))))))))))) (HLG.out.keep (Below.block (lat R2.out (lat R3.out (lat R4.out (lat R5.out (lat R6.out (lat R7.out (lat R8.out (lat R9.out (lat R10.out (lat R11.out R12.out)))))))))) _ HLG.out.lt))
    go_wp2_with (go_at_call 9; refine StopF.out ?_)
    refine ⟨Calls.mono c9 ?_⟩
    rintro e W13 ⟨rfl, hb13⟩
    have R13 : Hid (Below W12.heap.size W12 W13) := hb13
    clear c9 hb13
    have HL13 : Hid (Lent g L w.heap.size W13) := HLG.out.keep (Below.block (lat R2.out (lat R3.out (lat R4.out (lat R5.out (lat R6.out (lat R7.out (lat R8.out (lat R9.out (lat R10.out (lat R11.out (lat R12.out R13.out))))))))))) _ HLG.out.lt)
    have c10 := Wk.turn_any W13 g w.heap.size n L HL13.out HN.out hsm HTS.out
    go_wp2_with (go_at_call 10; refine StopF.out ?_)
    refine ⟨Calls.mono c10 ?_⟩
    rintro e W14 ⟨v14, rfl, h14⟩
    obtain ⟨Q, hQ⟩ := h14.out
    have hlen : Q.length = n := hQ.sh.1.trans HN.out.symm
    have ho := hQ.own
    rw [← hlen, List.take_length, hlen] at ho
    obtain ⟨ao, c2, rfl⟩ : ∃ ao c2, v14 = .slice ao n c2 := by
      rcases ho.2 with ⟨hv, hn⟩ | ⟨g2, cp, cur, hv, -⟩
      · exact ⟨none, 0, by rw [hv, hn]⟩
      · exact ⟨_, cp, hv⟩
    have HQT : Hid (TagsOk Q) := Sh.tags hQ.sh HT.out
    have HQN : Hid (∀ x ∈ Q, -9223372036854775808 ≤ x.n ∧ x.n ≤ 9223372036854775807) := Sh.num hQ.sh HNUM.out
    have HQO : Hid (W14.ownsRow W13.heap.size 42 4 (.slice ao n c2) n (Wk.nds Q)) := ho
    have HQL : Hid (Q.length = n) := hlen
    have HQG : Hid (Lent g Q w.heap.size W14) := hQ.lent
    have HKO : Hid (KO g W13 W14) := hQ.ko
    clear h14 hQ ho hlen c10
    have H0 : Hid (0 < w.heap.size) := Rp.cell_lt HE.out
    have HE14 : Hid (EG W14) := (World.cell?_of_block (a := ⟨0, 0, none⟩) (HKO.out.block 0 (Nat.lt_of_lt_of_le H0.out (Below.size (lat R1.out (lat R2.out (lat R3.out (lat R4.out (lat R5.out (lat R6.out (lat R7.out (lat R8.out (lat R9.out (lat R10.out (lat R11.out (lat R12.out R13.out)))))))))))))) (by have := H0.out; have := HG.out; omega))).trans (HE.out.on (lat R1.out (lat R2.out (lat R3.out (lat R4.out (lat R5.out (lat R6.out (lat R7.out (lat R8.out (lat R9.out (lat R10.out (lat R11.out (lat R12.out R13.out)))))))))))))
    have HVQ : Hid (NV W14 (some ⟨g, 0, none⟩) n (n + 1) Q) := by
      have := HQG.out.nv (by rw [HQL.out]; exact hsm) HQN.out
      rw [HQL.out] at this
      exact this
    have HVO : Hid (NV W14 ao n c2 Q) := by
      rcases HQO.out.2 with ⟨hv, hn⟩ | ⟨g2, cp, cur, hv, -⟩
      · cases hv
        exact ⟨HQL.out.symm, Nat.zero_le _, by omega, fun h => absurd h (by omega), HQN.out⟩
      · cases hv
        exact own_nv HQO.out HQL.out.symm hsm HQN.out
    have c5 := implied_any W14 g n (n + 1) Q HVQ.out HQT.out HE14.out
    go_wp2_with (go_at_call 5; refine StopF.out ?_)
    refine ⟨Calls.mono c5 ?_⟩
    rintro e W15 ⟨u4, ve4, rfl, ho4, hn4, hpd4, hb15⟩
    obtain ⟨a4, q4, rfl, -⟩ := told_form ho4 hn4
    have HO4 : Hid (W15.ownsRow W14.heap.size 42 4 (.slice a4 (out Q).length q4) (out Q).length (Wk.nds (out Q))) := ho4
    have HPD4 : Hid (PD W15 ve4 (res Q)) := hpd4
    have R15 : Hid (Below W14.heap.size W14 W15) := hb15
    clear c5 ho4 hn4 hpd4 hb15
    have c6 := rimplied_any some_zero W15 ao n c2 Q (HVO.out.on R15.out) HQT.out
    go_wp2_with (go_at_call 6; refine StopF.out ?_)
    refine ⟨Calls.mono c6 ?_⟩
    rintro e W16 ⟨u5, vf5, rfl, ho5, hn5, hrd5, hb16⟩
    obtain ⟨a5, q5, rfl, -⟩ := told_form ho5 hn5
    have HO5 : Hid (W16.ownsRow W15.heap.size 42 4 (.slice a5 (out Q).length q5) (out Q).length (Wk.nds (out Q))) := ho5
    have HRD5 : Hid (RD W16 vf5 (res Q)) := hrd5
    have R16 : Hid (Below W15.heap.size W15 W16) := hb16
    obtain ⟨ga, gm, gc, gk, rfl⟩ := hrd5.form
    clear c6 ho5 hn5 hrd5 hb16
    obtain ⟨m2, hm2⟩ : ∃ m2, (out Q).length = m2 := ⟨_, rfl⟩
    have HM2 : Hid ((out Q).length = m2) := hm2
    rw [hm2] at HO4 HO5 ⊢
    clear hm2
    obtain ⟨W17, hW17⟩ : ∃ W17, W16.alloc (.cells #[.slice ga gm gc, .int .i64 gk] 30) = W17 := ⟨_, rfl⟩
    have R17 : Hid (Below W16.heap.size W16 W17) := by rw [← hW17]; exact (Below.refl _ _).alloc (Nat.le_refl _) _
    have f0 : W17.cell? ⟨W16.heap.size, 0, none⟩ = some (.slice ga gm gc) := by rw [← hW17]; simp
    have f1 : W17.cell? ⟨W16.heap.size, 1, none⟩ = some (.int .i64 gk) := by rw [← hW17]; simp
    have c7 := is_d (HPD4.out.on (lat R16.out R17.out)) (HRD5.out.on R17.out)
    go_wp2_with (go_at_call 7; refine StopF.out ?_)
    refine ⟨Calls.mono c7 ?_⟩
    rintro e W18 ⟨rfl, hb18⟩
    have R18 : Hid (Below W17.heap.size W17 W18) := hb18
    clear c7 hb18 hW17 f0 f1
    have c8 := Wk.nodes_same W18 a4 a5 m2 q4 q5 (out Q) (told_nv (Wk.ownsRow_below HO4.out (lat R16.out (lat R17.out R18.out)) (Nat.le_refl _)) HM2.out.symm HQN.out) (told_nv (Wk.ownsRow_below HO5.out (lat R17.out R18.out) (Nat.le_refl _)) HM2.out.symm HQN.out)
    go_wp2_with (go_at_call 8; refine StopF.out ?_)
    refine ⟨Calls.mono c8 ?_⟩
    rintro e W19 ⟨rfl, k19, hk19⟩
    have R19 : Hid (Below W18.heap.size W18 W19) := by rw [hk19]; exact Wk.below_drw (Below.refl _ _) _
    clear c8 hk19
    have hg1 : g < W1.heap.size := HLG.out.lt
    have HX14 : Hid (W14.ownsRow W1.heap.size 42 4 (.slice a1 m q1) m (Wk.nds (out L))) := own_ko (Wk.ownsRow_below HO1.out (lat R3.out (lat R4.out (lat R5.out (lat R6.out (lat R7.out (lat R8.out (lat R9.out (lat R10.out (lat R11.out (lat R12.out R13.out)))))))))) (Nat.le_refl _)) HKO.out hg1
    have HY14 : Hid (W14.ownsRow W2.heap.size 42 4 (.slice ay m qy) m (Wk.nds (out L))) := own_ko (Wk.ownsRow_below HOY.out (lat R4.out (lat R5.out (lat R6.out (lat R7.out (lat R8.out (lat R9.out (lat R10.out (lat R11.out (lat R12.out R13.out))))))))) (Nat.le_refl _)) HKO.out (Nat.lt_of_lt_of_le hg1 R2.out.size)
    have HZ14 : Hid (W14.ownsRow W8.heap.size 42 4 (.slice a3 m q3) m (Wk.nds (out L))) := own_ko (Wk.ownsRow_below HO3.out (lat R10.out (lat R11.out (lat R12.out R13.out))) (Nat.le_refl _)) HKO.out (Nat.lt_of_lt_of_le hg1 (Below.size (lat R2.out (lat R3.out (lat R4.out (lat R5.out (lat R6.out (lat R7.out R8.out))))))))
    have c8 := Wk.nodes_same W19 a1 ay m q1 qy (out L) (told_nv (Wk.ownsRow_below HX14.out (lat R15.out (lat R16.out (lat R17.out (lat R18.out R19.out)))) (Nat.le_refl _)) HM.out.symm HNUM.out) (told_nv (Wk.ownsRow_below HY14.out (lat R15.out (lat R16.out (lat R17.out (lat R18.out R19.out)))) (Nat.le_refl _)) HM.out.symm HNUM.out)
    go_wp2_with (go_at_call 8; refine StopF.out ?_)
    refine ⟨Calls.mono c8 ?_⟩
    rintro e W20 ⟨rfl, k20, hk20⟩
    have R20 : Hid (Below W19.heap.size W19 W20) := by rw [hk20]; exact Wk.below_drw (Below.refl _ _) _
    clear c8 hk20
    obtain ⟨W21, hW21⟩ : ∃ W21, W20.alloc (.cells #[.slice a1 m q1, .slice none 0 0, .slice a3 m q3, .slice a4 m2 q4] 22) = W21 := ⟨_, rfl⟩
    have R21 : Hid (Below W20.heap.size W20 W21) := by rw [← hW21]; exact (Below.refl _ _).alloc (Nat.le_refl _) _
    have HS21 : Hid (W21.heap.size = W20.heap.size + 1) := by rw [← hW21]; show _ = _; simp
    have HC21 : Hid (W21.cell? ⟨W20.heap.size, 0, none⟩ = some (.slice a1 m q1) ∧ W21.cell? ⟨W20.heap.size, 1, none⟩ = some (.slice none 0 0) ∧ W21.cell? ⟨W20.heap.size, 2, none⟩ = some (.slice a3 m q3) ∧ W21.cell? ⟨W20.heap.size, 3, none⟩ = some (.slice a4 m2 q4)) := by rw [← hW21]; exact ⟨by simp, by simp, by simp, by simp⟩
    have HSZ : Hid (w.heap.size = g ∧ g < W1.heap.size ∧ W1.heap.size ≤ W2.heap.size ∧ W2.heap.size ≤ W8.heap.size ∧ W8.heap.size ≤ W9.heap.size ∧ W9.heap.size ≤ W13.heap.size ∧ W13.heap.size ≤ W14.heap.size ∧ W14.heap.size ≤ W15.heap.size ∧ W15.heap.size ≤ W20.heap.size) := ⟨HG.out, hg1, R2.out.size, Below.size (lat R3.out (lat R4.out (lat R5.out (lat R6.out (lat R7.out R8.out))))), R9.out.size, Below.size (lat R10.out (lat R11.out (lat R12.out R13.out))), HKO.out.size, R15.out.size, Below.size (lat R16.out (lat R17.out (lat R18.out (lat R19.out R20.out))))⟩
    have r0 : ∀ k, (Value.slice a1 m q1).ownBlock = some k → W1.heap.size ≤ k ∧ k < W2.heap.size := fun k hk => HO1.out.lt k hk
    have r1 : ∀ k, (Value.slice none 0 0).ownBlock = some k → False := fun k hk => by cases hk
    have r2 : ∀ k, (Value.slice a3 m q3).ownBlock = some k → W8.heap.size ≤ k ∧ k < W9.heap.size := fun k hk => HO3.out.lt k hk
    have r3 : ∀ k, (Value.slice a4 m2 q4).ownBlock = some k → W14.heap.size ≤ k ∧ k < W15.heap.size := fun k hk => HO4.out.lt k hk
    have hr : ∀ i, i < 4 → ∀ k, ([Value.slice a1 m q1, .slice none 0 0, .slice a3 m q3, .slice a4 m2 q4].getD i .nilIface).ownBlock = some k → (i = 0 ∧ W1.heap.size ≤ k ∧ k < W2.heap.size) ∨ (i = 2 ∧ W8.heap.size ≤ k ∧ k < W9.heap.size) ∨ (i = 3 ∧ W14.heap.size ≤ k ∧ k < W15.heap.size) := fun i hi k hk => by
      rcases (show i = 0 ∨ i = 1 ∨ i = 2 ∨ i = 3 by omega) with rfl | rfl | rfl | rfl
      · exact .inl ⟨rfl, r0 k hk⟩
      · exact (r1 k hk).elim
      · exact .inr (.inl ⟨rfl, r2 k hk⟩)
      · exact .inr (.inr ⟨rfl, r3 k hk⟩)
    have HHR : Hid _ := hr
    clear r0 r1 r2 r3 hr
    have c11 := free4 W21 w.heap.size W20.heap.size 4 (.slice a1 m q1) (.slice none 0 0) (.slice a3 m q3) (.slice a4 m2 q4) L [] L Q
      (by rw [HM.out]; exact Wk.own_base (Wk.ownsRow_below HX14.out (lat R15.out (lat R16.out (lat R17.out (lat R18.out (lat R19.out (lat R20.out R21.out)))))) (Nat.le_refl _)) (by have := HSZ.out; omega)) (by rw [out_nil]; exact World.ownsRow_nil _ _ _ _) (by rw [HM.out]; exact Wk.own_base (Wk.ownsRow_below HZ14.out (lat R15.out (lat R16.out (lat R17.out (lat R18.out (lat R19.out (lat R20.out R21.out)))))) (Nat.le_refl _)) (by have := HSZ.out; omega)) (by rw [HM2.out]; exact Wk.own_base (Wk.ownsRow_below HO4.out (lat R16.out (lat R17.out (lat R18.out (lat R19.out (lat R20.out R21.out))))) (Nat.le_refl _)) (by have := HSZ.out; omega))
      HC21.out.1 HC21.out.2.1 HC21.out.2.2.1 HC21.out.2.2.2 (by have := HSZ.out; have := HS21.out; omega)
      (fun i j hi hj hij k e1 e2 => by
        have t1 := HHR.out i hi k e1
        have t2 := HHR.out j hj k e2
        have := HSZ.out
        omega)
      (fun i hi e => by
        have t1 := HHR.out i hi _ e
        have := HSZ.out
        omega)
    go_wp2_with (go_at_call 11; refine StopF.out ?_)
    refine ⟨Calls.mono c11 ?_⟩
    rintro e W22 ⟨rfl, hkr⟩
    have HKR : Hid _ := hkr
    clear c11 hkr hW21
    have kg : W22.heap[g]? = W14.heap[g]? := (HKR.out.block g (by have := HSZ.out; have := HS21.out; omega) (fun i hi e => by have := HHR.out i hi g e; have := HSZ.out; omega)).trans (Below.block (lat R15.out (lat R16.out (lat R17.out (lat R18.out (lat R19.out (lat R20.out R21.out)))))) g (by have := HSZ.out; omega))
    have HV22 : Hid (NV W22 ao n c2 Q) := by
      have hown : W22.ownsRow W13.heap.size 42 4 (.slice ao n c2) n (Wk.nds Q) := Wk.own_keep HQO.out (fun g' hg' => by
        have hlt := HQO.out.lt g' hg'
        exact (HKR.out.block g' (by have := HSZ.out; have := HS21.out; omega) (fun i hi e => by have := HHR.out i hi g' e; have := HSZ.out; omega)).trans (Below.block (lat R15.out (lat R16.out (lat R17.out (lat R18.out (lat R19.out (lat R20.out R21.out)))))) g' hlt.2))
      rcases hown.2 with ⟨hv, hn⟩ | ⟨g2, cp, cur, hv, -⟩
      · cases hv
        exact ⟨HQL.out.symm, Nat.zero_le _, by omega, fun h => absurd h (by omega), HQN.out⟩
      · cases hv
        exact own_nv hown HQL.out.symm hsm HQN.out
    have c9 := Wk.kept_any W22 g w.heap.size ao n c2 Q HV22.out (HQG.out.keep kg)
    have HBE : Hid (Below w.heap.size w W22) := by
      have b13 : Below w.heap.size w W13 := (lat R1.out (lat R2.out (lat R3.out (lat R4.out (lat R5.out (lat R6.out (lat R7.out (lat R8.out (lat R9.out (lat R10.out (lat R11.out (lat R12.out R13.out))))))))))))
      have b14 : Below w.heap.size W13 W14 := ⟨HKO.out.os, HKO.out.tape, HKO.out.output, HKO.out.size, fun k hk => HKO.out.block k (by have := HSZ.out; omega) (by have := HSZ.out; omega)⟩
      have b22 : Below w.heap.size W21 W22 := ⟨HKR.out.os, HKR.out.tape, HKR.out.output, HKR.out.size, fun k hk => HKR.out.block k (by have := HSZ.out; have := HS21.out; omega) (fun i hi e => by have := HHR.out i hi k e; have := HSZ.out; omega)⟩
      exact b13.trans (b14.trans ((Below.mono (lat R15.out (lat R16.out (lat R17.out (lat R18.out (lat R19.out (lat R20.out R21.out)))))) (by have := HSZ.out; omega)).trans b22))
    clear kg
    go_wp2_with (go_at_call 9; refine StopF.out ?_)
    refine ⟨Calls.mono c9 ?_⟩
    rintro e W23 ⟨rfl, hb23⟩
    go_wp2
    go_ret
    exact ⟨rfl, HBE.out.trans (hb23.mono HBE.out.size)⟩
end Go.Proofs.YtmocofmlehmneaaGreatDoor

/-
  DERIVED. Nodes that came in, read.
-/
namespace Go.Proofs.YtmocofmlehmneaaGreatDoor
open Go Go.Proofs Go.RowKit
open Wk (Nd NV)

section
variable {H : Type} {enc : TypeId × Value → H} {W : World} {base : Nat} {spare : Nat → Bool} {held : Bool}

/-- These cells read as something of that type; nothing in it is longer than a machine holds. -/
def Rd (enc : TypeId × Value → H) (W : World) (base : Nat) (spare : Nat → Bool) (held : Bool) (t : TypeId) (cs : List Value) : Prop :=
  ∃ fuel d p, DataW.trod enc Tryz.prog W base spare held fuel t cs = some (d, p) ∧ ∀ n ∈ d.weights Tryz.prog t, n ≤ reachBytes

theorem weights_all {t : TypeId} : ∀ {l : List (DataW H)} {i : Nat} {d : DataW H}, l[i]? = some d → ∀ n ∈ d.weights Tryz.prog t, n ∈ DataW.weightsAll Tryz.prog t l
  | [], _, _, h, _, _ => by simp at h
  | x :: l, 0, d, h, n, hn => by simp at h; subst h; simp [DataW.weightsAll, hn]
  | x :: l, i + 1, d, h, n, hn => by simp at h; simp only [DataW.weightsAll, List.mem_append]; exact .inr (weights_all h n hn)

theorem Rd.field {t : TypeId} {fs : Array Field} {cs : List Value} (h : Rd enc W base spare held t cs) (ht : Tryz.prog.underlying t = some (.struct fs)) (i : Nat) (f : Field) (hf : fs[i]? = some f) : Rd enc W base spare held f.type ((cs.drop f.offset).take (Tryz.prog.cellsOf f.type)) := by
  obtain ⟨fu, d, p, h, hw⟩ := h
  obtain ⟨xs, n, rfl, hx, hl, hxl, hall⟩ := DataW.trod_struct ht h
  have hi : i < fs.size := (Array.getElem?_eq_some_iff.1 hf).1
  obtain ⟨b, hb⟩ : ∃ b, xs[i]? = some b := ⟨xs[i]'(by omega), List.getElem?_eq_getElem (by omega)⟩
  have h1 := hall i f hf
  rw [hb] at h1
  refine ⟨n, b.1, b.2, h1, fun m hm => hw m ?_⟩
  have hd : d = .agg (xs.map (·.1)) := congrArg Prod.fst hx
  subst hd
  simp only [DataW.weights, ht]
  exact DataW.weights_mem_each (j := i) (t := f.type) (d := b.1) (by simp [hf]) (by simp [hb]) m hm

theorem Rd.at {t ty : TypeId} {fs : Array Field} {cs : List Value} (h : Rd enc W base spare held t cs) (ht : Tryz.prog.underlying t = some (.struct fs)) (i o n : Nat) (hf : (fs[i]?).map (fun f => (f.type, f.offset)) = some (ty, o)) (hc : Tryz.prog.cellsOf ty = n) : Rd enc W base spare held ty ((cs.drop o).take n) := by
  obtain ⟨f, hf1, hf2⟩ := Option.map_eq_some_iff.1 hf
  simp only [Prod.mk.injEq] at hf2
  have := h.field ht i f hf1
  rw [hf2.1, hf2.2, hc] at this
  exact this
/-- A slice, element by element. -/
theorem Rd.slice {t e : TypeId} {m : Nat} {cs : List Value} (h : Rd enc W base spare held t cs) (ht : Tryz.prog.underlying t = some (.slice e)) (hm : Tryz.prog.cellsOf e = m) (hm0 : 0 < m) :
    ∃ ao n cap, cs = [.slice ao n cap] ∧ n * Tryz.prog.bytesOf e ≤ reachBytes ∧ n ≤ cap ∧ (0 < n → ∃ b off, ao = some ⟨b, off, none⟩ ∧ ∀ i, i < n → ∃ es : List Value, es.length = m ∧ W.rangeAt b (off + i * m) es ∧ Rd enc W base spare held e es) := by
  obtain ⟨fu, d, p, h, hw⟩ := h
  rcases DataW.trod_slice ht h with ⟨rfl, _⟩ | ⟨a, len, cap, elems, rest, n, rfl, rfl, hx, hb, hlc, hcm, hel, hall, _, _⟩
  · exact ⟨none, 0, 0, rfl, by simp, by omega, fun h => by omega⟩
  · have hd : d = .slice (elems.map (·.1)) (rest.map (·.1)) := congrArg Prod.fst hx
    subst hd
    simp only [DataW.weights, ht] at hw
    have hwl := hw _ (List.mem_cons_self ..)
    refine ⟨some a, len, cap, rfl, ?_, hlc, fun hn => ?_⟩
    · simp only [List.length_map] at hwl
      exact Nat.le_trans (Nat.mul_le_mul_right _ (by omega)) hwl
    · rw [hm] at hall
      have hone : ∀ i, i < len → ∃ es x, W.cells? base (a.add (i * m)) m = some es ∧ DataW.trod enc Tryz.prog W base spare held n e es = some x ∧ elems[i]? = some x := fun i hi => by
        have h1 := hall i hi
        rw [List.getElem?_eq_getElem (by omega)] at h1
        obtain ⟨es, he, hx⟩ := Option.bind_eq_some_iff.1 h1
        exact ⟨es, _, he, hx, List.getElem?_eq_getElem (by omega)⟩
      obtain ⟨es0, x0, hc0, _, _⟩ := hone 0 hn
      obtain ⟨b, off, sp⟩ := a
      have hs : sp = none := by
        have h3 := World.cells?_some hc0
        have h4 := h3.2.2 0 hm0
        rw [List.getElem?_eq_getElem (by omega)] at h4
        have := World.cell?_spot h4
        simpa [Addr.add] using this
      subst hs
      refine ⟨b, off, rfl, fun i hi => ?_⟩
      obtain ⟨es, x, hc, hx, hei⟩ := hone i hi
      have h3 := World.cells?_some hc
      refine ⟨es, h3.2.1, fun j v hv => ?_, n, x.1, x.2, hx, fun w hww => hw w ?_⟩
      · have hj : j < m := by have := (List.getElem?_eq_some_iff.1 hv).1; omega
        have h4 := h3.2.2 j hj
        rw [Addr.add_mid, Addr.add_mid] at h4
        exact h4.trans hv
      · refine List.mem_cons_of_mem _ (List.mem_append.2 (.inl (weights_all (i := i) ?_ w hww)))
        simp [hei]

theorem cells3 : Tryz.prog.cellsOf 3 = 1 := by kernel_rfl
theorem cells9 : Tryz.prog.cellsOf 9 = 1 := by kernel_rfl
theorem cells34 : Tryz.prog.cellsOf 39 = 1 := by kernel_rfl
theorem cells35 : Tryz.prog.cellsOf 40 = 1 := by kernel_rfl
theorem Rd.node {cs : List Value} (h : Rd enc W base spare held 42 cs) (hl : cs.length = 4) : ∃ a : Nd, cs = a.cs ∧ (0 ≤ a.t ∧ a.t < 4294967296) ∧ (-9223372036854775808 ≤ a.n ∧ a.n ≤ 9223372036854775807) ∧ a.s.size ≤ 140737488351232 := by
  match cs, hl with
  | [c0, c1, c2, c3], _ =>
    have r0 : Rd enc W base spare held 39 [c0] := h.at Tryz.underlying42 0 0 1 rfl cells34
    have r1 : Rd enc W base spare held 40 [c1] := h.at Tryz.underlying42 1 1 1 rfl cells35
    have r2 : Rd enc W base spare held 3 [c2] := h.at Tryz.underlying42 2 2 1 rfl cells3
    have r3 : Rd enc W base spare held 9 [c3] := h.at Tryz.underlying42 3 3 1 rfl cells9
    obtain ⟨f0, d0, p0, q0, -⟩ := r0
    obtain ⟨f1, d1, p1, q1, -⟩ := r1
    obtain ⟨f2, d2, p2, q2, -⟩ := r2
    obtain ⟨f3, d3, p3, q3, w3⟩ := r3
    obtain ⟨t, e0, -, hw0⟩ := DataW.trod_int Tryz.underlying39 q0
    obtain ⟨v, e1, -, -⟩ := DataW.trod_int Tryz.underlying40 q1
    obtain ⟨z, e2, -, hw2⟩ := DataW.trod_int Tryz.underlying3 q2
    obtain ⟨s, e3, hx3, -⟩ := DataW.trod_string Tryz.underlying9 q3
    simp only [List.cons.injEq, and_true] at e0 e1 e2 e3
    subst e0 e1 e2 e3
    simp only [Lit.wf, Bool.and_eq_true, decide_eq_true_eq, show IntKind.u32.min = 0 from rfl, show IntKind.u32.max = 4294967295 from rfl] at hw0
    simp only [Lit.wf, Bool.and_eq_true, decide_eq_true_eq, show IntKind.i64.min = -9223372036854775808 from rfl, show IntKind.i64.max = 9223372036854775807 from rfl] at hw2
    refine ⟨⟨t, v, z, s⟩, rfl, ⟨hw0.1, by simp only; omega⟩, hw2, ?_⟩
    have hd : d3 = .lit (.string s.data.toList) := congrArg Prod.fst hx3
    subst hd
    have := w3 s.data.toList.length (by simp [DataW.weights])
    rw [Array.length_toList] at this
    exact this
theorem Rd.nodes {v : Value} (h : Rd enc W base spare held 22 [v]) : ∃ a n cap L, v = .slice a n cap ∧ NV W a n cap L ∧ TagsOk L ∧ ∀ y ∈ L, y.s.size ≤ 140737488351232 := by
  obtain ⟨ao, n, cap, hv, hb, hc, hel⟩ := h.slice Tryz.underlying22 (m := 4) (by kernel_rfl) (by omega)
  simp only [List.cons.injEq, and_true] at hv
  subst hv
  rw [show Tryz.prog.bytesOf 42 = 40 by kernel_rfl, show reachBytes = 140737488351232 from rfl] at hb
  by_cases hn : 0 < n
  · obtain ⟨b, off, rfl, he⟩ := hel hn
    have hz : ∀ i, ∃ q : Nd, i < n → (∀ k u, q.cs[k]? = some u → W.cell? ⟨b, off + i * 4 + k, none⟩ = some u) ∧ (0 ≤ q.t ∧ q.t < 4294967296) ∧ (-9223372036854775808 ≤ q.n ∧ q.n ≤ 9223372036854775807) ∧ q.s.size ≤ 140737488351232 := fun i => by
      by_cases hi : i < n
      · obtain ⟨es, h1, h2, h3⟩ := he i hi
        obtain ⟨q, rfl, k1, k2, k3⟩ := h3.node h1
        exact ⟨q, fun _ => ⟨fun k u hu => h2 k u hu, k1, k2, k3⟩⟩
      · exact ⟨⟨0, 0, 0, ⟨#[]⟩⟩, fun h => absurd h hi⟩
    obtain ⟨F, hF⟩ := Classical.axiomOfChoice hz
    have hmem : ∀ y ∈ (List.range n).map F, ∃ i, i < n ∧ F i = y := fun y hy => by
      obtain ⟨i, hi, rfl⟩ := List.mem_map.1 hy
      exact ⟨i, List.mem_range.1 hi, rfl⟩
    refine ⟨_, n, cap, (List.range n).map F, rfl, ⟨by simp, hc, by omega, fun _ => ⟨b, off, rfl, fun i hi => ?_⟩, fun y hy => ?_⟩, fun y hy => ?_, fun y hy => ?_⟩
    · have hi' : i < n := by simpa using hi
      have e : ((List.range n).map F)[i]'hi = F i := by simp
      rw [e]
      have hk := (hF i hi').1
      exact ⟨hk 0 _ rfl, hk 1 _ rfl, hk 2 _ rfl, hk 3 _ rfl⟩
    · obtain ⟨i, hi, rfl⟩ := hmem y hy
      exact (hF i hi).2.2.1
    · obtain ⟨i, hi, rfl⟩ := hmem y hy
      exact (hF i hi).2.1
    · obtain ⟨i, hi, rfl⟩ := hmem y hy
      exact (hF i hi).2.2.2
  · obtain rfl : n = 0 := by omega
    exact ⟨ao, 0, cap, [], rfl, ⟨rfl, Nat.zero_le _, by omega, fun h => absurd h (by omega), fun y hy => by simp at hy⟩, fun y hy => by simp at hy, fun y hy => by simp at hy⟩
end
end Go.Proofs.YtmocofmlehmneaaGreatDoor
