import Derived.Test.YtlmkbfnmnbmakaaGreatDoorLb
import Derived.Test.YtlmkbfnmnbmakaaGreatDoorDc
/-
  DERIVED. The law of Formed.
-/
namespace Go.Proofs.YtlmkbfnmnbmakaaGreatDoor
open Go Go.Proofs Go.RowKit
open Wk (Nd NV Lent TnI KO)

theorem some_zero : SomeC 0 :=
  some_step 0 (by decide) fun _ => some_step 1 (by decide) fun _ => some_step 2 (by decide) fun _ => some_step 3 (by decide) fun _ => some_step 4 (by decide) fun h => absurd h (by decide)
theorem turned {w W W' : World} {a : Option Addr} {n cap g : Nat} {ve v : Value} {L : List Nd} (h : LawI w a n cap g ve L L W) (hq : ∃ Q, TnI W g w.heap.size L n v W' Q) : ∃ ao c2, v = .slice ao n c2 ∧ LawO w a n cap g ve L W.heap.size ao c2 W' := by
  obtain ⟨Q, hQ⟩ := hq
  have hlen : Q.length = n := hQ.sh.1.trans h.len
  have ho := hQ.own
  rw [← hlen, List.take_length, hlen] at ho
  have hgl := h.lent.lt
  obtain ⟨z0, hz0⟩ := Lent.first h.lent
  have hwg := h.lent.lt'
  have hI : LawI w a n cap g ve L Q W' := ⟨NV.ko h.nv hQ.ko (fun hn b off e => by have := h.old hn b off e; omega), h.old, hQ.lent, hlen, Sh.tags hQ.sh h.tg, Sh.num hQ.sh h.num, h.pe.ko hQ.ko (h.pe.apart hz0), h.be.trans (hQ.ko.below hwg h.be.size)⟩
  rcases ho.2 with ⟨hv, hn⟩ | ⟨g2, cp, cur, hv, -⟩
  · exact ⟨none, 0, by rw [hv, hn], Q, hI, by rw [hv] at ho; rw [hn] at ho ⊢; exact ho, hgl⟩
  · exact ⟨some ⟨g2, 0, none⟩, cp, hv, Q, hI, by rw [hv] at ho; exact ho, hgl⟩

set_option maxRecDepth 100000 in
set_option maxHeartbeats 4000000 in
theorem forms_law (hS : SomeC 0) (w : World) (a : Option Addr) (n cap : Nat) (L : List Nd) (hV : NV w a n cap L) (hT : TagsOk L) (hts : ∀ x ∈ L, x.s.size ≤ 140737488351232) :
    Calls Tryz.prog 3 #[.slice a n cap] w fun e w' => e = .returned (.bool true) ∧ Below w.heap.size w w' := by
  have HS : Hid (SomeC 0) := hS
  have HV : Hid (NV w a n cap L) := hV
  have HT : Hid (TagsOk L) := hT
  have HTS : Hid (∀ x ∈ L, x.s.size ≤ 140737488351232) := hts
  have HOLD : Hid (0 < n → ∀ b off, a = some ⟨b, off, none⟩ → b < w.heap.size) := fun hn b off e => by
    obtain ⟨b', off', h1, h2⟩ := hV.lies hn
    rw [h1] at e
    cases e
    exact Tb.cell_lt (h2 0 (by have := hV.len; omega)).1
  have hsm := hV.small
  have HN : Hid (n = L.length) := hV.len
  have c4 := Wk.lend_any w a n cap L hV
  clear hS hV hT hts
  go_enter Tryz.func3, Tryz.ntmps3
  go_wp2_with (go_at_call 4; refine StopF.out ?_)
  refine ⟨Calls.mono c4 ?_⟩
  rintro e W1 ⟨rfl, hl1, hb1⟩
  have HL1 : Hid (Lent w.heap.size L w.heap.size W1) := hl1
  have HB1 : Hid (Below w.heap.size w W1) := hb1
  have HV1 : Hid (NV W1 (some ⟨w.heap.size, 0, none⟩) n (n + 1) L) := by
    have := hl1.nv (by rw [← HN.out]; exact hsm) HV.out.num
    rw [← HN.out] at this
    exact this
  have c5 := formed_any W1 (some ⟨w.heap.size, 0, none⟩) n (n + 1) L HV1.out HT.out
  clear c4 hl1 hb1
  obtain ⟨g, hg⟩ : ∃ g, w.heap.size = g := ⟨_, rfl⟩
  have HG : Hid (w.heap.size = g) := hg
  rw [hg] at c5 ⊢
  clear hg
  go_wp2_with (go_at_call 5; refine StopF.out ?_)
  refine ⟨Calls.mono c5 ?_⟩
  rintro e W2 ⟨ve, rfl, hpe, hb2⟩
  have HI2 : Hid (LawI w a n cap g ve L L W2) := by
    have h1 := (HB1.out)
    refine LawI.on (W := W2) ⟨(HV.out.on ((HB1.out.trans (hb2.out.mono HB1.out.size)).mono (Nat.le_refl _))), ?_, ?_, HN.out.symm, HT.out, HV.out.num, hpe.out, HB1.out.trans (hb2.out.mono HB1.out.size)⟩ (Below.refl _ _)
    · rw [← HG.out]; exact HOLD.out
    · rw [← HG.out]
      exact HL1.out.keep (hb2.out.block _ HL1.out.lt)
  clear c5 hpe hb2
  have c7 := rformed_any HS.out W2 a n cap L HI2.out.nv HT.out
  go_wp2_with (go_at_call 7; refine StopF.out ?_)
  refine ⟨Calls.mono c7 ?_⟩
  rintro e W3 ⟨vf, rfl, hre, hb3⟩
  have HI3 : Hid (LawI w a n cap g ve L L W3) := HI2.out.on hb3.out
  have c6 := is_same HI3.out.pe hre.out
  clear c7 hre hb3 HI2
  go_wp2_with (go_at_call 6; refine StopF.out ?_)
  refine ⟨Calls.mono c6 ?_⟩
  rintro e W4 ⟨rfl, hb4⟩
  have HI4 : Hid (LawI w a n cap g ve L L W4) := HI3.out.on hb4
  have c8 := Wk.kept_any W4 g w.heap.size a n cap L HI4.out.nv HI4.out.lent
  clear c6 hb4 HI3
  go_wp2_with (go_at_call 8; refine StopF.out ?_)
  refine ⟨Calls.mono c8 ?_⟩
  rintro e W5 ⟨rfl, hb5⟩
  have HI5 : Hid (LawI w a n cap g ve L L W5) := HI4.out.on hb5
  have c9 := Wk.turn_any W5 g w.heap.size n L HI5.out.lent HN.out hsm HTS.out
  clear c8 hb5 HI4
  go_wp2_with (go_at_call 9; refine StopF.out ?_)
  refine ⟨Calls.mono c9 ?_⟩
  rintro e W6 ⟨v6, rfl, h6⟩
  obtain ⟨ao, c2, rfl, hO⟩ := turned HI5.out h6.out
  have HO6 : Hid (LawO w a n cap g ve L W5.heap.size ao c2 W6) := hO
  clear c9 h6 hO HI5
  obtain ⟨B2, hB2⟩ : ∃ B2, W5.heap.size = B2 := ⟨_, rfl⟩
  rw [hB2] at HO6
  clear hB2
  obtain ⟨Q, tg, n1, n2, n3, pe⟩ := HO6.out.both
  have HQ : Hid (TagsOk Q) := tg
  have H2 : Hid (NV W6 ao n c2 Q) := n2
  have c5 := formed_any W6 (some ⟨g, 0, none⟩) n (n + 1) Q n1 tg
  clear tg n1 n2 n3 pe
  go_wp2_with (go_at_call 5; refine StopF.out ?_)
  refine ⟨Calls.mono c5 ?_⟩
  rintro e W7 ⟨ve2, rfl, hpe, hb⟩
  have HO7 : Hid (LawO w a n cap g ve L B2 ao c2 W7) := HO6.out.on hb.out
  have HPE : Hid (PE W7 ve2 (res Q)) := hpe
  have H2b : Hid (NV W7 ao n c2 Q) := H2.out.on hb.out
  clear c5 hpe hb H2
  have c7 := rformed_any HS.out W7 ao n c2 Q H2b.out HQ.out
  go_wp2_with (go_at_call 7; refine StopF.out ?_)
  refine ⟨Calls.mono c7 ?_⟩
  rintro e W8 ⟨vf2, rfl, hre, hb⟩
  have HO8 : Hid (LawO w a n cap g ve L B2 ao c2 W8) := HO7.out.on hb.out
  have c6 := is_same (HPE.out.on hb.out) hre.out
  clear c7 hre hb H2b HPE
  go_wp2_with (go_at_call 6; refine StopF.out ?_)
  refine ⟨Calls.mono c6 ?_⟩
  rintro e W9 ⟨rfl, hb⟩
  have HO9 : Hid (LawO w a n cap g ve L B2 ao c2 W9) := HO8.out.on hb
  clear c6 hb
  obtain ⟨Q2, -, -, -, n3, pe⟩ := HO9.out.both
  have HPE : Hid (PE W9 ve (res L)) := pe
  have c7 := rformed_any HS.out W9 a n cap L n3 HT.out
  clear n3 pe
  go_wp2_with (go_at_call 7; refine StopF.out ?_)
  refine ⟨Calls.mono c7 ?_⟩
  rintro e W10 ⟨vf3, rfl, hre, hb⟩
  have HO10 : Hid (LawO w a n cap g ve L B2 ao c2 W10) := HO9.out.on hb.out
  have c6 := is_same (HPE.out.on hb.out) hre.out
  clear c7 hre hb HPE
  go_wp2_with (go_at_call 6; refine StopF.out ?_)
  refine ⟨Calls.mono c6 ?_⟩
  rintro e W11 ⟨rfl, hb⟩
  have HO11 : Hid (LawO w a n cap g ve L B2 ao c2 W11) := HO10.out.on hb
  clear c6 hb
  clear HO6 HO7 HO8 HO9 HO10
  go_wp2
  go_loopw [6] (fun x6 wr => ∃ i : Nat, x6 = .int .i64 (i : Int) ∧ i ≤ n ∧ Hid (LawO w a n cap g ve L B2 ao c2 wr)) (fun x6 _ => n - (intOf x6).toNat)
  case atStart => exact ⟨0, rfl, by omega, HO11⟩
  case round =>
    clear HO11
    obtain ⟨i, rfl, hin, HOr⟩ := hrel
    by_cases hlt : i < n
    · have hltI : decide ((i : Int) < (n : Int)) = true := by simp; omega
      by_cases hm : i = n / 2
      · have hmI : ((i : Int) == (n : Int) / 2) = true := beq_iff_eq.2 (by omega)
        obtain ⟨g2, z, rfl, hgg, hc2, e1, e2, f1, f2, hN⟩ := HOr.out.bump hlt
        have HNX : Hid _ := hN
        have hgg' : g2 ≠ g := fun h => hgg h.symm
        clear hm hN
        go_wp2
        exact ⟨⟨i + 1, by simp, by omega, HNX.out (wrap64 (z + 1)) (by unfold wrap64; omega)⟩, by simp [intOf]; omega⟩
      · have hmI : ((i : Int) == (n : Int) / 2) = false := beq_eq_false_iff_ne.2 (by omega)
        clear hm
        go_wp2
        exact ⟨⟨i + 1, by simp, by omega, HOr⟩, by simp [intOf]; omega⟩
    · have hltI : decide ((i : Int) < (n : Int)) = false := by simp; omega
      have HO20 : Hid (LawO w a n cap g ve L B2 ao c2 wr) := HOr
      obtain ⟨Q, tg, n1, n2, n3, pe⟩ := HO20.out.both
      have HQ : Hid (TagsOk Q) := tg
      have H2 : Hid (NV wr ao n c2 Q) := n2
      have c5 := formed_any wr (some ⟨g, 0, none⟩) n (n + 1) Q n1 tg
      clear tg n1 n2 n3 pe
      go_wp2_with (go_at_call 5; refine StopF.out ?_)
      refine ⟨Calls.mono c5 ?_⟩
      rintro e W21 ⟨ve2, rfl, hpe, hb⟩
      have HO21 : Hid (LawO w a n cap g ve L B2 ao c2 W21) := HO20.out.on hb.out
      have HPE : Hid (PE W21 ve2 (res Q)) := hpe
      have H2b : Hid (NV W21 ao n c2 Q) := H2.out.on hb.out
      clear c5 hpe hb H2
      have c7 := rformed_any HS.out W21 ao n c2 Q H2b.out HQ.out
      go_wp2_with (go_at_call 7; refine StopF.out ?_)
      refine ⟨Calls.mono c7 ?_⟩
      rintro e W22 ⟨vf2, rfl, hre, hb⟩
      have HO22 : Hid (LawO w a n cap g ve L B2 ao c2 W22) := HO21.out.on hb.out
      have c6 := is_same (HPE.out.on hb.out) hre.out
      clear c7 hre hb H2b HPE
      go_wp2_with (go_at_call 6; refine StopF.out ?_)
      refine ⟨Calls.mono c6 ?_⟩
      rintro e W23 ⟨rfl, hb⟩
      have HO23 : Hid (LawO w a n cap g ve L B2 ao c2 W23) := HO22.out.on hb
      clear c6 hb
      obtain ⟨Q2, -, -, -, n3, pe⟩ := HO23.out.both
      have HPE : Hid (PE W23 ve (res L)) := pe
      have c7 := rformed_any HS.out W23 a n cap L n3 HT.out
      clear n3 pe
      go_wp2_with (go_at_call 7; refine StopF.out ?_)
      refine ⟨Calls.mono c7 ?_⟩
      rintro e W24 ⟨vf3, rfl, hre, hb⟩
      have HO24 : Hid (LawO w a n cap g ve L B2 ao c2 W24) := HO23.out.on hb.out
      have c6 := is_same (HPE.out.on hb.out) hre.out
      clear c7 hre hb HPE
      go_wp2_with (go_at_call 6; refine StopF.out ?_)
      refine ⟨Calls.mono c6 ?_⟩
      rintro e W25 ⟨rfl, hb⟩
      have HO25 : Hid (LawO w a n cap g ve L B2 ao c2 W25) := HO24.out.on hb
      clear c6 hb
      go_wp2
      go_ret
      obtain ⟨Q9, h9, -⟩ := HO25.out
      exact ⟨rfl, h9.be⟩
end Go.Proofs.YtlmkbfnmnbmakaaGreatDoor
