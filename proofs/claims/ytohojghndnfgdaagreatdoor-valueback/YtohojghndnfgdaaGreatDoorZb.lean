import Derived.Test.YtohojghndnfgdaaGreatDoorZa
import Derived.Test.YtohojghndnfgdaaGreatDoorQYb
import Derived.Test.YtohojghndnfgdaaGreatDoorWYa
/-
  DERIVED. The law of what is printed and read back.
-/
namespace Go.Proofs.YtohojghndnfgdaaGreatDoor
open Go Go.Proofs Go.RowKit

theorem d0_ok : Tm.oP d0 = none ∧ Tm.yy d0 = 2024 ∧ Tm.mm d0 = 2 ∧ Tm.dd d0 = 29 := by
  refine ⟨by decide +kernel, by decide +kernel, by decide +kernel, by decide +kernel⟩

theorem er_tm {W : World} {v : Value} {o : Option (Int × Int)} (h : Tm.PErr W v o) : Er v o.isNone := by
  cases o with
  | none => exact ⟨fun _ => h, fun e => by cases e⟩
  | some x => obtain ⟨q, hq, _⟩ := h; exact ⟨(fun e => by cases e), fun _ => ⟨q, hq⟩⟩
theorem er_nm {W : World} {v : Value} {o : Option (Int × Int)} (h : PErr W v o) : Er v o.isNone := by
  cases o with
  | none => exact ⟨fun _ => h, fun e => by cases e⟩
  | some x => obtain ⟨q, hq, _⟩ := h; exact ⟨(fun e => by cases e), fun _ => ⟨q, hq⟩⟩
theorem er_wh {W : World} {v : Value} {o : Option (Int × Int)} (h : Wh.PErr W v o) : Er v o.isNone := by
  cases o with
  | none => exact ⟨fun _ => h, fun e => by cases e⟩
  | some x => obtain ⟨q, hq, _⟩ := h; exact ⟨(fun e => by cases e), fun _ => ⟨q, hq⟩⟩

theorem date_ok (w : World) (hT : Tm.Mt w) : Tl 4 #[.string d0] w (.agg #[.int .i64 2024, .int .i64 2, .int .i64 29]) := by
  intro W hb
  obtain ⟨h1, h2, h3, h4⟩ := d0_ok
  refine (Tm.parse_any W d0 (by decide) (hT.on hb) 2024 2 29 3 (.inl ⟨h1, by rw [h2]; rfl, by rw [h3]; rfl, by rw [h4]; rfl, rfl⟩)).mono ?_
  rintro e W' ⟨v, he, hv, hb'⟩
  rw [h1] at hv
  obtain rfl : v = .nilIface := hv
  exact ⟨he, hb'⟩

theorem time_ok (w : World) (s : ByteArray) (hs : s.size ≤ 140737488351232) (hT : Tm.Mt w) (hO : Tm.Ot w) (hp : Tm.Pow w) : TimeOk w s := by
  obtain ⟨S, hS⟩ : ∃ S, Tm.rdM s (Tm.timeS s) = S := ⟨_, rfl⟩
  refine ⟨S.h, S.mi, S.sc, S.mc, S.p, (Tm.rdO s (Tm.timeS s)).isNone, ?_, ?_⟩
  · intro W hb
    refine (Tm.parse16_any W s hs (hT.on hb)).mono ?_
    rintro e W' ⟨v, he, hv, hb'⟩
    rw [hS] at he
    exact ⟨v, he, er_tm hv, hb'⟩
  · intro ho W hb
    have hn := Option.isNone_iff_eq_none.1 ho
    obtain ⟨h1, h2⟩ := Tm.time_back hn
    have hS' : S = Tm.timeS s := by rw [← hS]; unfold Tm.rdM; rw [if_pos hn]
    rw [← hS'] at h1 h2
    refine (Tm.prt18_any W S.h S.mi S.sc S.mc S.p (hO.on hb) (hp.on hb)).mono ?_
    rintro e W' ⟨v, he, hv, hb'⟩
    unfold Tm.tW at he
    unfold Tm.tO at hv
    rw [if_pos h1] at he hv
    obtain rfl : v = .nilIface := hv
    simp only [Int.toNat_natCast] at he
    rw [h2] at he
    exact ⟨he, hb'⟩

theorem mom_ok (w : World) (s : ByteArray) (hs : s.size ≤ 140737488351232) (hT : Tm.Mt w) (hO : Tm.Ot w) (hp : Tm.Pow w) : MomOk w s := by
  obtain ⟨S, hS⟩ : ∃ S, Tm.rdM s (Tm.momS s) = S := ⟨_, rfl⟩
  refine ⟨S.y, S.m, S.d, S.dp, S.h, S.mi, S.sc, S.mc, S.p, S.zd, S.z, (Tm.rdO s (Tm.momS s)).isNone, ?_, ?_⟩
  · intro W hb
    refine (Tm.parse20_any W s hs (hT.on hb)).mono ?_
    rintro e W' ⟨v, he, hv, hb'⟩
    rw [hS] at he
    exact ⟨v, he, er_tm hv, hb'⟩
  · intro ho W hb
    have hn := Option.isNone_iff_eq_none.1 ho
    obtain ⟨h1, h2⟩ := Tm.moment_back hn
    have hS' : S = Tm.momS s := by rw [← hS]; unfold Tm.rdM; rw [if_pos hn]
    rw [← hS'] at h1 h2
    refine (Tm.prt22_any W S.y S.m S.d S.dp S.h S.mi S.sc S.mc S.p S.zd S.z (hT.on hb) (hO.on hb) (hp.on hb)).mono ?_
    rintro e W' ⟨v, he, hv, hb'⟩
    unfold Tm.mW at he
    unfold Tm.mO at hv
    rw [if_pos h1] at he hv
    obtain rfl : v = .nilIface := hv
    simp only [Int.toNat_natCast] at he
    rw [h2] at he
    exact ⟨he, hb'⟩

theorem name_ok (w : World) (s : ByteArray) (hs : s.size ≤ 140737488351232) : NameOk w s := by
  refine ⟨(PNs s).2, (PNs s).1.isNone, ?_, ?_⟩
  · intro W hb
    refine (parse4_any W s hs).mono ?_
    rintro e W' ⟨v, he, hv, hb'⟩
    exact ⟨v, he, er_nm hv, hb'⟩
  · intro ho
    have hn := Option.isNone_iff_eq_none.1 ho
    obtain ⟨P, Y, U, h3, hP, hU, hY, hX, hl, hz⟩ := name_back s (PNs s).2 (Prod.ext hn rfl)
    refine ⟨U, hl, ?_, ?_⟩
    · intro W hb
      rw [← hP]
      refine (print6_any W P h3 hz).mono ?_
      rintro e W' ⟨v, he, hv, hb'⟩
      rw [hU] at he hv
      obtain rfl : v = .nilIface := hv
      exact ⟨he, hb'⟩
    · intro W hb
      rw [← hX]
      refine (parse4_any W U (by omega)).mono ?_
      rintro e W' ⟨v, he, hv, hb'⟩
      rw [hY] at he hv
      obtain rfl : v = .nilIface := hv
      exact ⟨he, hb'⟩

theorem whole_ok (w : World) (s : ByteArray) (hp : Tm.Pow w) : WholeOk w s := by
  refine ⟨(Wh.WR s).1, (Wh.WR s).2.isNone, ?_, ?_⟩
  · intro W hb
    refine (Wh.pwhole_any W s).mono ?_
    rintro e W' ⟨v, he, hv, hb'⟩
    exact ⟨v, he, er_wh hv, hb'⟩
  · intro ho
    have hn := Option.isNone_iff_eq_none.1 ho
    have hg := Wh.WR_good hn
    generalize (Wh.WR s).1 = k at *
    have hr : -2147483648 ≤ k ∧ k ≤ 2147483647 := by unfold Wh.wrong at hg; omega
    refine ⟨⟨(Lib.itoa k).toArray⟩, ?_, ?_⟩
    · intro W hb
      refine (Wh.pprintw_any W k (by omega) (by omega) (hp.on hb)).mono ?_
      rintro e W' ⟨v, he, hv, hb'⟩
      rw [Wh.PW_ok hg] at he hv
      obtain rfl : v = .nilIface := hv
      exact ⟨he, hb'⟩
    · intro W hb
      refine (Wh.pwhole_any W ⟨(Lib.itoa k).toArray⟩).mono ?_
      rintro e W' ⟨v, he, hv, hb'⟩
      rw [Wh.whole_back hg] at he hv
      obtain rfl : v = .nilIface := hv
      exact ⟨he, hb'⟩

theorem back_any (w : World) (s : ByteArray) (hs : s.size ≤ 140737488351232) (hT : Tm.Mt w) (hO : Tm.Ot w) (hp : Tm.Pow w) : Calls Tryz.prog 3 #[.string s] w (BackPost w) :=
  back_walk w s (date_ok w hT) (time_ok w s hs hT hO hp) (mom_ok w s hs hT hO hp) (name_ok w s hs) (whole_ok w s hp)
end Go.Proofs.YtohojghndnfgdaaGreatDoor
