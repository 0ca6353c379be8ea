import Derived.Test.YtggdlagopgpnhaaDoorN
/-
  DERIVED. The law of the calendar, walked.
-/
namespace Go.Proofs.YtggdlagopgpnhaaDoor
open Go Go.Proofs Go.RowKit

theorem day0 : IsDay 0 1 1 1 := ⟨⟨by decide, by decide, by decide, by decide, by decide, by decide⟩, by decide⟩
theorem dayL : Day 9999 12 31 ∧ num 9999 12 31 = 3652058 := ⟨⟨by decide, by decide, by decide, by decide, by decide, by decide⟩, by decide⟩

theorem dateOf0 (w : World) (hT : Mt w) : Calls Tryd.prog 6 #[.int .i64 0] w (PostN w (.tuple #[dv 1 1 1, .nilIface])) := by
  refine (dateOf_any w 0 (by omega) hT).mono ?_
  rintro e w' ⟨y, m, d, rfl, hd, hb⟩
  obtain ⟨rfl, rfl, rfl⟩ := isDay_one hd day0
  exact ⟨rfl, hb⟩
theorem dnumL (w : World) (hT : Mt w) : Calls Tryd.prog 7 #[dv 9999 12 31] w (PostN w (.tuple #[.int .i64 3652058, .nilIface])) := by
  refine (dnum_any w 9999 12 31 hT).mono ?_
  rintro e w' ⟨v, rfl, hv, hb⟩
  have hu : uf 9999 12 31 = -1 := by decide
  rw [if_pos hu] at hv
  obtain rfl : v = .nilIface := hv
  rw [if_pos hu]
  exact ⟨rfl, hb⟩
theorem dnumD (w : World) (n y m d : Nat) (h : IsDay n y m d) (hT : Mt w) : Calls Tryd.prog 7 #[dv y m d] w (PostN w (.tuple #[.int .i64 (n : Int), .nilIface])) := by
  refine (dnum_any w y m d hT).mono ?_
  rintro e w' ⟨v, rfl, hv, hb⟩
  have hu : uf y m d = -1 := by
    obtain ⟨⟨h1, h2, h3, h4, h5, h6⟩, _⟩ := h
    unfold uf
    rw [if_neg (by omega), if_neg (by omega), if_neg (by rw [Int.toNat_natCast, Int.toNat_natCast]; omega)]
  rw [if_pos hu] at hv
  obtain rfl : v = .nilIface := hv
  rw [if_pos hu, Int.toNat_natCast, Int.toNat_natCast, Int.toNat_natCast, h.2]
  exact ⟨rfl, hb⟩

set_option maxRecDepth 100000 in
set_option maxHeartbeats 2000000 in
/-- Beside the calendar. -/
theorem cal_beside (w : World) (n : Int) (h : n < 0 ∨ 3652058 ≤ n) (hT : Mt w) : Calls Tryd.prog 3 #[.int .i64 n] w (PostN w (.bool true)) := by
  have c0 := dateOf0 w hT
  have c7 := fun W hT' => dnumL W hT'
  have HT : Hid (Mt w) := hT
  have hI : decide (n < 0) = true ∨ (decide (n < 0) = false ∧ decide (3652058 ≤ n) = true) := by
    by_cases h0 : n < 0
    · exact .inl (by simpa using h0)
    · exact .inr ⟨by simpa using h0, by simpa using h.resolve_left h0⟩
  unfold dv at c0 c7
  by_cases hn : n = 3652058
  · subst hn
    have c6 := fun W hT' => dateOf_any W 3652058 (by omega) hT'
    clear h hI hT
    go_enter Tryd.func3, Tryd.ntmps3
    go_wp2_with (go_at_call 6; refine Stop.mk ?_)
    refine Stop.out (c0.mono ?_)
    rintro e W1 ⟨rfl, hb1⟩
    have HB1 : Hid (Below w.heap.size w W1) := hb1
    clear hb1 c0
    go_wp2_with (go_at_call 7; refine Stop.mk ?_)
    have hb1a := HB1.out.alloc HB1.out.size (.cells #[.int .i64 1, .int .i64 1, .int .i64 1] 23)
    refine Stop.out ((c7 _ (HT.out.on hb1a)).mono ?_)
    rintro e W2 ⟨rfl, hb2⟩
    have HB2 : Hid (Below w.heap.size w W2) := hb1a.trans (hb2.mono hb1a.size)
    clear hb1a hb2 c7
    go_wp2_with (go_at_call 6; refine Stop.mk ?_)
    refine Stop.out ((c6 W2 (HT.out.on HB2.out)).mono ?_)
    rintro e W3 ⟨y, m, d, rfl, hd, hb3⟩
    have HB3 : Hid (Below w.heap.size w W3) := HB2.out.trans (hb3.mono HB2.out.size)
    clear hb3 c6 hd
    unfold dv
    go_wp2
    go_ret
    exact ⟨rfl, HB3.out⟩
  · have c6 := fun W => dateOf_no W n (by omega)
    have hne : (n == 3652058) = false := by simpa using hn
    clear h hT hn
    rcases hI with hI | ⟨hI, hI2⟩
    all_goals
      go_enter Tryd.func3, Tryd.ntmps3
      go_wp2_with (go_at_call 6; refine Stop.mk ?_)
      refine Stop.out (c0.mono ?_)
      rintro e W1 ⟨rfl, hb1⟩
      have HB1 : Hid (Below w.heap.size w W1) := hb1
      clear hb1 c0
      go_wp2_with (go_at_call 7; refine Stop.mk ?_)
      have hb1a := HB1.out.alloc HB1.out.size (.cells #[.int .i64 1, .int .i64 1, .int .i64 1] 23)
      refine Stop.out ((c7 _ (HT.out.on hb1a)).mono ?_)
      rintro e W2 ⟨rfl, hb2⟩
      have HB2 : Hid (Below w.heap.size w W2) := hb1a.trans (hb2.mono hb1a.size)
      clear hb1a hb2 c7
      go_wp2_with (go_at_call 6; refine Stop.mk ?_)
      refine Stop.out ((c6 W2).mono ?_)
      rintro e W3 ⟨v, rfl, hv, hb3⟩
      have HB3 : Hid (Below w.heap.size w W3) := HB2.out.trans (hb3.mono HB2.out.size)
      obtain ⟨p, rfl, _⟩ := hv
      clear hb3 c6
      unfold dv
      go_wp2
      go_ret
      exact ⟨rfl, HB3.out⟩
end Go.Proofs.YtggdlagopgpnhaaDoor
