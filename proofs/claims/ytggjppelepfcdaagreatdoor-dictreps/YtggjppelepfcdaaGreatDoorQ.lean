import Derived.Test.YtggjppelepfcdaaGreatDoorO
import Derived.Deep.RegionHeld3
/-
  DERIVED. The law.
-/
namespace Go.Proofs.YtggjppelepfcdaaGreatDoor
open Go Go.Proofs Go.RowKit

theorem PErr.shape {w : World} {v : Value} {bad : Bool} (h : PErr w v bad) : v = .nilIface ∨ ∃ q, v = .iface 76 (.pointer (some ⟨q, 0, none⟩)) := by
  unfold PErr at h
  cases bad with
  | true => obtain ⟨q, rfl, _⟩ := h; exact .inr ⟨q, rfl⟩
  | false => exact .inl h

theorem RErr.shape {w : World} {v : Value} {bad : Bool} (h : RErr w v bad) : ∃ fa fn fc c, v = .agg #[.slice fa fn fc, .int .i64 c] := by
  unfold RErr at h
  cases bad with
  | true => obtain ⟨g, c, rfl, _⟩ := h; exact ⟨_, _, _, _, rfl⟩
  | false => exact ⟨_, _, _, _, h⟩

theorem I8.after {W W' : World} {g : Nat} {n : ByteArray} {p u m : Int} {t c q l : Bool} (hb : Below W.heap.size W W') (h : I8 W g n p u m t c q l) : I8 W' g n p u m t c q l := h.next hb (cell_lt h.c0)

theorem below_after {w W W' : World} (hb : Below W.heap.size W W') (h : Below w.heap.size w W) : Below w.heap.size w W' := h.trans (hb.mono h.size)

set_option maxRecDepth 100000 in
set_option maxHeartbeats 2000000 in
theorem reps_law (w : World) (v : Int) (s : ByteArray) : Calls Tryz.prog 3 #[.int .i64 v, .string s] w fun e w' => e = .returned (.bool true) ∧ Below w.heap.size w w' := by
  obtain ⟨R, hR⟩ : ∃ R, fnd s 28 1 = R := ⟨_, rfl⟩
  have c6 := vrof_any w s R hR
  have c7 := fun W => rvrof_any W s R hR
  have c9 := fun W => vrword_any W v
  have c10 := fun W => rvrword_any W v
  have c11 := fun W => about_open W v
  have c12 := fun W => rabout_open W v
  have c13 := fun W => text_any W v
  have c14 := fun W => unified_any W v
  generalize decide (R = 0) = bad at c6 c7
  generalize nm (vn v) = n at c9 c10 c11 c12
  generalize pd (vn v) = p at c11 c12
  generalize un (vn v) = u at c11 c12
  generalize mo (vn v) = m at c11 c12
  generalize tx (vn v) = t at c11 c12 c13
  generalize ch (vn v) = c at c11 c12 c14
  generalize mu (vn v) = q at c11 c12
  generalize lo (vn v) = l at c11 c12
  generalize decide (1 ≤ v ∧ v ≤ 28) = b at c11 c12
  clear hR
  go_enter Tryz.func3, Tryz.ntmps3
  go_wp2_with (go_at_call 6; fail)
  refine c6.mono ?_
  rintro e W1 ⟨ve, rfl, hPE, hb1⟩
  have HPE : Hid (PErr W1 ve bad) := hPE
  have HB1 : Hid (Below w.heap.size w W1) := hb1
  have hve := hPE.shape
  clear c6 hPE hb1
  rcases hve with rfl | ⟨qe, rfl⟩
  all_goals go_wp2_with (go_at_call 7; fail)
  all_goals refine (c7 W1).mono ?_
  all_goals rintro e W2 ⟨vf, rfl, hRE, hb2⟩
  all_goals have HPE2 : Hid (PErr W2 _ bad) := HPE.out.next hb2
  all_goals have HRE : Hid (RErr W2 vf bad) := hRE
  all_goals have HB2 : Hid (Below w.heap.size w W2) := HB1.out.trans (hb2.mono HB1.out.size)
  all_goals obtain ⟨fa, fn, fc, fe, rfl⟩ := hRE.shape
  all_goals clear c7 hRE hb2 HPE
  all_goals go_wp2_with (go_at_call 8; fail)
  all_goals have hba : Below W2.heap.size W2 (W2.alloc (.cells #[.slice fa fn fc, .int .i64 fe] 29)) := (Below.refl _ _).alloc (Nat.le_refl _) _
  all_goals refine (is_yes (HPE2.out.next hba) (HRE.out.next hba)).mono ?_
  all_goals rintro e W3 ⟨rfl, hb3⟩
  all_goals have HB3 : Hid (Below w.heap.size w W3) := HB2.out.trans ((hba.mono HB2.out.size).trans (hb3.mono (by have := HB2.out.size; simp; omega)))
  all_goals clear hba hb3 HPE2 HRE
  all_goals go_wp2_with (go_at_call 9; fail)
  all_goals refine (c9 W3).mono ?_
  all_goals rintro e W4 ⟨rfl, hb4⟩
  all_goals have HB4 : Hid (Below w.heap.size w W4) := HB3.out.trans (hb4.mono HB3.out.size)
  all_goals clear hb4 c9
  all_goals go_wp2_with (first | (go_at_call 10; refine (c10 _).mono ?_; rintro e w' ⟨rfl, rfl⟩) | (go_at_call 11; refine (c11 _).mono ?_; rintro e W5 ⟨rfl, hb5⟩; have HB5 : Hid (Below w.heap.size w W5) := HB4.out.trans (hb5.mono HB4.out.size)) | (go_at_call 12; fail))
  all_goals clear hb5 c11 c10
  all_goals (obtain ⟨V5, hV5⟩ : ∃ V5, W5.alloc (.cells #[.string n, .int .u8 p, .int .i64 u, .int .i64 m, .bool t, .bool c, .bool q, .bool l] 35) = V5 := ⟨_, rfl⟩)
  all_goals (have HI9 : Hid (I8 V5 W5.heap.size n p u m t c q l) := by rw [← hV5]; exact ⟨by simp, by simp, by simp, by simp, by simp, by simp, by simp, by simp, fun i => by simp⟩)
  all_goals (have HB6 : Hid (Below w.heap.size w V5) := hV5 ▸ HB5.out.alloc HB5.out.size _)
  all_goals rw [hV5]
  all_goals clear hV5
  all_goals generalize W5.heap.size = g9 at HI9 ⊢
  all_goals refine (c12 V5).mono ?_
  all_goals rintro e W6 ⟨rfl, hb6⟩
  all_goals have HJ9 : Hid (I8 W6 g9 n p u m t c q l) := HI9.out.next hb6 (cell_lt HI9.out.c0)
  all_goals have HB7 : Hid (Below w.heap.size w W6) := HB6.out.trans (hb6.mono HB6.out.size)
  all_goals clear hb6 c12 HI9 HB6 HB5
  all_goals go_wp2
  all_goals (obtain ⟨V6, hV6⟩ : ∃ V6, W6.alloc (.cells #[.string n, .int .u8 p, .int .i64 u, .int .i64 m, .bool t, .bool c, .bool q, .bool l] 35) = V6 := ⟨_, rfl⟩)
  all_goals (have HK11 : Hid (I8 V6 W6.heap.size n p u m t c q l) := by rw [← hV6]; exact ⟨by simp, by simp, by simp, by simp, by simp, by simp, by simp, by simp, fun i => by simp⟩)
  all_goals (have HB8 : Hid (Below w.heap.size w V6) := hV6 ▸ HB7.out.alloc HB7.out.size _)
  all_goals (have HK9 : Hid (I8 V6 g9 n p u m t c q l) := by rw [← hV6]; exact HJ9.out.next ((Below.refl _ _).alloc (Nat.le_refl _) _) (cell_lt HJ9.out.c0))
  all_goals rw [hV6]
  all_goals clear hV6
  all_goals generalize W6.heap.size = g11 at HK11 ⊢
  all_goals have hS := And.intro HK9.out HK11.out
  all_goals have hBl := HB8.out
  all_goals refine wp_region_noPanic ?_
  · go_region_held3 (fun w' => w'.cell? ⟨g9, 0, none⟩ = some (.string n) ∧ w'.cell? ⟨g9, 1, none⟩ = some (.int .u8 p) ∧ w'.cell? ⟨g9, 2, none⟩ = some (.int .i64 u) ∧ w'.cell? ⟨g9, 3, none⟩ = some (.int .i64 m) ∧ w'.cell? ⟨g9, 4, none⟩ = some (.bool t) ∧ w'.cell? ⟨g9, 5, none⟩ = some (.bool c) ∧ w'.cell? ⟨g9, 6, none⟩ = some (.bool q) ∧ w'.cell? ⟨g9, 7, none⟩ = some (.bool l) ∧ w'.cell? ⟨g11, 0, none⟩ = some (.string n) ∧ w'.cell? ⟨g11, 1, none⟩ = some (.int .u8 p) ∧ w'.cell? ⟨g11, 2, none⟩ = some (.int .i64 u) ∧ w'.cell? ⟨g11, 3, none⟩ = some (.int .i64 m) ∧ w'.cell? ⟨g11, 4, none⟩ = some (.bool t) ∧ w'.cell? ⟨g11, 5, none⟩ = some (.bool c) ∧ w'.cell? ⟨g11, 6, none⟩ = some (.bool q) ∧ w'.cell? ⟨g11, 7, none⟩ = some (.bool l)) (exact ⟨hS.1.c0, hS.1.c1, hS.1.c2, hS.1.c3, hS.1.c4, hS.1.c5, hS.1.c6, hS.1.c7, hS.2.c0, hS.2.c1, hS.2.c2, hS.2.c3, hS.2.c4, hS.2.c5, hS.2.c6, hS.2.c7⟩) (first | (go_at_call 13; refine (c13 _).mono ?_; rintro e Wt ⟨rfl, hbt⟩; replace hS := And.intro (I8.after hbt (g := g9) (n := n) (p := p) (u := u) (m := m) (t := t) (c := c) (q := q) (l := l) ⟨hS.1.c0, hS.1.c1, hS.1.c2, hS.1.c3, hS.1.c4, hS.1.c5, hS.1.c6, hS.1.c7, hS.1.cf⟩) (I8.after hbt (g := g11) (n := n) (p := p) (u := u) (m := m) (t := t) (c := c) (q := q) (l := l) ⟨hS.2.c0, hS.2.c1, hS.2.c2, hS.2.c3, hS.2.c4, hS.2.c5, hS.2.c6, hS.2.c7, hS.2.cf⟩); replace hBl := below_after hbt (by first | exact hBl | exact hBl.drew | exact hBl.drew.drew | exact below_drewN hBl _)) | (go_at_call 14; refine (c14 _).mono ?_; rintro e Wu ⟨rfl, hbu⟩; replace hS := And.intro (I8.after hbu (g := g9) (n := n) (p := p) (u := u) (m := m) (t := t) (c := c) (q := q) (l := l) ⟨hS.1.c0, hS.1.c1, hS.1.c2, hS.1.c3, hS.1.c4, hS.1.c5, hS.1.c6, hS.1.c7, hS.1.cf⟩) (I8.after hbu (g := g11) (n := n) (p := p) (u := u) (m := m) (t := t) (c := c) (q := q) (l := l) ⟨hS.2.c0, hS.2.c1, hS.2.c2, hS.2.c3, hS.2.c4, hS.2.c5, hS.2.c6, hS.2.c7, hS.2.cf⟩); replace hBl := below_after hbu (by first | exact hBl | exact hBl.drew | exact hBl.drew.drew | exact below_drewN hBl _)))
    refine NoPanic.normal ?_
    go_wp2
    go_ret
    exact ⟨rfl, by first | exact hBl | exact hBl.drew | exact below_drewN hBl _⟩
  · go_region_held3 (fun w' => w'.cell? ⟨g9, 0, none⟩ = some (.string n) ∧ w'.cell? ⟨g9, 1, none⟩ = some (.int .u8 p) ∧ w'.cell? ⟨g9, 2, none⟩ = some (.int .i64 u) ∧ w'.cell? ⟨g9, 3, none⟩ = some (.int .i64 m) ∧ w'.cell? ⟨g9, 4, none⟩ = some (.bool t) ∧ w'.cell? ⟨g9, 5, none⟩ = some (.bool c) ∧ w'.cell? ⟨g9, 6, none⟩ = some (.bool q) ∧ w'.cell? ⟨g9, 7, none⟩ = some (.bool l) ∧ w'.cell? ⟨g11, 0, none⟩ = some (.string n) ∧ w'.cell? ⟨g11, 1, none⟩ = some (.int .u8 p) ∧ w'.cell? ⟨g11, 2, none⟩ = some (.int .i64 u) ∧ w'.cell? ⟨g11, 3, none⟩ = some (.int .i64 m) ∧ w'.cell? ⟨g11, 4, none⟩ = some (.bool t) ∧ w'.cell? ⟨g11, 5, none⟩ = some (.bool c) ∧ w'.cell? ⟨g11, 6, none⟩ = some (.bool q) ∧ w'.cell? ⟨g11, 7, none⟩ = some (.bool l)) (exact ⟨hS.1.c0, hS.1.c1, hS.1.c2, hS.1.c3, hS.1.c4, hS.1.c5, hS.1.c6, hS.1.c7, hS.2.c0, hS.2.c1, hS.2.c2, hS.2.c3, hS.2.c4, hS.2.c5, hS.2.c6, hS.2.c7⟩) (first | (go_at_call 13; refine (c13 _).mono ?_; rintro e Wt ⟨rfl, hbt⟩; replace hS := And.intro (I8.after hbt (g := g9) (n := n) (p := p) (u := u) (m := m) (t := t) (c := c) (q := q) (l := l) ⟨hS.1.c0, hS.1.c1, hS.1.c2, hS.1.c3, hS.1.c4, hS.1.c5, hS.1.c6, hS.1.c7, hS.1.cf⟩) (I8.after hbt (g := g11) (n := n) (p := p) (u := u) (m := m) (t := t) (c := c) (q := q) (l := l) ⟨hS.2.c0, hS.2.c1, hS.2.c2, hS.2.c3, hS.2.c4, hS.2.c5, hS.2.c6, hS.2.c7, hS.2.cf⟩); replace hBl := below_after hbt (by first | exact hBl | exact hBl.drew | exact hBl.drew.drew | exact below_drewN hBl _)) | (go_at_call 14; refine (c14 _).mono ?_; rintro e Wu ⟨rfl, hbu⟩; replace hS := And.intro (I8.after hbu (g := g9) (n := n) (p := p) (u := u) (m := m) (t := t) (c := c) (q := q) (l := l) ⟨hS.1.c0, hS.1.c1, hS.1.c2, hS.1.c3, hS.1.c4, hS.1.c5, hS.1.c6, hS.1.c7, hS.1.cf⟩) (I8.after hbu (g := g11) (n := n) (p := p) (u := u) (m := m) (t := t) (c := c) (q := q) (l := l) ⟨hS.2.c0, hS.2.c1, hS.2.c2, hS.2.c3, hS.2.c4, hS.2.c5, hS.2.c6, hS.2.c7, hS.2.cf⟩); replace hBl := below_after hbu (by first | exact hBl | exact hBl.drew | exact hBl.drew.drew | exact below_drewN hBl _)))
    refine NoPanic.normal ?_
    go_wp2
    go_ret
    exact ⟨rfl, by first | exact hBl | exact hBl.drew | exact below_drewN hBl _⟩
end Go.Proofs.YtggjppelepfcdaaGreatDoor
