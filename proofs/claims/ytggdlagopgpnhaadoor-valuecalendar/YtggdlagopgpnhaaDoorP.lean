import Derived.Test.YtggdlagopgpnhaaDoorO
import Derived.Deep.RegionHeld3
/-
  DERIVED. The law of the calendar, walked within it.
-/
namespace Go.Proofs.YtggdlagopgpnhaaDoor
open Go Go.Proofs Go.RowKit

theorem below_undrew' {W W' : World} (h : Below W.drew.heap.size W.drew W') : Below W.heap.size W W' := ⟨h.os, h.tape, h.output, h.size, h.block⟩
/-- A day in a block of its own. -/
structure D3 (W : World) (q y m d : Nat) : Prop where
  q0 : W.cell? ⟨q, 0, none⟩ = some (.int .i64 (y : Int))
  q1 : W.cell? ⟨q, 1, none⟩ = some (.int .i64 (m : Int))
  q2 : W.cell? ⟨q, 2, none⟩ = some (.int .i64 (d : Int))
theorem D3.on {W W' : World} {q y m d : Nat} (h : D3 W q y m d) (hb : Below W.heap.size W W') : D3 W' q y m d :=
  ⟨(hb.cell (cell_lt h.q0)).trans h.q0, (hb.cell (cell_lt h.q1)).trans h.q1, (hb.cell (cell_lt h.q2)).trans h.q2⟩

theorem less_of {l r : List UInt8} (h : l < r) : Op.bytesLess l r = true := by
  induction l generalizing r with
  | nil => cases r with | nil => exact absurd h (by decide) | cons x r => rfl
  | cons x l ih =>
    cases r with
    | nil => exact absurd h (by simp)
    | cons y r =>
      rw [List.cons_lt_cons_iff] at h
      unfold Op.bytesLess
      rcases h with h | ⟨rfl, h⟩
      · simp [h]
      · simp [ih h]
theorem below_hid {w W W' : World} (h : Hid (Below w.heap.size w W)) (hb : Below W.heap.size W W') : Hid (Below w.heap.size w W') := h.out.trans (hb.mono h.out.size)
def Six (W : World) (qa qb y m d y' m' d' : Nat) : Prop :=
  W.cell? ⟨qa, 0, none⟩ = some (.int .i64 (y : Int)) ∧ W.cell? ⟨qa, 1, none⟩ = some (.int .i64 (m : Int)) ∧ W.cell? ⟨qa, 2, none⟩ = some (.int .i64 (d : Int)) ∧ W.cell? ⟨qb, 0, none⟩ = some (.int .i64 (y' : Int)) ∧ W.cell? ⟨qb, 1, none⟩ = some (.int .i64 (m' : Int)) ∧ W.cell? ⟨qb, 2, none⟩ = some (.int .i64 (d' : Int))
theorem Six.on {W W' : World} {qa qb y m d y' m' d' : Nat} (h : Six W qa qb y m d y' m' d') (hb : Below W.heap.size W W') : Six W' qa qb y m d y' m' d' :=
  ⟨(hb.cell (cell_lt h.1)).trans h.1, (hb.cell (cell_lt h.2.1)).trans h.2.1, (hb.cell (cell_lt h.2.2.1)).trans h.2.2.1, (hb.cell (cell_lt h.2.2.2.1)).trans h.2.2.2.1, (hb.cell (cell_lt h.2.2.2.2.1)).trans h.2.2.2.2.1, (hb.cell (cell_lt h.2.2.2.2.2)).trans h.2.2.2.2.2⟩

set_option maxRecDepth 100000 in
set_option maxHeartbeats 4000000 in
theorem cal_in (w : World) (n : Nat) (hn : n < 3652058) (hT : Mt w) (hp : Pow w) : Calls Tryd.prog 3 #[.int .i64 (n : Int)] w (PostN w (.bool true)) := by
  have c0 := dateOf0 w hT
  have c7 := fun W hT' => dnumL W hT'
  have HT : Hid (Mt w) := hT
  have HP : Hid (Pow w) := hp
  have n0 : decide ((n : Int) < 0) = false := by simp
  have n1 : decide ((3652058 : Int) ≤ (n : Int)) = false := by simp; omega
  have c6 := fun W hT' => dateOf_any W n (by omega) hT'
  have c6' := fun W hT' => dateOf_any W (n + 1) (by omega) hT'
  have hn2 : (n : Int) < 3652058 := by omega
  unfold dv at c0 c7
  clear hT hp
  go_enter Tryd.func3, Tryd.ntmps3
  go_wp2_with (go_at_call 6; refine Stop.mk ?_)
  refine Stop.out (c0.mono ?_)
  rintro e W1 ⟨rfl, hb1⟩
  have HB1 : Hid (Below w.heap.size w W1) := hb1
  clear hb1 c0
  go_wp2_with (go_at_call 7; refine Stop.mk ?_)
  have hb1a := HB1.out.alloc HB1.out.size (.cells #[.int .i64 1, .int .i64 1, .int .i64 1] 23)
  refine Stop.out ((c7 _ (HT.out.on hb1a)).mono ?_)
  rintro e W2 ⟨rfl, hb2⟩
  have HB2 : Hid (Below w.heap.size w W2) := hb1a.trans (hb2.mono hb1a.size)
  clear hb1a hb2 c7
  go_wp2_with (go_at_call 6; refine Stop.mk ?_)
  refine Stop.out ((c6 W2 (HT.out.on HB2.out)).mono ?_)
  rintro e W3 ⟨y, m, d, rfl, hd, hb3⟩
  have HB3 : Hid (Below w.heap.size w W3) := HB2.out.trans (hb3.mono HB2.out.size)
  have HDn : Hid (IsDay n y m d) := hd
  clear hb3 c6 hd
  unfold dv
  go_wp2_with (go_at_call 6; refine Stop.mk ?_)
  obtain ⟨W3a, hW3a⟩ : ∃ W3a, W3.alloc (.cells #[.int .i64 (y : Int), .int .i64 (m : Int), .int .i64 (d : Int)] 23) = W3a := ⟨_, rfl⟩
  rw [hW3a]
  have HB3a : Hid (Below w.heap.size w W3a) := hW3a ▸ HB3.out.alloc HB3.out.size _
  obtain ⟨qa, hqa⟩ : ∃ qa, W3.heap.size = qa := ⟨_, rfl⟩
  have HA : Hid (D3 W3a qa y m d) := by rw [← hW3a, ← hqa]; exact ⟨by simp, by simp, by simp⟩
  clear hW3a
  refine Stop.out ((c6' W3a (HT.out.on HB3a.out)).mono ?_)
  rintro e W4 ⟨y', m', d', rfl, hd', hb4⟩
  have hnx := isDay_one hd' (nxt_is HDn.out hn)
  have HB4 : Hid (Below w.heap.size w W4) := HB3a.out.trans (hb4.mono HB3a.out.size)
  have HA4 : Hid (D3 W4 qa y m d) := HA.out.on hb4
  have HDm : Hid (IsDay (n + 1) y' m' d') := hd'
  have HX : Hid (y' = (nxt y m d).1 ∧ m' = (nxt y m d).2.1 ∧ d' = (nxt y m d).2.2) := hnx
  clear hb4 hd' hnx c6' HA HB3a HB3
  obtain ⟨W4a, hW4a⟩ : ∃ W4a, W4.alloc (.cells #[.int .i64 (y' : Int), .int .i64 (m' : Int), .int .i64 (d' : Int)] 23) = W4a := ⟨_, rfl⟩
  obtain ⟨qb, hqb⟩ : ∃ qb, W4.heap.size = qb := ⟨_, rfl⟩
  have HW4a : Hid (W4.alloc (.cells #[.int .i64 (y' : Int), .int .i64 (m' : Int), .int .i64 (d' : Int)] 23) = W4a) := hW4a
  have HB4a : Hid (Below w.heap.size w W4a) := hW4a ▸ HB4.out.alloc HB4.out.size _
  have HA4a : Hid (D3 W4a qa y m d) := hW4a ▸ HA4.out.on ((Below.refl _ W4).alloc (Nat.le_refl _) _)
  have HE4a : Hid (D3 W4a qb y' m' d') := by rw [← hW4a, ← hqb]; exact ⟨by simp, by simp, by simp⟩
  clear hW4a HB4 HA4
  unfold dv
  go_upto_region 12 with fail
  rw [HW4a.out]
  clear HW4a
  have e0 := HA4a.out.q0
  have e1 := HA4a.out.q1
  have e2 := HA4a.out.q2
  have c7' := dnumD W4a n y m d HDn.out (HT.out.on HB4a.out)
  unfold dv at c7'
  go_wp2_with (go_at_call 7; refine Stop.mk ?_)
  refine Stop.out (c7'.mono ?_)
  rintro e W5 ⟨rfl, hb5⟩
  have HB5 : Hid (Below w.heap.size w W5) := HB4a.out.trans (hb5.mono HB4a.out.size)
  have HA5 : Hid (D3 W5 qa y m d) := HA4a.out.on hb5
  have HE5 : Hid (D3 W5 qb y' m' d') := HE4a.out.on hb5
  clear hb5 c7' e0 e1 e2 HA4a HE4a HB4a
  have e0 := HA5.out.q0
  have e1 := HA5.out.q1
  have e2 := HA5.out.q2
  have f0 := HE5.out.q0
  have f1 := HE5.out.q1
  have f2 := HE5.out.q2
  have c8 := next8_any W5.drew y m d HDn.out.1
  rw [← HX.out.1, ← HX.out.2.1, ← HX.out.2.2] at c8
  unfold dv at c8
  go_wp2
  have hB : Six W5.drew qa qb y m d y' m' d' := ⟨e0, e1, e2, f0, f1, f2⟩
  have HB6 : Hid (Below w.heap.size w W5.drew) := HB5.out.drew
  clear e0 e1 e2 f0 f1 f2
  go_region_held3 (fun w' => w'.cell? ⟨qa, 0, none⟩ = some (.int .i64 (y : Int)) ∧ w'.cell? ⟨qa, 1, none⟩ = some (.int .i64 (m : Int)) ∧ w'.cell? ⟨qa, 2, none⟩ = some (.int .i64 (d : Int)) ∧ w'.cell? ⟨qb, 0, none⟩ = some (.int .i64 (y' : Int)) ∧ w'.cell? ⟨qb, 1, none⟩ = some (.int .i64 (m' : Int)) ∧ w'.cell? ⟨qb, 2, none⟩ = some (.int .i64 (d' : Int))) (exact hB) (first | (go_at_call 8; refine c8.mono ?_; rintro e W6 ⟨rfl, hb6⟩; replace hB := Six.on hB hb6; replace HB6 := below_hid HB6 hb6))
  have HS6 : Hid (Six W6 qa qb y m d y' m' d') := hB
  obtain ⟨e0, e1, e2, f0, f1, f2⟩ := hB
  have c9 := print_any W6 y m d HDn.out.1 (HT.out.on HB6.out) (HP.out.on HB6.out)
  unfold dv at c9
  clear c8 HA5 HE5 HB5
  go_wp2_with (go_at_call 9; refine Stop.mk ?_)
  refine Stop.out (c9.mono ?_)
  rintro e W7 ⟨rfl, hb7⟩
  have HB7 : Hid (Below w.heap.size w W7) := HB6.out.trans (hb7.mono HB6.out.size)
  have HS7 : Hid (Six W7 qa qb y m d y' m' d') := HS6.out.on hb7
  clear hb7 c9 HS6 e0 e1 e2 f0 f1 f2 HB6
  obtain ⟨e0, e1, e2, f0, f1, f2⟩ := HS7.out
  have c9 := print_any W7 y' m' d' HDm.out.1 (HT.out.on HB7.out) (HP.out.on HB7.out)
  unfold dv at c9
  go_wp2_with (go_at_call 9; refine Stop.mk ?_)
  refine Stop.out (c9.mono ?_)
  rintro e W8 ⟨rfl, hb8⟩
  have HB8 : Hid (Below w.heap.size w W8) := HB7.out.trans (hb8.mono HB7.out.size)
  have HS8 : Hid (Six W8 qa qb y m d y' m' d') := HS7.out.on hb8
  clear hb8 c9 HS7 e0 e1 e2 f0 f1 f2 HB7
  have h31 := md_le y m
  have h31' := md_le y' m'
  have hday := HDn.out.1
  have hday' := HDm.out.1
  have hv := txt_v y m d (by have := hday.2.1; omega) (by have := hday.2.2.2.1; omega) (by have := hday.2.2.2.2.2; omega)
  have c10 := parse_any W8 (txt y m d) (by rw [txt_size]; omega) (HT.out.on HB8.out) y m d 3 (.inl ⟨txt_o y m d hday, by rw [hv.1], by rw [hv.2.1], by rw [hv.2.2], rfl⟩)
  rw [txt_o y m d hday] at c10
  unfold dv at c10
  have hlt : (txt y m d).data.toList < (txt y' m' d').data.toList := by
    rw [txt_pd y m d (by have := hday.2.2.2.1; omega) (by have := hday.2.2.2.2.2; omega), txt_pd y' m' d' (by have := hday'.2.2.2.1; omega) (by have := hday'.2.2.2.2.2; omega)]
    refine pd_lt 8 _ _ ?_ ?_
    · have := nxt_num hday
      rw [← HX.out.1, ← HX.out.2.1, ← HX.out.2.2] at this
      exact this
    · have a1 := hday'.2.1
      have a2 := hday'.2.2.2.1
      have a3 := hday'.2.2.2.2.2
      omega
  have hz := txt_size y m d
  have HLT : Hid ((txt y m d).data.toList < (txt y' m' d').data.toList) := hlt
  generalize txt y m d = S at *
  generalize txt y' m' d' = T at *
  clear hv hday hday' h31 h31' hlt
  go_wp2_with (go_at_call 10; refine Stop.mk ?_)
  refine Stop.out (c10.mono ?_)
  rintro e W9 ⟨v, rfl, hv, hb9⟩
  obtain rfl : v = .nilIface := hv
  have HB9 : Hid (Below w.heap.size w W9) := HB8.out.trans (hb9.mono HB8.out.size)
  obtain ⟨e0, e1, e2, _, _, _⟩ := HS8.out.on hb9
  clear hb9 c10 HS8 HB8
  go_upto_region 18 with fail
  obtain ⟨W10, hW10⟩ : ∃ W10, W9.alloc (.cells #[.int .i64 (y : Int), .int .i64 (m : Int), .int .i64 (d : Int)] 23) = W10 := ⟨_, rfl⟩
  have hbA : Below W9.heap.size W9 W10 := hW10 ▸ (Below.refl _ _).alloc (Nat.le_refl _) _
  have g0 := (hbA.cell (p := ⟨qa, 0, none⟩) (cell_lt e0)).trans e0
  have g1 := (hbA.cell (p := ⟨qa, 1, none⟩) (cell_lt e1)).trans e1
  have g2 := (hbA.cell (p := ⟨qa, 2, none⟩) (cell_lt e2)).trans e2
  have i0 : W10.cell? ⟨W9.heap.size, 0, none⟩ = some (.int .i64 (y : Int)) := by rw [← hW10]; simp
  have i1 : W10.cell? ⟨W9.heap.size, 1, none⟩ = some (.int .i64 (m : Int)) := by rw [← hW10]; simp
  have i2 : W10.cell? ⟨W9.heap.size, 2, none⟩ = some (.int .i64 (d : Int)) := by rw [← hW10]; simp
  have HB10 : Hid (Below w.heap.size w W10) := HB9.out.trans (hbA.mono HB9.out.size)
  have hless : Op.bytesLess S.toList T.toList = true := by rw [ByteArray.toList_eq, ByteArray.toList_eq]; exact less_of HLT.out
  rw [hW10]
  clear hW10 hbA e0 e1 e2 HB9 n0 n1 hn2 hn HX HDn HDm HT HP HB1 HB2
  go_wp2
  go_ret
  exact ⟨rfl, HB10.out⟩

theorem cal_any (w : World) (n : Int) (hT : Mt w) (hp : Pow w) : Calls Tryd.prog 3 #[.int .i64 n] w (PostN w (.bool true)) := by
  by_cases h : n < 0 ∨ 3652058 ≤ n
  · exact cal_beside w n h hT
  · obtain ⟨k, rfl⟩ : ∃ k : Nat, n = k := ⟨n.toNat, by omega⟩
    exact cal_in w k (by omega) hT hp
end Go.Proofs.YtggdlagopgpnhaaDoor
