import Derived.Test.YtggdlagopgpnhaaDoorC
/-
  DERIVED. The day of a number.
-/
namespace Go.Proofs.YtggdlagopgpnhaaDoor
open Go Go.Proofs Go.RowKit

theorem mL_sum (y : Nat) : cu y 12 = if Lp y then 366 else 365 := by
  have e : ∀ k, 1 ≤ k → k ≤ 12 → k ≠ 2 → md y k = mL (k - 1) := fun k h1 h2 h3 => by
    unfold md
    rw [if_neg (by omega), if_neg (fun h => h3 h.1)]
  have e2 : md y 2 = if Lp y then 29 else 28 := by
    unfold md
    rw [if_neg (by omega)]
    by_cases h : Lp y
    · rw [if_pos ⟨rfl, h⟩, if_pos h]
    · rw [if_neg (fun h' => h h'.2), if_neg h]; rfl
  simp only [cu, e2, e 1 (by omega) (by omega) (by omega), e 3 (by omega) (by omega) (by omega), e 4 (by omega) (by omega) (by omega), e 5 (by omega) (by omega) (by omega), e 6 (by omega) (by omega) (by omega), e 7 (by omega) (by omega) (by omega), e 8 (by omega) (by omega) (by omega), e 9 (by omega) (by omega) (by omega), e 10 (by omega) (by omega) (by omega), e 11 (by omega) (by omega) (by omega), e 12 (by omega) (by omega) (by omega)]
  simp only [mL]
  by_cases h : Lp y
  · rw [if_pos h, if_pos h]; rfl
  · rw [if_neg h, if_neg h]; rfl
theorem year_len (y : Nat) (h : 1 ≤ y) : dA (y + 1) = dA y + cu y 12 := by rw [mL_sum, dA_next y h]

/-- It is the day of this number. -/
def IsDay (n y m d : Nat) : Prop := Day y m d ∧ num y m d = n

theorem cu_mono (y : Nat) {a : Nat} : ∀ k, cu y a ≤ cu y (a + k)
  | 0 => Nat.le_refl _
  | k + 1 => by have := cu_mono y (a := a) k; rw [show a + (k + 1) = a + k + 1 by omega, cu]; omega

/-- There is no other. -/
theorem isDay_one {n y m d y' m' d' : Nat} (h : IsDay n y m d) (h' : IsDay n y' m' d') : y = y' ∧ m = m' ∧ d = d' := by
  have key : ∀ {n y m d y' m' d' : Nat}, IsDay n y m d → IsDay n y' m' d' → ¬ y < y' := by
    rintro n y m d y' m' d' ⟨⟨a1, a2, a3, a4, a5, a6⟩, a7⟩ ⟨⟨b1, b2, b3, b4, b5, b6⟩, b7⟩ hlt
    unfold num at a7 b7
    have h1 := year_len y a1
    have h2 := dA_mono (a := y + 1) (by omega) (y' - (y + 1))
    rw [show y + 1 + (y' - (y + 1)) = y' by omega] at h2
    have h3 := cu_mono y (a := m) (12 - m)
    rw [show m + (12 - m) = 12 by omega] at h3
    have h4 : cu y m = cu y (m - 1) + md y m := by
      obtain ⟨j, rfl⟩ : ∃ j, m = j + 1 := ⟨m - 1, by omega⟩
      rw [cu]; rfl
    omega
  have key2 : ∀ {n y m d m' d' : Nat}, IsDay n y m d → IsDay n y m' d' → ¬ m < m' := by
    rintro n y m d m' d' ⟨⟨a1, a2, a3, a4, a5, a6⟩, a7⟩ ⟨⟨b1, b2, b3, b4, b5, b6⟩, b7⟩ hlt
    unfold num at a7 b7
    have h3 := cu_mono y (a := m) (m' - 1 - m)
    rw [show m + (m' - 1 - m) = m' - 1 by omega] at h3
    have h4 : cu y m = cu y (m - 1) + md y m := by
      obtain ⟨j, rfl⟩ : ∃ j, m = j + 1 := ⟨m - 1, by omega⟩
      rw [cu]; rfl
    omega
  have e1 : y = y' := by
    have := key h h'; have := key h' h; omega
  subst e1
  have e2 : m = m' := by
    have := key2 h h'; have := key2 h' h; omega
  subst e2
  refine ⟨rfl, rfl, ?_⟩
  have a := h.2
  have b := h'.2
  have c := h.1.2.2.2.2.1
  have c' := h'.1.2.2.2.2.1
  unfold num at a b
  omega

theorem dA_low (k : Nat) : dA (k + 1) ≤ 366 * k := by unfold dA; simp only [Nat.add_sub_cancel]; omega
theorem dA_last : dA 10000 = 3652059 := by decide

def f3 (y m d : Int) : Nat → Value := fun k => if k = 0 then .int .i64 y else if k = 1 then .int .i64 m else .int .i64 d

set_option maxRecDepth 100000 in
set_option maxHeartbeats 2000000 in
theorem dateOf_any (w : World) (n : Nat) (hn : n ≤ 3652058) (hT : Mt w) : Calls Tryd.prog 6 #[.int .i64 (n : Int)] w fun e w' => ∃ y m d : Nat, e = .returned (.tuple #[dv y m d, .nilIface]) ∧ IsDay n y m d ∧ Below w.heap.size w w' := by
  obtain ⟨W, hW⟩ : ∃ W, w.alloc (.cells #[.int .i64 0, .int .i64 0, .int .i64 0] 23) = W := ⟨_, rfl⟩
  have HB : Hid (Below w.heap.size w W) := hW ▸ (Below.refl _ _).alloc (Nat.le_refl _) _
  have hs1 : W.heap.size = w.heap.size + 1 := by rw [← hW]; simp
  have HR : Hid (W.rowIs w.heap.size 23 3 (f3 0 0 0)) := by
    rw [← hW]
    exact World.rowIs_alloc w _ 23 _ (fun i hi => by
      rcases (by simp at hi; omega : i = 0 ∨ i = 1 ∨ i = 2) with rfl | rfl | rfl <;> rfl)
  have HT : Hid (Mt W) := hT.on HB.out
  have HTw : Hid (Mt w) := hT
  have c25 := fun W' y h1 h2 => ahead_any W' y h1 h2
  have n0 : ¬ ((n : Int) < 0) := by omega
  have n1 : ¬ ((3652058 : Int) < (n : Int)) := by omega
  clear hT
  unfold dv
  go_enter Tryd.func6, Tryd.ntmps6
  go_wp2
  go_loopg [4] (10000 - (n / 366 + 1)) (fun g s4 wx => ∃ y : Nat, s4 = .int .i64 (y : Int) ∧ 1 ≤ y ∧ g + y = 10000 ∧ Hid (dA y ≤ n) ∧ W = wx)
  case atStart =>
    have := dA_low (n / 366)
    exact ⟨n / 366 + 1, by congr 1, by omega, by omega, by show _ ≤ _; omega, rfl⟩
  case round =>
    obtain ⟨y, rfl, hy1, hg, HA, rfl⟩ := hrel
    have hy2 : y ≤ 9999 := by
      rcases Nat.lt_or_ge y 10000 with h | h
      · omega
      · have := dA_mono (a := 10000) (by omega) (y - 10000)
        rw [show 10000 + (y - 10000) = y by omega, dA_last] at this
        have := HA.out
        omega
    by_cases hN : dA (y + 1) ≤ n
    · have c := c25 W (y + 1) (by omega) (by omega)
      have HA2 : Hid (dA (y + 1) ≤ n) := hN
      have hI : ((dA (y + 1) : Nat) : Int) ≤ (n : Int) := by omega
      obtain ⟨A1, hA1⟩ : ∃ A1, dA (y + 1) = A1 := ⟨_, rfl⟩
      rw [hA1] at c hI
      clear hN c25 hA1
      go_wp2_with (go_at_call 25; refine c.mono ?_; rintro e w' ⟨rfl, rfl⟩)
      go_roundg (10000 - (y + 1))
      case measure => omega
      case rel => exact ⟨y + 1, by simp, by omega, by omega, HA2, rfl⟩
    · have c := c25 W (y + 1) (by omega) (by omega)
      have c' := c25 W y (by omega) (by omega)
      have hyl := year_len y hy1
      have HN : Hid (n < dA y + cu y 12) := by show _ < _; omega
      have hI : ¬ (((dA (y + 1) : Nat) : Int) ≤ (n : Int)) := by omega
      generalize dA (y + 1) = A1 at *
      have HAA : Hid (num y 1 (n - dA y + 1) = n) := by
        have := HA.out
        show _ = _
        unfold num
        rw [show 1 - 1 = 0 by omega, cu]
        omega
      obtain ⟨A0, hA0⟩ : ∃ A0, dA y = A0 := ⟨_, rfl⟩
      have HA0 : Hid (dA y = A0) := hA0
      rw [hA0] at HA HN HAA c'
      have hsub : (n : Int) - (A0 : Int) = ((n - A0 : Nat) : Int) := by have := HA.out; omega
      obtain ⟨D0, hD0⟩ : ∃ D0, n - A0 = D0 := ⟨_, rfl⟩
      rw [hD0] at hsub HAA
      have hD1 : D0 ≤ 3652058 := by omega
      have HD0 : Hid (n - A0 = D0) := hD0
      clear hN c25 hA0 hyl hD0
      obtain ⟨W1, hW1⟩ : ∃ W1, W.alloc (.cells #[.int .i64 (y : Int), .int .i64 1, .int .i64 ((D0 : Int) + 1)] 23) = W1 := ⟨_, rfl⟩
      have HB1 : Hid (Below W.heap.size W W1) := hW1 ▸ (Below.refl _ _).alloc (Nat.le_refl _) _
      have HR1 : Hid (W1.rowIs w.heap.size 23 3 (f3 0 0 0)) := hW1 ▸ HR.out.alloc _
      have HD1 : Hid (W1.rowIs (w.heap.size + 1) 23 3 (f3 y 1 ((D0 + 1 : Nat) : Int))) := by
        rw [← hW1, ← hs1]
        exact World.rowIs_alloc W _ 23 _ (fun i hi => by
          rcases (by simp at hi; omega : i = 0 ∨ i = 1 ∨ i = 2) with rfl | rfl | rfl <;> rfl)
      go_wp2_with (first | (go_at_call 25; refine Stop.mk ?_))
      refine Stop.out (c.mono ?_)
      rintro e w' ⟨rfl, rfl⟩
      go_wp2_with (first | (go_at_call 25; refine Stop.mk ?_))
      refine Stop.out (c'.mono ?_)
      rintro e w' ⟨rfl, rfl⟩
      go_wp2
      go_loopg [] 12 (fun g wx => ∃ (mo dd : Nat), g + mo = 13 ∧ 1 ≤ mo ∧ mo ≤ 12 ∧ 1 ≤ dd ∧ dd ≤ 3652059 ∧ Hid (num y mo dd = n) ∧ Hid (wx.rowIs (w.heap.size + 1) 23 3 (f3 y mo dd)) ∧ Hid (wx.rowIs w.heap.size 23 3 (f3 0 0 0)) ∧ Hid (Below w.heap.size w wx) ∧ Hid (Mt wx))
      case atStart => exact ⟨1, D0 + 1, by omega, by omega, by omega, by omega, by omega, HAA, HD1, HR1, HB.out.trans (HB1.out.mono HB.out.size), HT.out.on HB1.out⟩
      case round =>
        clear HB1 HR1 HD1 HAA HR HB HT
        obtain ⟨mo, dd, hg, hm1, hm2, hd1, hd2, HNm, HD, HR, HB, HT⟩ := hrel
        have q0 : wr.cell? ⟨w.heap.size + 1, 0, none⟩ = some (.int .i64 (y : Int)) := HD.out.cell (i := 0) (by omega)
        have q1 : wr.cell? ⟨w.heap.size + 1, 1, none⟩ = some (.int .i64 (mo : Int)) := HD.out.cell (i := 1) (by omega)
        have q2 : wr.cell? ⟨w.heap.size + 1, 2, none⟩ = some (.int .i64 (dd : Int)) := HD.out.cell (i := 2) (by omega)
        have qf : ∀ i, wr.frozen? ⟨w.heap.size + 1, i, none⟩ = false := fun i => HD.out.frozen i
        have c26 := fun k => month_any (wr.drewN k) y mo ⟨HT.out.p⟩
        have hmd := md_le y mo
        obtain ⟨L, hL⟩ : ∃ L, md y mo = L := ⟨_, rfl⟩
        rw [hL] at c26 hmd
        by_cases hdd : L < dd
        · have hmo : mo < 12 := by
            rcases Nat.lt_or_ge mo 12 with h | h
            · exact h
            · exfalso
              obtain rfl : mo = 12 := by omega
              have h1 := HNm.out
              have h2 := HN.out
              rw [← HA0.out] at h2
              unfold num at h1
              have h3 : cu y 12 = cu y (12 - 1) + md y 12 := rfl
              omega
          have hddI : decide ((L : Int) < (dd : Int)) = true := by simp; omega
          have HN2 : Hid (num y (mo + 1) (dd - L) = n) := by
            have h1 := HNm.out
            show _ = _
            unfold num at *
            obtain ⟨j, rfl⟩ : ∃ j, mo = j + 1 := ⟨mo - 1, by omega⟩
            rw [show j + 1 + 1 - 1 = j + 1 by omega, cu, hL]
            rw [show j + 1 - 1 = j by omega] at h1
            omega
          have hsubI : (dd : Int) - (L : Int) = ((dd - L : Nat) : Int) := by omega
          obtain ⟨D2, hD2⟩ : ∃ D2, dd - L = D2 := ⟨_, rfl⟩
          rw [hD2] at HN2 hsubI
          have hD2a : 1 ≤ D2 := by omega
          have hD2b : D2 ≤ 3652059 := by omega
          have HD2 : Hid (((wr.setCell ⟨w.heap.size + 1, 2, none⟩ (.int .i64 (D2 : Int))).setCell ⟨w.heap.size + 1, 1, none⟩ (.int .i64 ((mo : Int) + 1))).rowIs (w.heap.size + 1) 23 3 (f3 y ((mo + 1 : Nat) : Int) D2)) := by
            refine ((HD.out.set 2 _).set 1 _).congr (fun i hi => ?_)
            rcases (by omega : i = 0 ∨ i = 1 ∨ i = 2) with rfl | rfl | rfl <;> rfl
          have HR2 : Hid (((wr.setCell ⟨w.heap.size + 1, 2, none⟩ (.int .i64 (D2 : Int))).setCell ⟨w.heap.size + 1, 1, none⟩ (.int .i64 ((mo : Int) + 1))).rowIs w.heap.size 23 3 (f3 0 0 0)) := (HR.out.setOther (by simp) _).setOther (by simp) _
          have HTs : Hid (Mt ((wr.setCell ⟨w.heap.size + 1, 2, none⟩ (.int .i64 (D2 : Int))).setCell ⟨w.heap.size + 1, 1, none⟩ (.int .i64 ((mo : Int) + 1)))) := HTw.out.on ((HB.out.setCell (p := ⟨w.heap.size + 1, 2, none⟩) (by simp) _).setCell (p := ⟨w.heap.size + 1, 1, none⟩) (by simp) _)
          clear hL HNm hD2 HN HA0 HA HD0
          go_wp2
          go_quiet (first | (go_at_call 26; exact (c26 _).mono fun _ _ h => ⟨h.1, _, h.2.symm⟩) | fail)
          go_wp2
          go_region_with (first | (go_at_call 26; refine (c26 _).mono ?_; rintro e w' ⟨rfl, rfl⟩) | fail)
          all_goals
            go_wp2
            go_roundg (13 - (mo + 1))
            case measure => omega
            case rel => exact ⟨mo + 1, D2, by omega, by omega, by omega, hD2a, hD2b, HN2, HD2, HR2, ((below_drewN HB.out _).setCell (p := ⟨w.heap.size + 1, 2, none⟩) (by simp) _).setCell (p := ⟨w.heap.size + 1, 1, none⟩) (by simp) _, ⟨HTs.out.p⟩⟩
        · have hddI : decide ((L : Int) < (dd : Int)) = false := by simp; omega
          have HI : Hid (IsDay n y mo dd) := ⟨⟨by omega, by omega, by omega, by omega, by omega, by omega⟩, HNm.out⟩
          have r0 : wr.cell? ⟨w.heap.size, 0, none⟩ = some (.int .i64 0) := HR.out.cell (i := 0) (by omega)
          have r1 : wr.cell? ⟨w.heap.size, 1, none⟩ = some (.int .i64 0) := HR.out.cell (i := 1) (by omega)
          have r2 : wr.cell? ⟨w.heap.size, 2, none⟩ = some (.int .i64 0) := HR.out.cell (i := 2) (by omega)
          have rf : ∀ i, wr.frozen? ⟨w.heap.size, i, none⟩ = false := fun i => HR.out.frozen i
          have hdd' : decide (L < dd) = false := by simp; omega
          clear hL HNm HN HA0 HA HD0 hmd
          go_wp2
          go_quiet (first | (go_at_call 26; exact (c26 _).mono fun _ _ h => ⟨h.1, _, h.2.symm⟩) | fail)
          go_wp2
          refine bodyPost_ret (v := .tuple #[.agg #[.int .i64 (y : Int), .int .i64 (mo : Int), .int .i64 (dd : Int)], .nilIface]) (by simp [results, Tryd.results6, go_sem, r0, r1, r2]) rfl ⟨y, mo, dd, rfl, HI.out, ?_⟩
          exact (((below_drewN HB.out _).setCell (p := ⟨w.heap.size, 0, none⟩) (Nat.le_refl _) _).setCell (p := ⟨w.heap.size, 1, none⟩) (Nat.le_refl _) _).setCell (p := ⟨w.heap.size, 2, none⟩) (Nat.le_refl _) _
end Go.Proofs.YtggdlagopgpnhaaDoor
