import Derived.Test.YtgdemlebohlolaaGreatDoorQTg
import Derived.Deep.RegionHeld3
import Derived.Deep.Cut
/-
  DERIVED. The document's calendar: years, months, days that are none.
-/
namespace Go.Proofs.YtgdemlebohlolaaGreatDoor.Tm
open Go Go.Proofs Go.RowKit

theorem md_law (y m : Nat) (h1 : 1 ≤ m) (h2 : m ≤ 12) : md y m = if m = 4 ∨ m = 6 ∨ m = 9 ∨ m = 11 then 30 else if m = 2 then (if Lp y then 29 else 28) else 31 := by
  unfold md
  rw [if_neg (by omega)]
  rcases (by omega : m = 1 ∨ m = 2 ∨ m = 3 ∨ m = 4 ∨ m = 5 ∨ m = 6 ∨ m = 7 ∨ m = 8 ∨ m = 9 ∨ m = 10 ∨ m = 11 ∨ m = 12) with rfl | rfl | rfl | rfl | rfl | rfl | rfl | rfl | rfl | rfl | rfl | rfl
  all_goals simp [mL]



set_option maxRecDepth 100000 in
theorem leap66_any (w : World) (y : Nat) : Calls Tryz.prog 128 #[.int .i64 (y : Int)] w fun e w' => e = .returned (.bool (decide (Lp y))) ∧ w = w' := by
  by_cases h4 : y % 4 = 0
  · have a4 : ((y : Int) % 4 == 0) = true := by simp; omega
    by_cases h1 : y % 100 = 0
    · have e : decide (Lp y) = decide (y % 400 = 0) := by unfold Lp; simp [h4, h1]
      rw [e]
      have a1 : ((y : Int) % 100 == 0) = true := by simp; omega
      have a1' : (y : Int) % 100 = 0 := by omega
      have a0 : decide (y % 400 = 0) = ((y : Int) % 400 == 0) := by rw [Bool.eq_iff_iff, decide_eq_true_eq, beq_iff_eq]; omega
      rw [a0]
      clear a0 e
      go_enter Tryz.func128, Tryz.ntmps128
      go_wp2
      go_ret
      exact ⟨rfl, rfl⟩
    · have e : decide (Lp y) = true := by unfold Lp; simp [h4, h1]
      rw [e]
      have a1 : ((y : Int) % 100 == 0) = false := by simp; omega
      have a1' : ¬ ((y : Int) % 100 = 0) := by omega
      clear e
      go_enter Tryz.func128, Tryz.ntmps128
      go_wp2
      go_ret
      exact ⟨rfl, rfl⟩
  · have e : decide (Lp y) = false := by unfold Lp; simp [h4]
    rw [e]
    have a4 : ((y : Int) % 4 == 0) = false := by simp; omega
    clear e
    go_enter Tryz.func128, Tryz.ntmps128
    go_wp2
    go_ret
    exact ⟨rfl, rfl⟩
/-- A year's days. -/
def yl (y : Nat) : Nat := if Lp y then 366 else 365

set_option maxRecDepth 100000 in
theorem month39_any (w : World) (y m : Nat) (h1 : 1 ≤ m) (h2 : m ≤ 12) : Calls Tryz.prog 90 #[.int .i64 (y : Int), .int .i64 (m : Int)] w fun e w' => e = .returned (.int .i64 (md y m : Nat)) ∧ w = w' := by
  have c := leap66_any w y
  rw [md_law y m h1 h2]
  have hm : m = 1 ∨ m = 2 ∨ m = 3 ∨ m = 4 ∨ m = 5 ∨ m = 6 ∨ m = 7 ∨ m = 8 ∨ m = 9 ∨ m = 10 ∨ m = 11 ∨ m = 12 := by omega
  clear h1 h2
  by_cases hL : Lp y
  · have e : decide (Lp y) = true := by simpa using hL
    rw [e] at c
    simp only [if_pos hL]
    clear e hL
    rcases hm with rfl | rfl | rfl | rfl | rfl | rfl | rfl | rfl | rfl | rfl | rfl | rfl
    all_goals
      go_enter Tryz.func90, Tryz.ntmps90
      go_wp2_with (go_at_call 128; refine c.mono ?_; rintro e w' ⟨rfl, rfl⟩)
      go_ret
      exact ⟨rfl, rfl⟩
  · have e : decide (Lp y) = false := by simpa using hL
    rw [e] at c
    simp only [if_neg hL]
    clear e hL
    rcases hm with rfl | rfl | rfl | rfl | rfl | rfl | rfl | rfl | rfl | rfl | rfl | rfl
    all_goals
      go_enter Tryz.func90, Tryz.ntmps90
      go_wp2_with (go_at_call 128; refine c.mono ?_; rintro e w' ⟨rfl, rfl⟩)
      go_ret
      exact ⟨rfl, rfl⟩

set_option maxRecDepth 100000 in
set_option maxHeartbeats 1000000 in
theorem dayNo_any (w : World) (y m d : Int) : Calls Tryz.prog 71 #[dv y m d] w fun e w' => e = .returned (.int .i64 (uf y m d)) ∧ Below w.heap.size w w' := by
  obtain ⟨W, hW⟩ : ∃ W, w.alloc (.cells #[.int .i64 y, .int .i64 m, .int .i64 d] 59) = W := ⟨_, rfl⟩
  have HB : Hid (Below w.heap.size w W) := hW ▸ (Below.refl _ _).alloc (Nat.le_refl _) _
  have q0 : W.cell? ⟨w.heap.size, 0, none⟩ = some (.int .i64 y) := by rw [← hW]; simp
  have q1 : W.cell? ⟨w.heap.size, 1, none⟩ = some (.int .i64 m) := by rw [← hW]; simp
  have q2 : W.cell? ⟨w.heap.size, 2, none⟩ = some (.int .i64 d) := by rw [← hW]; simp
  unfold uf dv
  by_cases h1 : y < 1
  · rw [if_pos (.inl h1)]
    go_enter Tryz.func71, Tryz.ntmps71
    go_wp2
    go_ret
    exact ⟨rfl, HB.out⟩
  · by_cases h2 : 9999 < y
    · rw [if_pos (.inr h2)]
      go_enter Tryz.func71, Tryz.ntmps71
      go_wp2
      go_ret
      exact ⟨rfl, HB.out⟩
    · rw [if_neg (fun h => by omega)]
      by_cases h3 : m < 1
      · rw [if_pos (.inl h3)]
        go_enter Tryz.func71, Tryz.ntmps71
        go_wp2
        go_ret
        exact ⟨rfl, HB.out⟩
      · by_cases h4 : 12 < m
        · rw [if_pos (.inr h4)]
          go_enter Tryz.func71, Tryz.ntmps71
          go_wp2
          go_ret
          exact ⟨rfl, HB.out⟩
        · rw [if_neg (fun h => by omega)]
          obtain ⟨yn, rfl⟩ : ∃ yn : Nat, y = yn := ⟨y.toNat, by omega⟩
          obtain ⟨mn, rfl⟩ : ∃ mn : Nat, m = mn := ⟨m.toNat, by omega⟩
          have c := fun W' => month39_any W' yn mn (by omega) (by omega)
          rw [Int.toNat_natCast, Int.toNat_natCast]
          generalize md yn mn = L at *
          have c' := fun n => c (W.drewN n)
          have h1' : decide ((yn : Int) < 1) = false := by simp; omega
          have h2' : decide ((9999 : Int) < (yn : Int)) = false := by simp; omega
          have h3' : decide ((mn : Int) < 1) = false := by simp; omega
          have h4' : decide ((12 : Int) < (mn : Int)) = false := by simp; omega
          by_cases h5 : d < 1
          · rw [if_pos (.inl h5)]
            have h5' : decide (d < 1) = true := by simpa using h5
            clear c c'
            go_enter Tryz.func71, Tryz.ntmps71
            go_wp2
            go_quiet (fail)
            go_wp2
            go_ret
            exact ⟨rfl, below_drewN HB.out _⟩
          · have h5' : decide (d < 1) = false := by simpa using h5
            by_cases h6 : (L : Int) < d
            · rw [if_pos (.inr h6)]
              have h6' : decide ((L : Int) < d) = true := by simpa using h6
              clear h5 h6
              go_enter Tryz.func71, Tryz.ntmps71
              go_wp2
              go_quiet (first | (go_at_call 90; exact (c' _).mono fun _ _ h => ⟨h.1, _, h.2.symm⟩) | fail)
              go_wp2
              go_ret
              exact ⟨rfl, below_drewN HB.out _⟩
            · rw [if_neg (fun h => by omega)]
              have h6' : decide ((L : Int) < d) = false := by simpa using h6
              clear h5 h6
              go_enter Tryz.func71, Tryz.ntmps71
              go_wp2
              go_quiet (first | (go_at_call 90; exact (c' _).mono fun _ _ h => ⟨h.1, _, h.2.symm⟩) | fail)
              go_wp2
              go_ret
              exact ⟨rfl, below_drewN HB.out _⟩

end Go.Proofs.YtgdemlebohlolaaGreatDoor.Tm

/-
  DERIVED. The document's number of a day.
-/
namespace Go.Proofs.YtgdemlebohlolaaGreatDoor.Tm
open Go Go.Proofs Go.RowKit

theorem none34_any (w : World) : Calls Tryz.prog 16 #[] w fun e w' => e = .returned (.agg #[.slice none 0 0, .int .i64 0]) ∧ Below w.heap.size w w' := by
  obtain ⟨W0, hW0⟩ : ∃ W0, w.alloc (.cells #[.slice none 0 0, .int .i64 0] 30) = W0 := ⟨_, rfl⟩
  have HB : Hid (Below w.heap.size w W0) := hW0 ▸ (Below.refl _ _).alloc (Nat.le_refl _) _
  have a0 : W0.cell? ⟨w.heap.size, 0, none⟩ = some (.slice none 0 0) := by rw [← hW0]; simp
  have a1 : W0.cell? ⟨w.heap.size, 1, none⟩ = some (.int .i64 0) := by rw [← hW0]; simp
  have af : ∀ i, W0.frozen? ⟨w.heap.size, i, none⟩ = false := fun i => by rw [← hW0]; simp
  go_enter Tryz.func16, Tryz.ntmps16
  go_wp2
  refine bodyPost_ret (v := .agg #[.slice none 0 0, .int .i64 0]) (by simp [results, Tryz.results16, go_sem, a0, a1]) rfl ?_
  exact ⟨rfl, (HB.out.setCell (p := ⟨w.heap.size, 0, none⟩) (Nat.le_refl _) _).setCell (p := ⟨w.heap.size, 1, none⟩) (Nat.le_refl _) _⟩

theorem row_on {w w' : World} {r : Nat} {t : TypeId} {n : Nat} {f : Nat → Value} (h : w.rowIs r t n f) (hb : Below w.heap.size w w') : w'.rowIs r t n f :=
  row_kept (q := r + 1) h (grown_below (grown_refl _ _) hb) (by omega)

def fN : Nat → Value := fun k => if k = 0 then .slice none 0 0 else .int .i64 0

theorem RErr.keep {w w' : World} {p : Nat} {v : Value} {o : Option (Int × Int)} (h : RErr w v o) (hp : ∀ s, w.cell? ⟨p, 0, none⟩ ≠ some (.string s)) (hk : ∀ g i, g ≠ p → w'.cell? ⟨g, i, none⟩ = w.cell? ⟨g, i, none⟩) : RErr w' v o := by
  cases o with
  | none => exact h
  | some x =>
    obtain ⟨g, k, rfl, h0, h1⟩ := h
    have hg : g ≠ p := fun e => hp _ (e ▸ h0)
    exact ⟨g, k, rfl, (hk g 0 hg).trans h0, (hk g 1 hg).trans h1⟩

theorem uf_is (y m d : Int) : uf y m d = -1 ∨ (0 ≤ uf y m d ∧ uf y m d ≤ 2) := by
  unfold uf
  by_cases h1 : y < 1 ∨ 9999 < y
  · rw [if_pos h1]; omega
  · by_cases h2 : m < 1 ∨ 12 < m
    · rw [if_neg h1, if_pos h2]; omega
    · rw [if_neg h1, if_neg h2]
      split <;> omega

def PostF (w : World) (V : Value) (o : Option (Int × Int)) (e : Ending) (w' : World) : Prop := ∃ v, e = .returned (.tuple #[V, v]) ∧ RErr w' v o ∧ Below w.heap.size w w'

end Go.Proofs.YtgdemlebohlolaaGreatDoor.Tm

/-
  DERIVED. The document's day of a number.
-/
namespace Go.Proofs.YtgdemlebohlolaaGreatDoor.Tm
open Go Go.Proofs Go.RowKit

def f3 (y m d : Int) : Nat → Value := fun k => if k = 0 then .int .i64 y else if k = 1 then .int .i64 m else .int .i64 d
structure M3 (w wx : World) (y m d : Int) : Prop where
  d : wx.rowIs (w.heap.size + 2) 59 3 (f3 y m d)
  r : wx.rowIs w.heap.size 59 3 (f3 0 0 0)
  e : wx.rowIs (w.heap.size + 1) 30 2 fN
  b : Below w.heap.size w wx
theorem M3.on {w wx wy : World} {y m d : Int} (h : M3 w wx y m d) (hb : Below wx.heap.size wx wy) : M3 w wy y m d :=
  ⟨row_on h.d hb, row_on h.r hb, row_on h.e hb, h.b.trans (hb.mono h.b.size)⟩
theorem M3.drewN {w wx : World} {y m d : Int} (h : M3 w wx y m d) (n : Nat) : M3 w (wx.drewN n) y m d :=
  ⟨h.d, h.r, h.e, below_drewN h.b _⟩
theorem M3.drew {w wx : World} {y m d : Int} (h : M3 w wx y m d) : M3 w wx.drew y m d :=
  ⟨h.d, h.r, h.e, h.b.drew⟩
theorem M3.set {w wx : World} {y m d y' m' d' : Int} (h : M3 w wx y m d) (i : Nat) (v : Value) (he : ∀ k, k < 3 → (if k = i then v else f3 y m d k) = f3 y' m' d' k) : M3 w (wx.setCell ⟨w.heap.size + 2, i, none⟩ v) y' m' d' :=
  ⟨(h.d.set i v).congr (fun k hk => he k hk), h.r.setOther (by simp) _, h.e.setOther (by simp) _, h.b.setCell (p := ⟨w.heap.size + 2, i, none⟩) (by simp) _⟩


structure M2 (w wx : World) : Prop where
  r : wx.rowIs w.heap.size 59 3 (f3 0 0 0)
  e : wx.rowIs (w.heap.size + 1) 30 2 fN
  b : Below w.heap.size w wx
theorem M2.on {w wx wy : World} (h : M2 w wx) (hb : Below wx.heap.size wx wy) : M2 w wy :=
  ⟨row_on h.r hb, row_on h.e hb, h.b.trans (hb.mono h.b.size)⟩
theorem M2.start (w : World) : M2 w ((w.alloc (.cells #[.int .i64 0, .int .i64 0, .int .i64 0] 59)).alloc (.cells #[.slice none 0 0, .int .i64 0] 30)) := by
  refine ⟨?_, ?_, ?_⟩
  · exact (World.rowIs_alloc w _ 59 _ (fun i hi => by
      rcases (by simp at hi; omega : i = 0 ∨ i = 1 ∨ i = 2) with rfl | rfl | rfl <;> rfl)).alloc _
  · have := World.rowIs_alloc (w.alloc (.cells #[.int .i64 0, .int .i64 0, .int .i64 0] 59)) #[.slice none 0 0, .int .i64 0] 30 fN (fun i hi => by
      rcases (by simp at hi; omega : i = 0 ∨ i = 1) with rfl | rfl <;> rfl)
    simpa using this
  · exact (((Below.refl _ _).alloc (Nat.le_refl _) _).alloc (by simp) _)
theorem M2.facts {w wx : World} (h : M2 w wx) : wx.cell? ⟨w.heap.size, 0, none⟩ = some (.int .i64 0) ∧ wx.cell? ⟨w.heap.size, 1, none⟩ = some (.int .i64 0) ∧ wx.cell? ⟨w.heap.size, 2, none⟩ = some (.int .i64 0) ∧ (∀ i, wx.frozen? ⟨w.heap.size, i, none⟩ = false) ∧ wx.cell? ⟨w.heap.size + 1, 0, none⟩ = some (.slice none 0 0) ∧ wx.cell? ⟨w.heap.size + 1, 1, none⟩ = some (.int .i64 0) ∧ (∀ i, wx.frozen? ⟨w.heap.size + 1, i, none⟩ = false) :=
  ⟨h.r.cell (i := 0) (by omega), h.r.cell (i := 1) (by omega), h.r.cell (i := 2) (by omega), fun i => h.r.frozen i, h.e.cell (i := 0) (by omega), h.e.cell (i := 1) (by omega), fun i => h.e.frozen i⟩
/-- The world once both results are stored. -/
def stored (w W : World) (y m d : Int) (a b : Value) : World := ((((W.setCell ⟨w.heap.size, 0, none⟩ (.int .i64 y)).setCell ⟨w.heap.size, 1, none⟩ (.int .i64 m)).setCell ⟨w.heap.size, 2, none⟩ (.int .i64 d)).setCell ⟨w.heap.size + 1, 0, none⟩ a).setCell ⟨w.heap.size + 1, 1, none⟩ b
theorem stored_below {w W : World} (h : Below w.heap.size w W) (y m d : Int) (a b : Value) : Below w.heap.size w (stored w W y m d a b) :=
  ((((h.setCell (p := ⟨w.heap.size, 0, none⟩) (Nat.le_refl _) _).setCell (p := ⟨w.heap.size, 1, none⟩) (Nat.le_refl _) _).setCell (p := ⟨w.heap.size, 2, none⟩) (Nat.le_refl _) _).setCell (p := ⟨w.heap.size + 1, 0, none⟩) (Nat.le_succ _) _).setCell (p := ⟨w.heap.size + 1, 1, none⟩) (Nat.le_succ _) _
theorem stored_err {w W : World} {v : Value} {o : Option (Int × Int)} (h : M2 w W) (hv : RErr W v o) (y m d : Int) (a b : Value) : RErr (stored w W y m d a b) v o := by
  obtain ⟨r0, _, _, _, s0, _, _⟩ := h.facts
  cases o with
  | none => exact hv
  | some x =>
    obtain ⟨g, k, rfl, h0, h1⟩ := hv
    have n1 : w.heap.size ≠ g := fun e => by rw [← e, r0] at h0; cases h0
    have n2 : w.heap.size + 1 ≠ g := fun e => by rw [← e, s0] at h0; cases h0
    exact ⟨g, k, rfl, (cell_set_off n2).trans ((cell_set_off n2).trans ((cell_set_off n1).trans ((cell_set_off n1).trans ((cell_set_off n1).trans h0)))), (cell_set_off n2).trans ((cell_set_off n2).trans ((cell_set_off n1).trans ((cell_set_off n1).trans ((cell_set_off n1).trans h1))))⟩

end Go.Proofs.YtgdemlebohlolaaGreatDoor.Tm

/-
  DERIVED. The document's digits and numbers.
-/
namespace Go.Proofs.YtgdemlebohlolaaGreatDoor.Tm
open Go Go.Proofs Go.RowKit

theorem isDigit64_any (w : World) (b : Nat) : Calls Tryz.prog 69 #[.int .u8 (b : Int)] w fun e w' => e = .returned (.bool (decide (48 ≤ b) && decide (b ≤ 57))) ∧ w = w' := by
  by_cases h1 : 48 ≤ b
  · have a1 : (48 : Int) ≤ (b : Int) := by omega
    by_cases h2 : b ≤ 57
    · have a2 : (b : Int) ≤ 57 := by omega
      rw [decide_eq_true h1, decide_eq_true h2]
      go_enter Tryz.func69, Tryz.ntmps69
      go_wp2
      go_ret
      exact ⟨rfl, rfl⟩
    · have a2 : decide ((b : Int) ≤ 57) = false := by simp; omega
      rw [decide_eq_true h1, decide_eq_false h2]
      go_enter Tryz.func69, Tryz.ntmps69
      go_wp2
      go_ret
      exact ⟨rfl, rfl⟩
  · have a1 : decide ((48 : Int) ≤ (b : Int)) = false := by simp; omega
    rw [decide_eq_false h1, Bool.false_and]
    go_enter Tryz.func69, Tryz.ntmps69
    go_wp2
    go_ret
    exact ⟨rfl, rfl⟩


set_option maxRecDepth 100000 in
set_option maxHeartbeats 1000000 in
theorem digits31_any (w : World) (s : ByteArray) (a most : Nat) (ha : a ≤ s.size) (hs : s.size ≤ 140737488351232) (hm : most ≤ 100) :
    Calls Tryz.prog 44 #[.string s, .int .i64 (a : Int), .int .i64 (most : Int)] w fun e w' => e = .returned (.int .i64 (cnt s a most : Nat)) ∧ w = w' := by
  obtain ⟨E, hE⟩ : ∃ E, cnt s a most = E := ⟨_, rfl⟩
  have HE0 : Hid (0 + cnt s (a + 0) (most - 0) = E) := by show _ = _; simpa using hE
  rw [hE]
  clear hE
  go_enter Tryz.func44, Tryz.ntmps44
  go_wp2
  go_loopg [7] most (fun g s7 wx => ∃ n : Nat, s7 = .int .i64 (n : Int) ∧ g + n = most ∧ a + n ≤ s.size ∧ Hid (n + cnt s (a + n) (most - n) = E) ∧ w = wx)
  case atStart => exact ⟨0, rfl, by omega, by omega, HE0, rfl⟩
  case round =>
    clear HE0
    obtain ⟨n, rfl, hg, han, HE, rfl⟩ := hrel
    by_cases hn : n < most
    · have hnI : decide ((n : Int) < (most : Int)) = true := by simp; omega
      have hnI2 : decide (n < most) = true := by simp; omega
      have h1 := HE.out
      rw [show most - n = (most - (n + 1)) + 1 by omega, cnt] at h1
      by_cases hl : a + n < s.size
      · have hlI : (a : Int) + (n : Int) < (s.size : Int) := by omega
        have hlI2 : decide ((a : Int) + (n : Int) < (s.size : Int)) = true := by simp; omega
        have hlI3 : decide (a + n < s.size) = true := by simp; omega
        obtain ⟨c, hc⟩ : ∃ c, s[a + n].toNat = c := ⟨_, rfl⟩
        have cD := fun W => isDigit64_any W c
        have eD : isD s (a + n) = (decide (48 ≤ c) && decide (c ≤ 57)) := by
          unfold isD
          rw [← get_get! s (a + n) hl, hc, decide_eq_true hl, Bool.true_and]
        rw [← eD] at cD
        cases hD : isD s (a + n) with
        | true =>
          rw [hD] at h1 cD
          rw [if_pos rfl] at h1
          have HE2 : Hid (n + 1 + cnt s (a + (n + 1)) (most - (n + 1)) = E) := by show _ = _; rw [← h1, ← Nat.add_assoc a n 1]; omega
          clear h1 HE eD hD
          go_wp2_with (first | (go_at_call 69; refine (cD _).mono ?_; rintro e w' ⟨rfl, rfl⟩))
          go_roundg (most - (n + 1))
          case measure => omega
          case rel => exact ⟨n + 1, by first | rfl | simp, by omega, by omega, HE2, rfl⟩
        | false =>
          rw [hD] at h1 cD
          rw [if_neg (by simp)] at h1
          obtain rfl : n = E := by omega
          clear h1 HE eD hD
          go_wp2_with (first | (go_at_call 69; refine (cD _).mono ?_; rintro e w' ⟨rfl, rfl⟩))
          go_ret
          exact ⟨rfl, rfl⟩
      · have hlI : decide ((a : Int) + (n : Int) < (s.size : Int)) = false := by simp; omega
        have hlI3 : decide (a + n < s.size) = false := by simp; omega
        have hD : isD s (a + n) = false := by unfold isD; rw [decide_eq_false hl, Bool.false_and]
        rw [hD, if_neg (by simp)] at h1
        obtain rfl : n = E := by omega
        clear h1 HE hD
        go_wp2
        go_ret
        exact ⟨rfl, rfl⟩
    · obtain rfl : n = most := by omega
      have hnI : decide ((n : Int) < (n : Int)) = false := by simp
      have h1 := HE.out
      rw [Nat.sub_self, cnt] at h1
      obtain rfl : n = E := by omega
      clear h1 HE
      go_wp2
      go_ret
      exact ⟨rfl, rfl⟩

set_option maxRecDepth 100000 in
set_option maxHeartbeats 1000000 in
theorem number47_any (w : World) (u : ByteArray) (hu : Digs u) (h8 : u.size ≤ 8) :
    Calls Tryz.prog 70 #[.string u] w fun e w' => e = .returned (.int .i64 (val u.data.toList : Nat)) ∧ w = w' := by
  have HE0 : Hid (valN (u.data.toList.drop 0) 0 = val u.data.toList) := rfl
  have HU : Hid (Digs u) := hu
  generalize val u.data.toList = E at *
  clear hu
  go_enter Tryz.func70, Tryz.ntmps70
  go_wp2
  go_loopg [3, 4] u.size (fun g s3 s4 wx => ∃ pos n : Nat, s3 = .int .i64 (n : Int) ∧ s4 = .int .i64 (pos : Int) ∧ g + pos = u.size ∧ n ≤ 99999999 ∧ Hid (n < 10 ^ pos) ∧ Hid (valN (u.data.toList.drop pos) n = E) ∧ w = wx)
  case atStart => exact ⟨0, 0, rfl, rfl, by omega, by omega, by show 0 < 10 ^ 0; omega, HE0, rfl⟩
  case round =>
    clear HE0
    obtain ⟨pos, n, rfl, rfl, hg, hn8, HN, HE, rfl⟩ := hrel
    by_cases hp : pos < u.size
    · have hd := HU.out u[pos] (by
        have h2 : pos < u.data.size := hp
        have : u[pos] = u.data[pos] := rfl
        rw [this]
        exact Array.getElem_mem_toList h2)
      have h1 := HE.out
      rw [drop_byte hp, valN] at h1
      obtain ⟨c, hc⟩ : ∃ c, u[pos].toNat = c := ⟨_, rfl⟩
      rw [hc] at hd h1
      have HN2 : Hid (10 * n + (c - 48) < 10 ^ (pos + 1)) := by
        have := HN.out
        show _ < _
        rw [Nat.pow_succ]
        omega
      have hN8 : 10 * n + (c - 48) ≤ 99999999 := by
        have h2 := HN2.out
        have h3 : 10 ^ (pos + 1) ≤ 10 ^ 8 := Nat.pow_le_pow_right (by omega) (by omega)
        omega
      have HE2 : Hid (valN (u.data.toList.drop (pos + 1)) (10 * n + (c - 48)) = E) := h1
      obtain ⟨d, hdd⟩ : ∃ d, c - 48 = d := ⟨_, rfl⟩
      rw [hdd] at HE2 HN2 hN8
      have hcd : (c : Int) - 48 = (d : Int) := by omega
      have hd9 : d ≤ 9 := by omega
      have hc57 : c ≤ 57 := by omega
      have hpI : (pos : Int) < (u.size : Int) := by omega
      clear h1 hdd hd HE HN
      go_wp2
      go_roundg (u.size - (pos + 1))
      case measure => omega
      case rel => exact ⟨pos + 1, 10 * n + d, by first | rfl | (simp; omega), by first | rfl | simp, by omega, hN8, HN2, HE2, rfl⟩
    · have hpI : ¬ ((pos : Int) < (u.size : Int)) := by omega
      have hE : n = E := by
        have h1 := HE.out
        rw [List.drop_eq_nil_of_le (by rw [Array.length_toList]; show u.size ≤ _; omega)] at h1
        exact h1
      subst hE
      clear HE
      go_wp2
      go_ret
      exact ⟨rfl, rfl⟩
end Go.Proofs.YtgdemlebohlolaaGreatDoor.Tm

/-
  DERIVED. The document reads a day.
-/
namespace Go.Proofs.YtgdemlebohlolaaGreatDoor.Tm
open Go Go.Proofs Go.RowKit

theorem cnt_split (s : ByteArray) (n : Nat) : ∀ m a, cnt s a (m + n) = if cnt s a m < m then cnt s a m else m + cnt s (a + m) n
  | 0, a => by simp [cnt]
  | m + 1, a => by
    rw [show m + 1 + n = (m + n) + 1 by omega, cnt, cnt]
    cases isD s a with
    | true =>
      rw [if_pos rfl, if_pos rfl, cnt_split s n m (a + 1), show a + 1 + m = a + (m + 1) by omega]
      split
      · rw [if_pos (by omega)]
      · rw [if_neg (by omega)]; omega
    | false => simp

def pl (u : Int) : Int := if u = 0 then 0 else if u = 1 then 4 else if u = 2 then 6 else -1

set_option maxRecDepth 100000 in
set_option maxHeartbeats 1000000 in
theorem pieces33_any (w : World) (s : ByteArray) (h8 : s.size = 8) (hd : cnt s 0 8 = 8) : Calls Tryz.prog 46 #[.string s] w fun e w' => e = .returned (.tuple #[dv (nv s 0 4 : Nat) (nv s 4 2 : Nat) (nv s 6 2 : Nat), .int .i64 (pl (uf (nv s 0 4 : Nat) (nv s 4 2 : Nat) (nv s 6 2 : Nat)))]) ∧ Below w.heap.size w w' := by
  have h4 : cnt s 0 4 = 4 ∧ cnt s 4 2 = 2 ∧ cnt s 6 2 = 2 := by
    have a1 := cnt_split s 4 4 0
    have a2 := cnt_split s 2 2 4
    have b1 := cnt_le s 4 0
    have b2 := cnt_le s 2 4
    have b3 := cnt_le s 2 6
    have b4 := cnt_le s 4 4
    rw [show 4 + 4 = 8 by omega, hd] at a1
    rw [show 2 + 2 = 4 by omega, show 4 + 2 = 6 by omega] at a2
    rw [show 0 + 4 = 4 by omega] at a1
    split at a1
    · omega
    · split at a2
      · omega
      · omega
  have D1 : Digs (s.extract 0 4) ∧ (s.extract 0 4).size ≤ 8 := ⟨digs_ext s 0 4 4 (by omega), by simp; omega⟩
  have D2 : Digs (s.extract 4 6) ∧ (s.extract 4 6).size ≤ 8 := ⟨digs_ext s 4 2 2 (by omega), by simp; omega⟩
  have D3 : Digs (s.extract 6 8) ∧ (s.extract 6 8).size ≤ 8 := ⟨digs_ext s 6 2 2 (by omega), by simp; omega⟩
  obtain ⟨vf, hvf⟩ : ∃ vf : ByteArray → Nat, vf = fun u => val u.data.toList := ⟨_, rfl⟩
  have e1 : nv s 0 4 = vf (s.extract 0 4) := by rw [hvf]; rfl
  have e2 : nv s 4 2 = vf (s.extract 4 6) := by rw [hvf]; rfl
  have e3 : nv s 6 2 = vf (s.extract 6 8) := by rw [hvf]; rfl
  have nn : ∀ W u, (Digs u ∧ u.size ≤ 8) → Calls Tryz.prog 70 #[.string u] W fun e w' => e = .returned (.int .i64 (vf u : Nat)) ∧ W = w' := fun W u hu => by rw [hvf]; exact number47_any W u hu.1 hu.2
  rw [e1, e2, e3]
  clear e1 e2 e3 hvf
  obtain ⟨y, hy⟩ : ∃ y, vf (s.extract 0 4) = y := ⟨_, rfl⟩
  obtain ⟨m, hm⟩ : ∃ m, vf (s.extract 4 6) = m := ⟨_, rfl⟩
  obtain ⟨d, hdd⟩ : ∃ d, vf (s.extract 6 8) = d := ⟨_, rfl⟩
  rw [hy, hm, hdd]
  have hU := uf_is (y : Int) (m : Int) (d : Int)
  have c35 := fun W => dayNo_any W (y : Int) (m : Int) (d : Int)
  obtain ⟨U, hUU⟩ : ∃ U, uf (y : Int) (m : Int) (d : Int) = U := ⟨_, rfl⟩
  rw [hUU] at hU ⊢
  have c35' : ∀ W, Calls Tryz.prog 71 #[dv y m d] W fun e w' => e = .returned (.int .i64 U) ∧ Below W.heap.size W w' := fun W => hUU ▸ c35 W
  have HU : Hid (U = -1 ∨ U = 0 ∨ U = 1 ∨ U = 2) := by show _ ∨ _; omega
  clear hU hUU c35
  unfold dv at *
  clear h4 hd
  have hsz : (8 : Int) ≤ (s.size : Int) := by omega
  obtain ⟨W1, hW1⟩ : ∃ W1, w.alloc (.cells #[.int .i64 0, .int .i64 0, .int .i64 0] 59) = W1 := ⟨_, rfl⟩
  have hs1 : W1.heap.size = w.heap.size + 1 := by rw [← hW1]; simp
  have HB1 : Hid (Below w.heap.size w W1) := hW1 ▸ (Below.refl _ _).alloc (Nat.le_refl _) _
  have HR1 : Hid (W1.rowIs w.heap.size 59 3 (f3 0 0 0)) := by
    show W1.rowIs _ _ _ _
    rw [← hW1]
    exact World.rowIs_alloc w _ 59 _ (fun i hi => by
      rcases (by simp at hi; omega : i = 0 ∨ i = 1 ∨ i = 2) with rfl | rfl | rfl <;> rfl)
  go_enter Tryz.func46, Tryz.ntmps46
  go_wp2
  go_region_held3 (fun _ => True) (trivial) (first | (go_at_call 70; refine (nn _ _ ?_).mono ?_; (focus (first | exact D1 | exact D2 | exact D3)); rintro e w' ⟨rfl, rfl⟩))
  all_goals
    clear nn D1 D2 D3 hsz hW1 hy hm hdd
    go_upto_region 2 with fail
    obtain ⟨W2, hW2⟩ : ∃ W2, (W1.alloc (.cells #[.int .i64 (y : Int), .int .i64 (m : Int), .int .i64 (d : Int)] 59)).drew = W2 := ⟨_, rfl⟩
    rw [hW2]
    have HB2 : Hid (Below w.heap.size w W2) := hW2 ▸ (HB1.out.alloc (by omega) _).drew
    have HR2 : Hid (W2.rowIs w.heap.size 59 3 (f3 0 0 0)) := hW2 ▸ HR1.out.alloc _
    have HD2 : Hid (W2.rowIs (w.heap.size + 1) 59 3 (f3 y m d)) := by
      show W2.rowIs _ _ _ _
      rw [← hW2, ← hs1]
      exact World.rowIs_alloc W1 _ 59 _ (fun i hi => by
        rcases (by simp at hi; omega : i = 0 ∨ i = 1 ∨ i = 2) with rfl | rfl | rfl <;> rfl)
    have q0 : W2.cell? ⟨w.heap.size + 1, 0, none⟩ = some (.int .i64 (y : Int)) := HD2.out.cell (i := 0) (by omega)
    have q1 : W2.cell? ⟨w.heap.size + 1, 1, none⟩ = some (.int .i64 (m : Int)) := HD2.out.cell (i := 1) (by omega)
    have q2 : W2.cell? ⟨w.heap.size + 1, 2, none⟩ = some (.int .i64 (d : Int)) := HD2.out.cell (i := 2) (by omega)
    clear hW2 HB1 HR1
    go_wp2_with (go_at_call 71; refine Stop.mk ?_)
    refine Stop.out ((c35' _).mono ?_)
    rintro e W3 ⟨rfl, hb3⟩
    have HB3 : Hid (Below w.heap.size w W3) := HB2.out.trans (hb3.mono HB2.out.size)
    have HR3 := row_on HR2.out hb3
    have HD3 := row_on HD2.out hb3
    clear q0 q1 q2 HB2 HR2 HD2 hb3 c35' hs1
    have q0 : W3.cell? ⟨w.heap.size + 1, 0, none⟩ = some (.int .i64 (y : Int)) := HD3.cell (i := 0) (by omega)
    have q1 : W3.cell? ⟨w.heap.size + 1, 1, none⟩ = some (.int .i64 (m : Int)) := HD3.cell (i := 1) (by omega)
    have q2 : W3.cell? ⟨w.heap.size + 1, 2, none⟩ = some (.int .i64 (d : Int)) := HD3.cell (i := 2) (by omega)
    have r0 : W3.cell? ⟨w.heap.size, 0, none⟩ = some (.int .i64 0) := HR3.cell (i := 0) (by omega)
    have r1 : W3.cell? ⟨w.heap.size, 1, none⟩ = some (.int .i64 0) := HR3.cell (i := 1) (by omega)
    have r2 : W3.cell? ⟨w.heap.size, 2, none⟩ = some (.int .i64 0) := HR3.cell (i := 2) (by omega)
    have rf := fun i => HR3.frozen i
    clear HR3 HD3
    rcases HU.out with rfl | rfl | rfl | rfl
    all_goals
      go_wp2
      refine bodyPost_ret (by simp [results, Tryz.results46, go_sem, r0, r1, r2]; rfl) rfl ⟨rfl, ?_⟩
      exact ((HB3.out.setCell (p := ⟨w.heap.size, 0, none⟩) (Nat.le_refl _) _).setCell (p := ⟨w.heap.size, 1, none⟩) (Nat.le_refl _) _).setCell (p := ⟨w.heap.size, 2, none⟩) (Nat.le_refl _) _
end Go.Proofs.YtgdemlebohlolaaGreatDoor.Tm
