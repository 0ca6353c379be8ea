import Derived.Test.YtggdlagopgpnhaaDoorR
/-
  DERIVED. The document's day of a number.
-/
namespace Go.Proofs.YtggdlagopgpnhaaDoor
open Go Go.Proofs Go.RowKit

structure M3 (w wx : World) (y m d : Int) : Prop where
  d : wx.rowIs (w.heap.size + 2) 23 3 (f3 y m d)
  r : wx.rowIs w.heap.size 23 3 (f3 0 0 0)
  e : wx.rowIs (w.heap.size + 1) 37 2 fN
  b : Below w.heap.size w wx
theorem M3.on {w wx wy : World} {y m d : Int} (h : M3 w wx y m d) (hb : Below wx.heap.size wx wy) : M3 w wy y m d :=
  ⟨row_on h.d hb, row_on h.r hb, row_on h.e hb, h.b.trans (hb.mono h.b.size)⟩
theorem M3.drewN {w wx : World} {y m d : Int} (h : M3 w wx y m d) (n : Nat) : M3 w (wx.drewN n) y m d :=
  ⟨h.d, h.r, h.e, below_drewN h.b _⟩
theorem M3.drew {w wx : World} {y m d : Int} (h : M3 w wx y m d) : M3 w wx.drew y m d :=
  ⟨h.d, h.r, h.e, h.b.drew⟩
theorem M3.set {w wx : World} {y m d y' m' d' : Int} (h : M3 w wx y m d) (i : Nat) (v : Value) (he : ∀ k, k < 3 → (if k = i then v else f3 y m d k) = f3 y' m' d' k) : M3 w (wx.setCell ⟨w.heap.size + 2, i, none⟩ v) y' m' d' :=
  ⟨(h.d.set i v).congr (fun k hk => he k hk), h.r.setOther (by simp) _, h.e.setOther (by simp) _, h.b.setCell (p := ⟨w.heap.size + 2, i, none⟩) (by simp) _⟩

def PostO (w : World) (n : Nat) (e : Ending) (w' : World) : Prop := ∃ y m d : Nat, e = .returned (.tuple #[dv y m d, .agg #[.slice none 0 0, .int .i64 0]]) ∧ IsDay n y m d ∧ Below w.heap.size w w'

set_option maxRecDepth 100000 in
set_option maxHeartbeats 2000000 in
theorem dateOf14_any (w : World) (n : Nat) (hn : n ≤ 3652058) : Calls Tryd.prog 14 #[.int .i64 (n : Int)] w (PostO w n) := by
  obtain ⟨W1, hW1⟩ : ∃ W1, w.alloc (.cells #[.int .i64 0, .int .i64 0, .int .i64 0] 23) = W1 := ⟨_, rfl⟩
  have hs1 : W1.heap.size = w.heap.size + 1 := by rw [← hW1]; simp
  obtain ⟨W2, hW2⟩ : ∃ W2, W1.alloc (.cells #[.slice none 0 0, .int .i64 0] 37) = W2 := ⟨_, rfl⟩
  have hs2 : W2.heap.size = w.heap.size + 2 := by rw [← hW2]; simp [hs1]
  obtain ⟨W3, hW3⟩ : ∃ W3, W2.alloc (.cells #[.int .i64 1, .int .i64 1, .int .i64 1] 23) = W3 := ⟨_, rfl⟩
  have HM : Hid (M3 w W3 1 1 1) := by
    refine ⟨?_, ?_, ?_, ?_⟩
    · rw [← hW3, ← hs2]
      exact World.rowIs_alloc W2 _ 23 _ (fun i hi => by
        rcases (by simp at hi; omega : i = 0 ∨ i = 1 ∨ i = 2) with rfl | rfl | rfl <;> rfl)
    · rw [← hW3, ← hW2, ← hW1]
      exact ((World.rowIs_alloc w _ 23 _ (fun i hi => by
        rcases (by simp at hi; omega : i = 0 ∨ i = 1 ∨ i = 2) with rfl | rfl | rfl <;> rfl)).alloc _).alloc _
    · rw [← hW3, ← hW2, ← hs1]
      exact (World.rowIs_alloc W1 _ 37 _ (fun i hi => by
        rcases (by simp at hi; omega : i = 0 ∨ i = 1) with rfl | rfl <;> rfl)).alloc _
    · exact hW3 ▸ (hW2 ▸ (hW1 ▸ (Below.refl _ _).alloc (Nat.le_refl _) _ : Below w.heap.size w W1).alloc (by omega) _ : Below w.heap.size w W2).alloc (by omega) _
  have n0 : ¬ ((n : Int) < 0) := by omega
  have n1 : ¬ ((3652058 : Int) < (n : Int)) := by omega
  go_enter Tryd.func14, Tryd.ntmps14
  go_wp2
  go_loopg [4] 9999 (fun g s4 wx => ∃ y L : Nat, s4 = .int .i64 (L : Int) ∧ 1 ≤ y ∧ g + y = 10000 ∧ L ≤ 3652058 ∧ Hid (dA y + L = n) ∧ Hid (M3 w wx y 1 1))
  case atStart => exact ⟨1, n, rfl, by omega, by omega, hn, by show dA 1 + n = n; rw [show dA 1 = 0 from rfl]; omega, HM.out⟩
  case round =>
    clear HM hW1 hW2 hW3 hs1 hs2
    obtain ⟨y, L, rfl, hy1, hg, hL, HA, HM⟩ := hrel
    have hy2 : y ≤ 9999 := by
      rcases Nat.lt_or_ge y 10000 with h | h
      · omega
      · have := dA_mono (a := 10000) (by omega) (y - 10000)
        rw [show 10000 + (y - 10000) = y by omega, dA_last] at this
        have := HA.out
        omega
    have q0 : wr.cell? ⟨w.heap.size + 2, 0, none⟩ = some (.int .i64 (y : Int)) := HM.out.d.cell (i := 0) (by omega)
    have qf : ∀ i, wr.frozen? ⟨w.heap.size + 2, i, none⟩ = false := fun i => HM.out.d.frozen i
    have c := year38_any wr y
    have hY : yl y ≤ 366 := by unfold yl; split <;> omega
    by_cases hN : yl y ≤ L
    · have HA2 : Hid (dA (y + 1) + (L - yl y) = n) := by
        have := HA.out
        show _ = _
        rw [dA_next y hy1]
        unfold yl at *
        omega
      have hI : ((yl y : Nat) : Int) ≤ (L : Int) := by omega
      have hsubI : (L : Int) - (yl y : Int) = ((L - yl y : Nat) : Int) := by omega
      obtain ⟨D2, hD2⟩ : ∃ D2, L - yl y = D2 := ⟨_, rfl⟩
      rw [hD2] at HA2 hsubI
      have hD2b : D2 ≤ 3652058 := by omega
      have HM2 : Hid (M3 w (wr.setCell ⟨w.heap.size + 2, 0, none⟩ (.int .i64 ((y : Int) + 1))) ((y + 1 : Nat) : Int) 1 1) := HM.out.set 0 _ (fun k hk => by
        rcases (by omega : k = 0 ∨ k = 1 ∨ k = 2) with rfl | rfl | rfl <;> rfl)
      clear hD2 hN
      generalize yl y = Y at *
      go_wp2_with (go_at_call 38; refine c.mono ?_; rintro e w' ⟨rfl, rfl⟩)
      go_roundg (10000 - (y + 1))
      case measure => omega
      case rel => exact ⟨y + 1, D2, rfl, by omega, by omega, hD2b, HA2, HM2⟩
    · have hI : ¬ (((yl y : Nat) : Int) ≤ (L : Int)) := by omega
      have hI' : decide (yl y ≤ L) = false := by simp; omega
      have HL : Hid (L < cu y 12) := by
        show _ < _
        rw [mL_sum]
        unfold yl at hN
        omega
      clear hN
      generalize yl y = Y at *
      go_wp2_with (go_at_call 38; refine c.mono ?_; rintro e w' ⟨rfl, rfl⟩)
      go_loopg [4] 12 (fun g s4 wx => ∃ m L : Nat, s4 = .int .i64 (L : Int) ∧ 1 ≤ m ∧ m ≤ 12 ∧ g + m = 13 ∧ L ≤ 3652058 ∧ Hid (dA y + cu y (m - 1) + L = n) ∧ Hid (cu y (m - 1) + L < cu y 12) ∧ Hid (M3 w wx y m 1))
      case atStart => exact ⟨1, L, rfl, by omega, by omega, by omega, hL, by show _ = _; rw [show 1 - 1 = 0 by omega, cu]; exact HA.out, by show _ < _; rw [show 1 - 1 = 0 by omega, cu]; have := HL.out; omega, HM.out⟩
      case round =>
        clear HM c q0 qf HA HL
        obtain ⟨m, Q, rfl, hm1, hm2, hg, hQ, HA, HL, HM⟩ := hrel
        have q0 : wr.cell? ⟨w.heap.size + 2, 0, none⟩ = some (.int .i64 (y : Int)) := HM.out.d.cell (i := 0) (by omega)
        have q1 : wr.cell? ⟨w.heap.size + 2, 1, none⟩ = some (.int .i64 (m : Int)) := HM.out.d.cell (i := 1) (by omega)
        have qf : ∀ i, wr.frozen? ⟨w.heap.size + 2, i, none⟩ = false := fun i => HM.out.d.frozen i
        have c := month39_any wr y m hm1 hm2
        have hmd := md_le y m
        obtain ⟨K, hK⟩ : ∃ K, md y m = K := ⟨_, rfl⟩
        rw [hK] at c hmd
        by_cases hN : K ≤ Q
        · have hm12 : m < 12 := by
            rcases Nat.lt_or_ge m 12 with h | h
            · exact h
            · exfalso
              obtain rfl : m = 12 := by omega
              have h1 := HL.out
              have h3 : cu y 12 = cu y (12 - 1) + md y 12 := rfl
              omega
          have hcu : cu y (m + 1 - 1) = cu y (m - 1) + K := by
            obtain ⟨j, rfl⟩ : ∃ j, m = j + 1 := ⟨m - 1, by omega⟩
            rw [show j + 1 + 1 - 1 = j + 1 by omega, cu, hK, show j + 1 - 1 = j by omega]
          have HA2 : Hid (dA y + cu y (m + 1 - 1) + (Q - K) = n) := by have := HA.out; show _ = _; omega
          have HL2 : Hid (cu y (m + 1 - 1) + (Q - K) < cu y 12) := by have := HL.out; show _ < _; omega
          have hIq : (K : Int) ≤ (Q : Int) := by omega
          have hsubI : (Q : Int) - (K : Int) = ((Q - K : Nat) : Int) := by omega
          obtain ⟨D2, hD2⟩ : ∃ D2, Q - K = D2 := ⟨_, rfl⟩
          rw [hD2] at HA2 HL2 hsubI
          have hD2b : D2 ≤ 3652058 := by omega
          have HM2 : Hid (M3 w (wr.setCell ⟨w.heap.size + 2, 1, none⟩ (.int .i64 ((m : Int) + 1))) y ((m + 1 : Nat) : Int) 1) := HM.out.set 1 _ (fun k hk => by
            rcases (by omega : k = 0 ∨ k = 1 ∨ k = 2) with rfl | rfl | rfl <;> rfl)
          clear hD2 hN hK hcu
          go_wp2_with (go_at_call 39; refine c.mono ?_; rintro e w' ⟨rfl, rfl⟩)
          go_roundg (13 - (m + 1))
          case measure => omega
          case rel => exact ⟨m + 1, D2, rfl, by omega, by omega, by omega, hD2b, HA2, HL2, HM2⟩
        · have hIq : ¬ ((K : Int) ≤ (Q : Int)) := by omega
          have HI : Hid (IsDay n y m (Q + 1)) := ⟨⟨by omega, by omega, by omega, by omega, by omega, by omega⟩, by have := HA.out; unfold num; omega⟩
          have c34 := fun W' => none34_any W'
          have q2 : wr.cell? ⟨w.heap.size + 2, 2, none⟩ = some (.int .i64 1) := HM.out.d.cell (i := 2) (by omega)
          have HM2 : Hid (M3 w (wr.setCell ⟨w.heap.size + 2, 2, none⟩ (.int .i64 ((Q : Int) + 1))) y m ((Q + 1 : Nat) : Int)) := HM.out.set 2 _ (fun k hk => by
            rcases (by omega : k = 0 ∨ k = 1 ∨ k = 2) with rfl | rfl | rfl <;> rfl)
          clear hN hK
          go_wp2_with (go_at_call 39; refine c.mono ?_; rintro e w' ⟨rfl, rfl⟩)
          obtain ⟨W9, hW9⟩ : ∃ W9, wr.setCell ⟨w.heap.size + 2, 2, none⟩ (.int .i64 ((Q : Int) + 1)) = W9 := ⟨_, rfl⟩
          rw [hW9] at HM2 ⊢
          have e0 : W9.cell? ⟨w.heap.size + 2, 0, none⟩ = some (.int .i64 (y : Int)) := HM2.out.d.cell (i := 0) (by omega)
          have e1 : W9.cell? ⟨w.heap.size + 2, 1, none⟩ = some (.int .i64 (m : Int)) := HM2.out.d.cell (i := 1) (by omega)
          have e2 : W9.cell? ⟨w.heap.size + 2, 2, none⟩ = some (.int .i64 ((Q + 1 : Nat) : Int)) := HM2.out.d.cell (i := 2) (by omega)
          clear hW9 q0 q1 q2 qf c HM
          go_region_with (first | (go_at_call 34; refine (c34 _).mono ?_; rintro e W10 ⟨rfl, hb10⟩; have M10 := M3.on (HM2.out.drewN _) hb10; have g0 : W10.cell? ⟨w.heap.size + 2, 0, none⟩ = some (.int .i64 (y : Int)) := M10.d.cell (i := 0) (by omega); have g1 : W10.cell? ⟨w.heap.size + 2, 1, none⟩ = some (.int .i64 (m : Int)) := M10.d.cell (i := 1) (by omega); have g2 : W10.cell? ⟨w.heap.size + 2, 2, none⟩ = some (.int .i64 ((Q + 1 : Nat) : Int)) := M10.d.cell (i := 2) (by omega); have r0 : W10.cell? ⟨w.heap.size, 0, none⟩ = some (.int .i64 0) := M10.r.cell (i := 0) (by omega); have r1 : W10.cell? ⟨w.heap.size, 1, none⟩ = some (.int .i64 0) := M10.r.cell (i := 1) (by omega); have r2 : W10.cell? ⟨w.heap.size, 2, none⟩ = some (.int .i64 0) := M10.r.cell (i := 2) (by omega); have rf := fun i => M10.r.frozen i; have s0 : W10.cell? ⟨w.heap.size + 1, 0, none⟩ = some (.slice none 0 0) := M10.e.cell (i := 0) (by omega); have s1 : W10.cell? ⟨w.heap.size + 1, 1, none⟩ = some (.int .i64 0) := M10.e.cell (i := 1) (by omega); have sf := fun i => M10.e.frozen i) | fail)
          all_goals
            go_wp2
            refine bodyPost_ret (v := .tuple #[.agg #[.int .i64 (y : Int), .int .i64 (m : Int), .int .i64 ((Q : Int) + 1)], .agg #[.slice none 0 0, .int .i64 0]]) (by simp [results, Tryd.results14, go_sem, r0, r1, r2, s0, s1]) rfl ⟨y, m, Q + 1, rfl, HI.out, ?_⟩
            exact ((((M10.b.setCell (p := ⟨w.heap.size, 0, none⟩) (Nat.le_refl _) _).setCell (p := ⟨w.heap.size, 1, none⟩) (Nat.le_refl _) _).setCell (p := ⟨w.heap.size, 2, none⟩) (Nat.le_refl _) _).setCell (p := ⟨w.heap.size + 1, 0, none⟩) (Nat.le_succ _) _).setCell (p := ⟨w.heap.size + 1, 1, none⟩) (Nat.le_succ _) _

structure M2 (w wx : World) : Prop where
  r : wx.rowIs w.heap.size 23 3 (f3 0 0 0)
  e : wx.rowIs (w.heap.size + 1) 37 2 fN
  b : Below w.heap.size w wx
theorem M2.on {w wx wy : World} (h : M2 w wx) (hb : Below wx.heap.size wx wy) : M2 w wy :=
  ⟨row_on h.r hb, row_on h.e hb, h.b.trans (hb.mono h.b.size)⟩
theorem M2.start (w : World) : M2 w ((w.alloc (.cells #[.int .i64 0, .int .i64 0, .int .i64 0] 23)).alloc (.cells #[.slice none 0 0, .int .i64 0] 37)) := by
  refine ⟨?_, ?_, ?_⟩
  · exact (World.rowIs_alloc w _ 23 _ (fun i hi => by
      rcases (by simp at hi; omega : i = 0 ∨ i = 1 ∨ i = 2) with rfl | rfl | rfl <;> rfl)).alloc _
  · have := World.rowIs_alloc (w.alloc (.cells #[.int .i64 0, .int .i64 0, .int .i64 0] 23)) #[.slice none 0 0, .int .i64 0] 37 fN (fun i hi => by
      rcases (by simp at hi; omega : i = 0 ∨ i = 1) with rfl | rfl <;> rfl)
    simpa using this
  · exact (((Below.refl _ _).alloc (Nat.le_refl _) _).alloc (by simp) _)
theorem M2.facts {w wx : World} (h : M2 w wx) : wx.cell? ⟨w.heap.size, 0, none⟩ = some (.int .i64 0) ∧ wx.cell? ⟨w.heap.size, 1, none⟩ = some (.int .i64 0) ∧ wx.cell? ⟨w.heap.size, 2, none⟩ = some (.int .i64 0) ∧ (∀ i, wx.frozen? ⟨w.heap.size, i, none⟩ = false) ∧ wx.cell? ⟨w.heap.size + 1, 0, none⟩ = some (.slice none 0 0) ∧ wx.cell? ⟨w.heap.size + 1, 1, none⟩ = some (.int .i64 0) ∧ (∀ i, wx.frozen? ⟨w.heap.size + 1, i, none⟩ = false) :=
  ⟨h.r.cell (i := 0) (by omega), h.r.cell (i := 1) (by omega), h.r.cell (i := 2) (by omega), fun i => h.r.frozen i, h.e.cell (i := 0) (by omega), h.e.cell (i := 1) (by omega), fun i => h.e.frozen i⟩
/-- The world once both results are stored. -/
def stored (w W : World) (y m d : Int) (a b : Value) : World := ((((W.setCell ⟨w.heap.size, 0, none⟩ (.int .i64 y)).setCell ⟨w.heap.size, 1, none⟩ (.int .i64 m)).setCell ⟨w.heap.size, 2, none⟩ (.int .i64 d)).setCell ⟨w.heap.size + 1, 0, none⟩ a).setCell ⟨w.heap.size + 1, 1, none⟩ b
theorem stored_below {w W : World} (h : Below w.heap.size w W) (y m d : Int) (a b : Value) : Below w.heap.size w (stored w W y m d a b) :=
  ((((h.setCell (p := ⟨w.heap.size, 0, none⟩) (Nat.le_refl _) _).setCell (p := ⟨w.heap.size, 1, none⟩) (Nat.le_refl _) _).setCell (p := ⟨w.heap.size, 2, none⟩) (Nat.le_refl _) _).setCell (p := ⟨w.heap.size + 1, 0, none⟩) (Nat.le_succ _) _).setCell (p := ⟨w.heap.size + 1, 1, none⟩) (Nat.le_succ _) _
theorem stored_err {w W : World} {v : Value} {o : Option (Int × Int)} (h : M2 w W) (hv : RErr W v o) (y m d : Int) (a b : Value) : RErr (stored w W y m d a b) v o := by
  obtain ⟨r0, _, _, _, s0, _, _⟩ := h.facts
  cases o with
  | none => exact hv
  | some x =>
    obtain ⟨g, k, rfl, h0, h1⟩ := hv
    have n1 : w.heap.size ≠ g := fun e => by rw [← e, r0] at h0; cases h0
    have n2 : w.heap.size + 1 ≠ g := fun e => by rw [← e, s0] at h0; cases h0
    exact ⟨g, k, rfl, (cell_set_off n2).trans ((cell_set_off n2).trans ((cell_set_off n1).trans ((cell_set_off n1).trans ((cell_set_off n1).trans h0)))), (cell_set_off n2).trans ((cell_set_off n2).trans ((cell_set_off n1).trans ((cell_set_off n1).trans ((cell_set_off n1).trans h1))))⟩

set_option maxRecDepth 100000 in
set_option maxHeartbeats 1000000 in
theorem dateOf14_no (w : World) (n : Int) (h : n < 0 ∨ 3652058 < n) : Calls Tryd.prog 14 #[.int .i64 n] w (PostF w (dv 0 0 0) (some (0, 101))) := by
  obtain ⟨W1, hW1⟩ : ∃ W1, w.alloc (.cells #[.int .i64 0, .int .i64 0, .int .i64 0] 23) = W1 := ⟨_, rfl⟩
  have hs1 : W1.heap.size = w.heap.size + 1 := by rw [← hW1]; simp
  obtain ⟨W2, hW2⟩ : ∃ W2, W1.alloc (.cells #[.slice none 0 0, .int .i64 0] 37) = W2 := ⟨_, rfl⟩
  have HM : Hid (M2 w W2) := by show M2 w W2; rw [← hW2, ← hW1]; exact M2.start w
  have c32 := no_any 0 101 W2
  unfold dv
  rcases h with h | h
  all_goals
    go_enter Tryd.func14, Tryd.ntmps14
    go_wp2_with (go_at_call 32; refine Stop.mk ?_)
    refine Stop.out (c32.mono ?_)
    rintro e W5 ⟨v, rfl, hv, hb5⟩
    have HM5 : Hid (M2 w W5) := HM.out.on hb5
    obtain ⟨r0, r1, r2, rf, s0, s1, sf⟩ := HM5.out.facts
    have HV : Hid (RErr W5 v (some (0, 101))) := hv
    obtain ⟨g, k, rfl, _, _⟩ := hv
    clear c32 hb5 HM hW1 hW2
    go_wp2
    refine bodyPost_ret (v := .tuple #[.agg #[.int .i64 0, .int .i64 0, .int .i64 0], .agg #[.slice (some ⟨g, 0, none⟩) 1 k, .int .i64 101]]) (by simp [results, Tryd.results14, go_sem, r0, r1, r2, s0, s1]) rfl ⟨_, rfl, ?_, ?_⟩
    · exact stored_err HM5.out HV.out _ _ _ _ _
    · exact stored_below HM5.out.b _ _ _ _ _
end Go.Proofs.YtggdlagopgpnhaaDoor
