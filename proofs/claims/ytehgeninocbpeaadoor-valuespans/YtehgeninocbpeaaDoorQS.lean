import Derived.Test.YtehgeninocbpeaaDoorQQ
/-
  DERIVED. The document's number of a day.
-/
namespace Go.Proofs.YtehgeninocbpeaaDoor.Tm
open Go Go.Proofs Go.RowKit

theorem none34_any (w : World) : Calls Tryd.prog 25 #[] w fun e w' => e = .returned (.agg #[.slice none 0 0, .int .i64 0]) ∧ Below w.heap.size w w' := by
  obtain ⟨W0, hW0⟩ : ∃ W0, w.alloc (.cells #[.slice none 0 0, .int .i64 0] 31) = W0 := ⟨_, rfl⟩
  have HB : Hid (Below w.heap.size w W0) := hW0 ▸ (Below.refl _ _).alloc (Nat.le_refl _) _
  have a0 : W0.cell? ⟨w.heap.size, 0, none⟩ = some (.slice none 0 0) := by rw [← hW0]; simp
  have a1 : W0.cell? ⟨w.heap.size, 1, none⟩ = some (.int .i64 0) := by rw [← hW0]; simp
  have af : ∀ i, W0.frozen? ⟨w.heap.size, i, none⟩ = false := fun i => by rw [← hW0]; simp
  go_enter Tryd.func25, Tryd.ntmps25
  go_wp2
  refine bodyPost_ret (v := .agg #[.slice none 0 0, .int .i64 0]) (by simp [results, Tryd.results25, go_sem, a0, a1]) rfl ?_
  exact ⟨rfl, (HB.out.setCell (p := ⟨w.heap.size, 0, none⟩) (Nat.le_refl _) _).setCell (p := ⟨w.heap.size, 1, none⟩) (Nat.le_refl _) _⟩

theorem row_on {w w' : World} {r : Nat} {t : TypeId} {n : Nat} {f : Nat → Value} (h : w.rowIs r t n f) (hb : Below w.heap.size w w') : w'.rowIs r t n f :=
  row_kept (q := r + 1) h (grown_below (grown_refl _ _) hb) (by omega)

def fN : Nat → Value := fun k => if k = 0 then .slice none 0 0 else .int .i64 0

theorem RErr.keep {w w' : World} {p : Nat} {v : Value} {o : Option (Int × Int)} (h : RErr w v o) (hp : ∀ s, w.cell? ⟨p, 0, none⟩ ≠ some (.string s)) (hk : ∀ g i, g ≠ p → w'.cell? ⟨g, i, none⟩ = w.cell? ⟨g, i, none⟩) : RErr w' v o := by
  cases o with
  | none => exact h
  | some x =>
    obtain ⟨g, k, rfl, h0, h1⟩ := h
    have hg : g ≠ p := fun e => hp _ (e ▸ h0)
    exact ⟨g, k, rfl, (hk g 0 hg).trans h0, (hk g 1 hg).trans h1⟩

theorem uf_is (y m d : Int) : uf y m d = -1 ∨ (0 ≤ uf y m d ∧ uf y m d ≤ 2) := by
  unfold uf
  by_cases h1 : y < 1 ∨ 9999 < y
  · rw [if_pos h1]; omega
  · by_cases h2 : m < 1 ∨ 12 < m
    · rw [if_neg h1, if_pos h2]; omega
    · rw [if_neg h1, if_neg h2]
      split <;> omega

def PostF (w : World) (V : Value) (o : Option (Int × Int)) (e : Ending) (w' : World) : Prop := ∃ v, e = .returned (.tuple #[V, v]) ∧ RErr w' v o ∧ Below w.heap.size w w'

set_option maxRecDepth 100000 in
set_option maxHeartbeats 1000000 in
theorem count37_any (w : World) (y m d : Nat) (hd : Day y m d) : Calls Tryd.prog 13 #[dv y m d] w fun e w' => e = .returned (.int .i64 (num y m d : Nat)) ∧ Below w.heap.size w w' := by
  obtain ⟨hy1, hy2, hm1, hm2, hd1, hd2⟩ := hd
  have hd31 : d ≤ 31 := Nat.le_trans hd2 (md_le y m)
  obtain ⟨W, hW⟩ : ∃ W, w.alloc (.cells #[.int .i64 (y : Int), .int .i64 (m : Int), .int .i64 (d : Int)] 38) = W := ⟨_, rfl⟩
  have HB : Hid (Below w.heap.size w W) := hW ▸ (Below.refl _ _).alloc (Nat.le_refl _) _
  have q0 : W.cell? ⟨w.heap.size, 0, none⟩ = some (.int .i64 (y : Int)) := by rw [← hW]; simp
  have q1 : W.cell? ⟨w.heap.size, 1, none⟩ = some (.int .i64 (m : Int)) := by rw [← hW]; simp
  have q2 : W.cell? ⟨w.heap.size, 2, none⟩ = some (.int .i64 (d : Int)) := by rw [← hW]; simp
  have HE : Hid (num y m d = dA y + cu y (m - 1) + d - 1) := by show _ = _; unfold num; omega
  generalize num y m d = N at *
  clear hd2
  unfold dv
  go_enter Tryd.func13, Tryd.ntmps13
  go_wp2
  go_loopg [3, 4] (y - 1) (fun g s3 s4 wx => ∃ k : Nat, s4 = .int .i64 (k : Int) ∧ 1 ≤ k ∧ k ≤ y ∧ g + k = y ∧ (∃ S : Nat, s3 = .int .i64 (S : Int) ∧ S ≤ 3700000 ∧ Hid (S = dA k)) ∧ W = wx)
  case atStart => exact ⟨1, rfl, by omega, by omega, by omega, ⟨0, rfl, by omega, by show 0 = dA 1; decide⟩, rfl⟩
  case round =>
    obtain ⟨k, rfl, hk1, hky, hg, ⟨S, rfl, hS, HS⟩, rfl⟩ := hrel
    by_cases hk : k < y
    · have hkI : (k : Int) < (y : Int) := by omega
      have c := year38_any W k
      have HS2 : Hid (S + yl k = dA (k + 1)) := by
        show _ = _
        rw [dA_next k hk1, ← HS.out]
        rfl
      have hS2 : S + yl k ≤ 3700000 := by
        rw [HS2.out]
        have := dA_le (y := k + 1) (by omega)
        omega
      generalize yl k = L at *
      have hLS : L ≤ 3700000 := by omega
      go_wp2_with (go_at_call 34; refine c.mono ?_; rintro e w' ⟨rfl, rfl⟩)
      go_roundg (y - (k + 1))
      case measure => omega
      case rel => exact ⟨k + 1, by simp, by omega, by omega, by omega, ⟨S + L, by simp, hS2, HS2⟩, rfl⟩
    · obtain rfl : k = y := by omega
      have hkI : ¬ ((k : Int) < (k : Int)) := by omega
      go_wp2
      go_loopg [3, 5] (m - 1) (fun g s3 s5 wx => ∃ j : Nat, s5 = .int .i64 (j : Int) ∧ 1 ≤ j ∧ j ≤ m ∧ g + j = m ∧ (∃ S : Nat, s3 = .int .i64 (S : Int) ∧ S ≤ 3700000 ∧ Hid (S = dA k + cu k (j - 1))) ∧ W = wx)
      case atStart => exact ⟨1, rfl, by omega, by omega, by omega, ⟨S, rfl, hS, by show _ = _; rw [HS.out]; rfl⟩, rfl⟩
      case round =>
        obtain ⟨j, rfl, hj1, hjm, hg, ⟨T, rfl, hT, HT⟩, rfl⟩ := hrel
        by_cases hj : j < m
        · have hjI : (j : Int) < (m : Int) := by omega
          have c := month39_any W k j hj1 (by omega)
          have HT2 : Hid (T + md k j = dA k + cu k (j + 1 - 1)) := by
            obtain ⟨i, rfl⟩ : ∃ i, j = i + 1 := ⟨j - 1, by omega⟩
            show _ = _
            rw [HT.out, show i + 1 + 1 - 1 = i + 1 by omega, show i + 1 - 1 = i by omega, cu]
            omega
          have hT2 : T + md k j ≤ 3700000 := by
            rw [HT2.out]
            have := cu_le k (j + 1 - 1)
            have := dA_le (y := k) (by omega)
            omega
          generalize md k j = L at *
          have hLS : L ≤ 3700000 := by omega
          go_wp2_with (go_at_call 35; refine c.mono ?_; rintro e w' ⟨rfl, rfl⟩)
          go_roundg (m - (j + 1))
          case measure => omega
          case rel => exact ⟨j + 1, by simp, by omega, by omega, by omega, ⟨T + L, by simp, hT2, HT2⟩, rfl⟩
        · obtain rfl : j = m := by omega
          have hjI : ¬ ((j : Int) < (j : Int)) := by omega
          have HN : Hid ((T : Int) + (d : Int) - 1 = (N : Int)) := by
            have h1 := HT.out
            have h2 := HE.out
            show _ = _
            omega
          go_wp2
          refine bodyPost_ret (v := .int .i64 ((T : Int) + (d : Int) - 1)) (by simp [results, Tryd.results13, go_sem]) rfl ⟨by rw [HN.out], HB.out⟩

end Go.Proofs.YtehgeninocbpeaaDoor.Tm

/-
  DERIVED. The document's day of a number.
-/
namespace Go.Proofs.YtehgeninocbpeaaDoor.Tm
open Go Go.Proofs Go.RowKit

def f3 (y m d : Int) : Nat → Value := fun k => if k = 0 then .int .i64 y else if k = 1 then .int .i64 m else .int .i64 d
structure M3 (w wx : World) (y m d : Int) : Prop where
  d : wx.rowIs (w.heap.size + 2) 38 3 (f3 y m d)
  r : wx.rowIs w.heap.size 38 3 (f3 0 0 0)
  e : wx.rowIs (w.heap.size + 1) 31 2 fN
  b : Below w.heap.size w wx
theorem M3.on {w wx wy : World} {y m d : Int} (h : M3 w wx y m d) (hb : Below wx.heap.size wx wy) : M3 w wy y m d :=
  ⟨row_on h.d hb, row_on h.r hb, row_on h.e hb, h.b.trans (hb.mono h.b.size)⟩
theorem M3.drewN {w wx : World} {y m d : Int} (h : M3 w wx y m d) (n : Nat) : M3 w (wx.drewN n) y m d :=
  ⟨h.d, h.r, h.e, below_drewN h.b _⟩
theorem M3.drew {w wx : World} {y m d : Int} (h : M3 w wx y m d) : M3 w wx.drew y m d :=
  ⟨h.d, h.r, h.e, h.b.drew⟩
theorem M3.set {w wx : World} {y m d y' m' d' : Int} (h : M3 w wx y m d) (i : Nat) (v : Value) (he : ∀ k, k < 3 → (if k = i then v else f3 y m d k) = f3 y' m' d' k) : M3 w (wx.setCell ⟨w.heap.size + 2, i, none⟩ v) y' m' d' :=
  ⟨(h.d.set i v).congr (fun k hk => he k hk), h.r.setOther (by simp) _, h.e.setOther (by simp) _, h.b.setCell (p := ⟨w.heap.size + 2, i, none⟩) (by simp) _⟩


structure M2 (w wx : World) : Prop where
  r : wx.rowIs w.heap.size 38 3 (f3 0 0 0)
  e : wx.rowIs (w.heap.size + 1) 31 2 fN
  b : Below w.heap.size w wx
theorem M2.on {w wx wy : World} (h : M2 w wx) (hb : Below wx.heap.size wx wy) : M2 w wy :=
  ⟨row_on h.r hb, row_on h.e hb, h.b.trans (hb.mono h.b.size)⟩
theorem M2.start (w : World) : M2 w ((w.alloc (.cells #[.int .i64 0, .int .i64 0, .int .i64 0] 38)).alloc (.cells #[.slice none 0 0, .int .i64 0] 31)) := by
  refine ⟨?_, ?_, ?_⟩
  · exact (World.rowIs_alloc w _ 38 _ (fun i hi => by
      rcases (by simp at hi; omega : i = 0 ∨ i = 1 ∨ i = 2) with rfl | rfl | rfl <;> rfl)).alloc _
  · have := World.rowIs_alloc (w.alloc (.cells #[.int .i64 0, .int .i64 0, .int .i64 0] 38)) #[.slice none 0 0, .int .i64 0] 31 fN (fun i hi => by
      rcases (by simp at hi; omega : i = 0 ∨ i = 1) with rfl | rfl <;> rfl)
    simpa using this
  · exact (((Below.refl _ _).alloc (Nat.le_refl _) _).alloc (by simp) _)
theorem M2.facts {w wx : World} (h : M2 w wx) : wx.cell? ⟨w.heap.size, 0, none⟩ = some (.int .i64 0) ∧ wx.cell? ⟨w.heap.size, 1, none⟩ = some (.int .i64 0) ∧ wx.cell? ⟨w.heap.size, 2, none⟩ = some (.int .i64 0) ∧ (∀ i, wx.frozen? ⟨w.heap.size, i, none⟩ = false) ∧ wx.cell? ⟨w.heap.size + 1, 0, none⟩ = some (.slice none 0 0) ∧ wx.cell? ⟨w.heap.size + 1, 1, none⟩ = some (.int .i64 0) ∧ (∀ i, wx.frozen? ⟨w.heap.size + 1, i, none⟩ = false) :=
  ⟨h.r.cell (i := 0) (by omega), h.r.cell (i := 1) (by omega), h.r.cell (i := 2) (by omega), fun i => h.r.frozen i, h.e.cell (i := 0) (by omega), h.e.cell (i := 1) (by omega), fun i => h.e.frozen i⟩
/-- The world once both results are stored. -/
def stored (w W : World) (y m d : Int) (a b : Value) : World := ((((W.setCell ⟨w.heap.size, 0, none⟩ (.int .i64 y)).setCell ⟨w.heap.size, 1, none⟩ (.int .i64 m)).setCell ⟨w.heap.size, 2, none⟩ (.int .i64 d)).setCell ⟨w.heap.size + 1, 0, none⟩ a).setCell ⟨w.heap.size + 1, 1, none⟩ b
theorem stored_below {w W : World} (h : Below w.heap.size w W) (y m d : Int) (a b : Value) : Below w.heap.size w (stored w W y m d a b) :=
  ((((h.setCell (p := ⟨w.heap.size, 0, none⟩) (Nat.le_refl _) _).setCell (p := ⟨w.heap.size, 1, none⟩) (Nat.le_refl _) _).setCell (p := ⟨w.heap.size, 2, none⟩) (Nat.le_refl _) _).setCell (p := ⟨w.heap.size + 1, 0, none⟩) (Nat.le_succ _) _).setCell (p := ⟨w.heap.size + 1, 1, none⟩) (Nat.le_succ _) _
theorem stored_err {w W : World} {v : Value} {o : Option (Int × Int)} (h : M2 w W) (hv : RErr W v o) (y m d : Int) (a b : Value) : RErr (stored w W y m d a b) v o := by
  obtain ⟨r0, _, _, _, s0, _, _⟩ := h.facts
  cases o with
  | none => exact hv
  | some x =>
    obtain ⟨g, k, rfl, h0, h1⟩ := hv
    have n1 : w.heap.size ≠ g := fun e => by rw [← e, r0] at h0; cases h0
    have n2 : w.heap.size + 1 ≠ g := fun e => by rw [← e, s0] at h0; cases h0
    exact ⟨g, k, rfl, (cell_set_off n2).trans ((cell_set_off n2).trans ((cell_set_off n1).trans ((cell_set_off n1).trans ((cell_set_off n1).trans h0)))), (cell_set_off n2).trans ((cell_set_off n2).trans ((cell_set_off n1).trans ((cell_set_off n1).trans ((cell_set_off n1).trans h1))))⟩

end Go.Proofs.YtehgeninocbpeaaDoor.Tm
