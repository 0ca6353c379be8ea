import Derived.Test.YtggdlagopgpnhaaDoorQ
/-
  DERIVED. The document's number of a day.
-/
namespace Go.Proofs.YtggdlagopgpnhaaDoor
open Go Go.Proofs Go.RowKit

theorem none34_any (w : World) : Calls Tryd.prog 34 #[] w fun e w' => e = .returned (.agg #[.slice none 0 0, .int .i64 0]) ∧ Below w.heap.size w w' := by
  obtain ⟨W0, hW0⟩ : ∃ W0, w.alloc (.cells #[.slice none 0 0, .int .i64 0] 37) = W0 := ⟨_, rfl⟩
  have HB : Hid (Below w.heap.size w W0) := hW0 ▸ (Below.refl _ _).alloc (Nat.le_refl _) _
  have a0 : W0.cell? ⟨w.heap.size, 0, none⟩ = some (.slice none 0 0) := by rw [← hW0]; simp
  have a1 : W0.cell? ⟨w.heap.size, 1, none⟩ = some (.int .i64 0) := by rw [← hW0]; simp
  have af : ∀ i, W0.frozen? ⟨w.heap.size, i, none⟩ = false := fun i => by rw [← hW0]; simp
  go_enter Tryd.func34, Tryd.ntmps34
  go_wp2
  refine bodyPost_ret (v := .agg #[.slice none 0 0, .int .i64 0]) (by simp [results, Tryd.results34, go_sem, a0, a1]) rfl ?_
  exact ⟨rfl, (HB.out.setCell (p := ⟨w.heap.size, 0, none⟩) (Nat.le_refl _) _).setCell (p := ⟨w.heap.size, 1, none⟩) (Nat.le_refl _) _⟩

theorem row_on {w w' : World} {r : Nat} {t : TypeId} {n : Nat} {f : Nat → Value} (h : w.rowIs r t n f) (hb : Below w.heap.size w w') : w'.rowIs r t n f :=
  row_kept (q := r + 1) h (grown_below (grown_refl _ _) hb) (by omega)

def fN : Nat → Value := fun k => if k = 0 then .slice none 0 0 else .int .i64 0

theorem RErr.keep {w w' : World} {p : Nat} {v : Value} {o : Option (Int × Int)} (h : RErr w v o) (hp : ∀ s, w.cell? ⟨p, 0, none⟩ ≠ some (.string s)) (hk : ∀ g i, g ≠ p → w'.cell? ⟨g, i, none⟩ = w.cell? ⟨g, i, none⟩) : RErr w' v o := by
  cases o with
  | none => exact h
  | some x =>
    obtain ⟨g, k, rfl, h0, h1⟩ := h
    have hg : g ≠ p := fun e => hp _ (e ▸ h0)
    exact ⟨g, k, rfl, (hk g 0 hg).trans h0, (hk g 1 hg).trans h1⟩

theorem uf_is (y m d : Int) : uf y m d = -1 ∨ (0 ≤ uf y m d ∧ uf y m d ≤ 2) := by
  unfold uf
  by_cases h1 : y < 1 ∨ 9999 < y
  · rw [if_pos h1]; omega
  · by_cases h2 : m < 1 ∨ 12 < m
    · rw [if_neg h1, if_pos h2]; omega
    · rw [if_neg h1, if_neg h2]
      split <;> omega

def PostF (w : World) (V : Value) (o : Option (Int × Int)) (e : Ending) (w' : World) : Prop := ∃ v, e = .returned (.tuple #[V, v]) ∧ RErr w' v o ∧ Below w.heap.size w w'

set_option maxRecDepth 100000 in
set_option maxHeartbeats 1000000 in
theorem count37_any (w : World) (y m d : Nat) (hd : Day y m d) : Calls Tryd.prog 37 #[dv y m d] w fun e w' => e = .returned (.int .i64 (num y m d : Nat)) ∧ Below w.heap.size w w' := by
  obtain ⟨hy1, hy2, hm1, hm2, hd1, hd2⟩ := hd
  have hd31 : d ≤ 31 := Nat.le_trans hd2 (md_le y m)
  obtain ⟨W, hW⟩ : ∃ W, w.alloc (.cells #[.int .i64 (y : Int), .int .i64 (m : Int), .int .i64 (d : Int)] 23) = W := ⟨_, rfl⟩
  have HB : Hid (Below w.heap.size w W) := hW ▸ (Below.refl _ _).alloc (Nat.le_refl _) _
  have q0 : W.cell? ⟨w.heap.size, 0, none⟩ = some (.int .i64 (y : Int)) := by rw [← hW]; simp
  have q1 : W.cell? ⟨w.heap.size, 1, none⟩ = some (.int .i64 (m : Int)) := by rw [← hW]; simp
  have q2 : W.cell? ⟨w.heap.size, 2, none⟩ = some (.int .i64 (d : Int)) := by rw [← hW]; simp
  have HE : Hid (num y m d = dA y + cu y (m - 1) + d - 1) := by show _ = _; unfold num; omega
  generalize num y m d = N at *
  clear hd2
  unfold dv
  go_enter Tryd.func37, Tryd.ntmps37
  go_wp2
  go_loopg [3, 4] (y - 1) (fun g s3 s4 wx => ∃ k : Nat, s4 = .int .i64 (k : Int) ∧ 1 ≤ k ∧ k ≤ y ∧ g + k = y ∧ (∃ S : Nat, s3 = .int .i64 (S : Int) ∧ S ≤ 3700000 ∧ Hid (S = dA k)) ∧ W = wx)
  case atStart => exact ⟨1, rfl, by omega, by omega, by omega, ⟨0, rfl, by omega, by show 0 = dA 1; decide⟩, rfl⟩
  case round =>
    obtain ⟨k, rfl, hk1, hky, hg, ⟨S, rfl, hS, HS⟩, rfl⟩ := hrel
    by_cases hk : k < y
    · have hkI : (k : Int) < (y : Int) := by omega
      have c := year38_any W k
      have HS2 : Hid (S + yl k = dA (k + 1)) := by
        show _ = _
        rw [dA_next k hk1, ← HS.out]
        rfl
      have hS2 : S + yl k ≤ 3700000 := by
        rw [HS2.out]
        have := dA_le (y := k + 1) (by omega)
        omega
      generalize yl k = L at *
      have hLS : L ≤ 3700000 := by omega
      go_wp2_with (go_at_call 38; refine c.mono ?_; rintro e w' ⟨rfl, rfl⟩)
      go_roundg (y - (k + 1))
      case measure => omega
      case rel => exact ⟨k + 1, by simp, by omega, by omega, by omega, ⟨S + L, by simp, hS2, HS2⟩, rfl⟩
    · obtain rfl : k = y := by omega
      have hkI : ¬ ((k : Int) < (k : Int)) := by omega
      go_wp2
      go_loopg [3, 5] (m - 1) (fun g s3 s5 wx => ∃ j : Nat, s5 = .int .i64 (j : Int) ∧ 1 ≤ j ∧ j ≤ m ∧ g + j = m ∧ (∃ S : Nat, s3 = .int .i64 (S : Int) ∧ S ≤ 3700000 ∧ Hid (S = dA k + cu k (j - 1))) ∧ W = wx)
      case atStart => exact ⟨1, rfl, by omega, by omega, by omega, ⟨S, rfl, hS, by show _ = _; rw [HS.out]; rfl⟩, rfl⟩
      case round =>
        obtain ⟨j, rfl, hj1, hjm, hg, ⟨T, rfl, hT, HT⟩, rfl⟩ := hrel
        by_cases hj : j < m
        · have hjI : (j : Int) < (m : Int) := by omega
          have c := month39_any W k j hj1 (by omega)
          have HT2 : Hid (T + md k j = dA k + cu k (j + 1 - 1)) := by
            obtain ⟨i, rfl⟩ : ∃ i, j = i + 1 := ⟨j - 1, by omega⟩
            show _ = _
            rw [HT.out, show i + 1 + 1 - 1 = i + 1 by omega, show i + 1 - 1 = i by omega, cu]
            omega
          have hT2 : T + md k j ≤ 3700000 := by
            rw [HT2.out]
            have := cu_le k (j + 1 - 1)
            have := dA_le (y := k) (by omega)
            omega
          generalize md k j = L at *
          have hLS : L ≤ 3700000 := by omega
          go_wp2_with (go_at_call 39; refine c.mono ?_; rintro e w' ⟨rfl, rfl⟩)
          go_roundg (m - (j + 1))
          case measure => omega
          case rel => exact ⟨j + 1, by simp, by omega, by omega, by omega, ⟨T + L, by simp, hT2, HT2⟩, rfl⟩
        · obtain rfl : j = m := by omega
          have hjI : ¬ ((j : Int) < (j : Int)) := by omega
          have HN : Hid ((T : Int) + (d : Int) - 1 = (N : Int)) := by
            have h1 := HT.out
            have h2 := HE.out
            show _ = _
            omega
          go_wp2
          refine bodyPost_ret (v := .int .i64 ((T : Int) + (d : Int) - 1)) (by simp [results, Tryd.results37, go_sem]) rfl ⟨by rw [HN.out], HB.out⟩

set_option maxRecDepth 100000 in
set_option maxHeartbeats 1000000 in
theorem dnum13_any (w : World) (y m d : Int) : Calls Tryd.prog 13 #[dv y m d] w (PostF w (.int .i64 (if uf y m d = -1 then (num y.toNat m.toNat d.toNat : Int) else 0)) (if uf y m d = -1 then none else some (uf y m d, 102))) := by
  obtain ⟨W1, hW1⟩ : ∃ W1, w.alloc (.cells #[.int .i64 y, .int .i64 m, .int .i64 d] 23) = W1 := ⟨_, rfl⟩
  have hs1 : W1.heap.size = w.heap.size + 1 := by rw [← hW1]; simp
  obtain ⟨W2, hW2⟩ : ∃ W2, W1.alloc (.cells #[.slice none 0 0, .int .i64 0] 37) = W2 := ⟨_, rfl⟩
  have hs2 : W2.heap.size = w.heap.size + 2 := by rw [← hW2]; simp [hs1]
  have HB : Hid (Below w.heap.size w W2) := hW2 ▸ (hW1 ▸ (Below.refl _ _).alloc (Nat.le_refl _) _ : Below w.heap.size w W1).alloc (by omega) _
  have HD : Hid (W2.rowIs w.heap.size 23 3 (f3 y m d)) := by
    rw [← hW2, ← hW1]
    exact (World.rowIs_alloc w _ 23 _ (fun i hi => by
      rcases (by simp at hi; omega : i = 0 ∨ i = 1 ∨ i = 2) with rfl | rfl | rfl <;> rfl)).alloc _
  have HR : Hid (W2.rowIs (w.heap.size + 1) 37 2 fN) := by
    rw [← hW2, ← hs1]
    exact World.rowIs_alloc W1 _ 37 _ (fun i hi => by
      rcases (by simp at hi; omega : i = 0 ∨ i = 1) with rfl | rfl <;> rfl)
  have q0 : W2.cell? ⟨w.heap.size, 0, none⟩ = some (.int .i64 y) := HD.out.cell (i := 0) (by omega)
  have q1 : W2.cell? ⟨w.heap.size, 1, none⟩ = some (.int .i64 m) := HD.out.cell (i := 1) (by omega)
  have q2 : W2.cell? ⟨w.heap.size, 2, none⟩ = some (.int .i64 d) := HD.out.cell (i := 2) (by omega)
  have c35 := dayNo_any W2 y m d
  by_cases hu : uf y m d = -1
  · rw [if_pos hu, if_pos hu]
    have hD : ∃ yn mn dn : Nat, y = yn ∧ m = mn ∧ d = dn ∧ Day yn mn dn := by
      unfold uf at hu
      split at hu
      · omega
      · split at hu
        · omega
        · split at hu
          · omega
          · rename_i h1 h2 h3
            refine ⟨y.toNat, m.toNat, d.toNat, by omega, by omega, by omega, ?_⟩
            exact ⟨by omega, by omega, by omega, by omega, by omega, by omega⟩
    obtain ⟨yn, mn, dn, rfl, rfl, rfl, hday⟩ := hD
    have c37 := fun W' => count37_any W' yn mn dn hday
    rw [hu] at c35
    rw [Int.toNat_natCast, Int.toNat_natCast, Int.toNat_natCast]
    generalize num yn mn dn = N at *
    clear hu hday
    unfold dv at *
    go_enter Tryd.func13, Tryd.ntmps13
    go_wp2_with (go_at_call 35; refine Stop.mk ?_)
    refine Stop.out (c35.mono ?_)
    rintro e W3 ⟨rfl, hb3⟩
    have HD3 : Hid (W3.rowIs w.heap.size 23 3 (f3 yn mn dn)) := row_on HD.out hb3
    have HR3 : Hid (W3.rowIs (w.heap.size + 1) 37 2 fN) := row_on HR.out hb3
    have HB3 : Hid (Below w.heap.size w W3) := HB.out.trans (hb3.mono HB.out.size)
    clear c35 q0 q1 q2 hb3 HD HR HB hW1 hW2
    have q0 : W3.cell? ⟨w.heap.size, 0, none⟩ = some (.int .i64 yn) := HD3.out.cell (i := 0) (by omega)
    have q1 : W3.cell? ⟨w.heap.size, 1, none⟩ = some (.int .i64 mn) := HD3.out.cell (i := 1) (by omega)
    have q2 : W3.cell? ⟨w.heap.size, 2, none⟩ = some (.int .i64 dn) := HD3.out.cell (i := 2) (by omega)
    have c := c37 W3
    go_wp2_with (go_at_call 37; refine Stop.mk ?_)
    refine Stop.out (c.mono ?_)
    rintro e W4 ⟨rfl, hb4⟩
    have HR4 : Hid (W4.rowIs (w.heap.size + 1) 37 2 fN) := row_on HR3.out hb4
    have HB4 : Hid (Below w.heap.size w W4) := HB3.out.trans (hb4.mono HB3.out.size)
    clear c c37 hb4 q0 q1 q2 HR3 HB3 HD3
    have c := none34_any W4
    go_wp2_with (go_at_call 34; refine Stop.mk ?_)
    refine Stop.out (c.mono ?_)
    rintro e W5 ⟨rfl, hb5⟩
    have HR5 : Hid (W5.rowIs (w.heap.size + 1) 37 2 fN) := row_on HR4.out hb5
    have HB5 : Hid (Below w.heap.size w W5) := HB4.out.trans (hb5.mono HB4.out.size)
    clear c hb5 HR4 HB4
    have r0 : W5.cell? ⟨w.heap.size + 1, 0, none⟩ = some (.slice none 0 0) := HR5.out.cell (i := 0) (by omega)
    have r1 : W5.cell? ⟨w.heap.size + 1, 1, none⟩ = some (.int .i64 0) := HR5.out.cell (i := 1) (by omega)
    have rf : ∀ i, W5.frozen? ⟨w.heap.size + 1, i, none⟩ = false := fun i => HR5.out.frozen i
    go_wp2
    refine bodyPost_ret (v := .tuple #[.int .i64 (N : Int), .agg #[.slice none 0 0, .int .i64 0]]) (by simp [results, Tryd.results13, go_sem, r0, r1]) rfl ⟨_, rfl, rfl, ?_⟩
    exact (HB5.out.setCell (p := ⟨w.heap.size + 1, 0, none⟩) (Nat.le_succ _) _).setCell (p := ⟨w.heap.size + 1, 1, none⟩) (Nat.le_succ _) _
  · rw [if_neg hu, if_neg hu]
    have hu0 : 0 ≤ uf y m d := (uf_is y m d).resolve_left hu |>.1
    generalize uf y m d = U at *
    have c32 := fun W' => no_any U 102 W'
    have hUI : (0 : Int) ≤ U := hu0
    clear hu
    unfold dv at *
    go_enter Tryd.func13, Tryd.ntmps13
    go_wp2_with (go_at_call 35; refine Stop.mk ?_)
    refine Stop.out (c35.mono ?_)
    rintro e W3 ⟨rfl, hb3⟩
    have HR3 : Hid (W3.rowIs (w.heap.size + 1) 37 2 fN) := row_on HR.out hb3
    have HB3 : Hid (Below w.heap.size w W3) := HB.out.trans (hb3.mono HB.out.size)
    clear c35 q0 q1 q2 hb3 HD HR HB hW1 hW2
    have c := c32 W3
    go_wp2_with (go_at_call 32; refine Stop.mk ?_)
    refine Stop.out (c.mono ?_)
    rintro e W5 ⟨v, rfl, hv, hb5⟩
    have HR5 : Hid (W5.rowIs (w.heap.size + 1) 37 2 fN) := row_on HR3.out hb5
    have HB5 : Hid (Below w.heap.size w W5) := HB3.out.trans (hb5.mono HB3.out.size)
    clear c c32 hb5 HR3 HB3
    have r0 : W5.cell? ⟨w.heap.size + 1, 0, none⟩ = some (.slice none 0 0) := HR5.out.cell (i := 0) (by omega)
    have r1 : W5.cell? ⟨w.heap.size + 1, 1, none⟩ = some (.int .i64 0) := HR5.out.cell (i := 1) (by omega)
    have rf : ∀ i, W5.frozen? ⟨w.heap.size + 1, i, none⟩ = false := fun i => HR5.out.frozen i
    have HV : Hid (RErr W5 v (some (U, 102))) := hv
    obtain ⟨g, k, rfl, _, _⟩ := hv
    go_wp2
    refine bodyPost_ret (v := .tuple #[.int .i64 0, .agg #[.slice (some ⟨g, 0, none⟩) 1 k, .int .i64 102]]) (by simp [results, Tryd.results13, go_sem, r0, r1]) rfl ⟨_, rfl, ?_, ?_⟩
    · exact HV.out.keep (p := w.heap.size + 1) (fun s => by rw [r0]; simp) (fun g i hg => (cell_set_off (Ne.symm hg)).trans (cell_set_off (Ne.symm hg)))
    · exact (HB5.out.setCell (p := ⟨w.heap.size + 1, 0, none⟩) (Nat.le_succ _) _).setCell (p := ⟨w.heap.size + 1, 1, none⟩) (Nat.le_succ _) _
end Go.Proofs.YtggdlagopgpnhaaDoor
