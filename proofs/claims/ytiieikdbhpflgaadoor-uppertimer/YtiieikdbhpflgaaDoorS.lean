import Derived.Test.YtiieikdbhpflgaaDoorR
import Derived.Deep.Cut
/-
  DERIVED. A provider that a connection has come to.
-/
namespace Go.Proofs.YtiieikdbhpflgaaDoor
open Go Go.Proofs Go.RowKit

set_option maxRecDepth 100000 in
theorem answer_any (w : World) (p e : Value) (x : Int) : Calls Tryd.prog 69 #[p, e, .int .i64 x] w fun r w' => r = .returned (.slice (some ⟨w.heap.size, 0, none⟩) 1 1) ∧ Below w.heap.size w w' := by
  go_enter Tryd.func69, Tryd.ntmps69
  go_wp2
  go_ret
  exact ⟨rfl, (Below.refl _ _).alloc (Nat.le_refl _) _⟩

set_option maxRecDepth 100000 in
theorem complete5 (w : World) (E : Nat) (h0 : w.cell? ⟨E, 0, none⟩ = some (.int .i64 5)) (hN : w.cell? ⟨2, 5, none⟩ = some (.int .u8 0)) : Calls Tryd.prog 32 #[.pointer (some ⟨E, 0, none⟩)] w fun r w' => r = .returned (.bool true) ∧ w' = w := by
  go_enter Tryd.func32, Tryd.ntmps32
  go_wp2
  go_ret
  exact ⟨rfl, rfl⟩

theorem turn1 (w : World) (q : Nat) (a l : Int) (h0 : w.cell? ⟨q, 0, none⟩ = some (.int .i64 a)) (h1 : w.cell? ⟨q, 1, none⟩ = some (.int .i64 l)) (hf : w.frozen? ⟨q, 1, none⟩ = false) : Calls Tryd.prog 55 #[.pointer (some ⟨q, 0, none⟩), .int .i64 1] w fun r w' => (∃ v, r = .returned v) ∧ w' = w.setCell ⟨q, 1, none⟩ (.int .i64 a) := by
  go_enter Tryd.func55, Tryd.ntmps55
  go_wp2
  exact bodyPost_end (results_none rfl _ _ _) rfl ⟨⟨_, rfl⟩, rfl⟩

theorem store_fn (f : Nat) (W : World) (ad : Addr) (u : Value) (h : W.cell? ad = some u) (hf : W.frozen? ad = false) : (store ad (.func (.func f) #[] #[])).run Tryd.prog W = .ok () (W.setCell ad (.func (.func f) #[] #[])) := by
  rw [run_store Tryd.prog W ad _ _ rfl, h]
  simp [hf]

theorem cell_al2 {w : World} {a : Addr} {v : Value} (o : Obj) (h : w.cell? a = some v) : (w.alloc o).cell? a = some v := (((Below.refl w.heap.size w).alloc (Nat.le_refl _) o).cell (cell_lt h)).trans h
theorem row5 : rowA (whichA 5 false false) = .agg #[.func (.func 69) #[] #[], .int .i64 0, .int .i64 1, .int .i64 2] := by kernel_rfl

set_option maxRecDepth 100000 in
set_option maxHeartbeats 4000000 in
theorem act5_any (w : World) (q E : Nat) (hp : Pv w q 1 0 1 false) (hf : ∀ i, w.frozen? ⟨q, i, none⟩ = false) (hE : w.cell? ⟨E, 20, none⟩ = some (.bool false)) (hqE : q < w.heap.size) :
    Calls Tryd.prog 33 #[.pointer (some ⟨q, 0, none⟩), .int .i64 5, .pointer (some ⟨E, 0, none⟩)] w fun r w' => (∃ v, r = .returned (.slice v 1 1)) ∧ Below q w w' := by
  obtain ⟨h0, h1, h2, h3⟩ := hp
  have ha : ∀ W : World, Calls Tryd.prog 29 #[.int .i64 5, .bool false, .bool false] W fun x w' => x = .returned (.agg #[.func (.func 69) #[] #[], .int .i64 0, .int .i64 1, .int .i64 2]) ∧ Below W.heap.size W w' := fun W => by
    have := actionOf_any W 5 false false (by omega) (by omega)
    rw [row5] at this
    exact this
  have hst : ∀ (W : World) (A : Array Value) (g : Nat), (A[0]?).isSome = true → g = W.heap.size → (store ⟨g, 0, none⟩ (.func (.func 69) #[] #[])).run Tryd.prog (W.alloc (.cells A 95)) = .ok () ((W.alloc (.cells A 95)).setCell ⟨g, 0, none⟩ (.func (.func 69) #[] #[])) := fun W A g h hg => by
    subst hg
    obtain ⟨u, hu⟩ := Option.isSome_iff_exists.1 h
    exact store_fn 69 _ _ u (by rw [cell_of_row _ _ _ _ _ _ (alloc_new W _)]; exact hu) (by simp)
  have hEa := fun ob => cell_al2 ob hE
  have h3a := fun ob => cell_al2 ob h3
  go_enter Tryd.func33, Tryd.ntmps33
  go_wp2
  go_cut [7] from 9 (fun s7 wx => ∃ T, s7 = .pointer (some ⟨T, 0, none⟩) ∧ Hid (Below w.heap.size w wx) ∧ Hid (w.heap.size ≤ T ∧ T < wx.heap.size) ∧ Hid (wx.cell? ⟨T, 0, none⟩ = some (.func (.func 69) #[] #[]) ∧ wx.cell? ⟨T, 1, none⟩ = some (.int .i64 0) ∧ wx.cell? ⟨T, 2, none⟩ = some (.int .i64 1) ∧ wx.cell? ⟨T, 3, none⟩ = some (.int .i64 2)))
  case first =>
    go_region_with (go_at_call 29; refine (ha _).mono ?_; rintro x W1 ⟨rfl, hb1d⟩; first | (have hb1 : Below w.heap.size w W1 := ⟨hb1d.os, hb1d.tape, hb1d.output, hb1d.size, hb1d.block⟩) | (have hb1 : Below w.heap.size w W1 := (((Below.refl _ w).alloc (Nat.le_refl _) _).drew).trans (hb1d.mono (by simp)); have m0 : W1.cell? ⟨w.heap.size, 0, none⟩ = some .nilFunc := (hb1d.cell (p := ⟨w.heap.size, 0, none⟩) (by simp)).trans (by simp); have m1 : W1.cell? ⟨w.heap.size, 1, none⟩ = some (.int .i64 0) := (hb1d.cell (p := ⟨w.heap.size, 1, none⟩) (by simp)).trans (by simp); have m2 : W1.cell? ⟨w.heap.size, 2, none⟩ = some (.int .i64 0) := (hb1d.cell (p := ⟨w.heap.size, 2, none⟩) (by simp)).trans (by simp); have m3 : W1.cell? ⟨w.heap.size, 3, none⟩ = some (.int .i64 0) := (hb1d.cell (p := ⟨w.heap.size, 3, none⟩) (by simp)).trans (by simp); have mf : ∀ i, W1.frozen? ⟨w.heap.size, i, none⟩ = false := fun i => (hb1d.frozen (p := ⟨w.heap.size, i, none⟩) (by simp)).trans (by simp); have ms := store_fn 69 W1 ⟨w.heap.size, 0, none⟩ _ m0 (mf 0)); have k0 := (hb1.cell (p := ⟨q, 0, none⟩) hqE).trans h0; have k1 := (hb1.cell (p := ⟨q, 1, none⟩) hqE).trans h1; have k2 := (hb1.cell (p := ⟨q, 2, none⟩) hqE).trans h2; have k3 := (hb1.cell (p := ⟨q, 3, none⟩) hqE).trans h3; have kf := fun i => (hb1.frozen (p := ⟨q, i, none⟩) hqE).trans (hf i))
    all_goals
      go_wp2
      go_meet
      case rel =>
        first
        | exact ⟨W1.heap.size, rfl, hb1.alloc hb1.size _, ⟨hb1.size, by simp⟩, (cell_of_row _ _ _ _ _ _ (alloc_new W1 _)).trans rfl, (cell_of_row _ _ _ _ _ _ (alloc_new W1 _)).trans rfl, (cell_of_row _ _ _ _ _ _ (alloc_new W1 _)).trans rfl, (cell_of_row _ _ _ _ _ _ (alloc_new W1 _)).trans rfl⟩
        | exact ⟨w.heap.size, rfl, ((((hb1.setCell (p := ⟨w.heap.size, 0, none⟩) (Nat.le_refl _) _).setCell (p := ⟨w.heap.size, 1, none⟩) (Nat.le_refl _) _).setCell (p := ⟨w.heap.size, 2, none⟩) (Nat.le_refl _) _).setCell (p := ⟨w.heap.size, 3, none⟩) (Nat.le_refl _) _), ⟨Nat.le_refl _, by have := cell_lt m0; simpa using this⟩, (cell_set_ne (by omega)).trans ((cell_set_ne (by omega)).trans ((cell_set_ne (by omega)).trans (cell_set_eq m0))), (cell_set_ne (by omega)).trans ((cell_set_ne (by omega)).trans (cell_set_eq ((cell_set_ne (by omega)).trans m1))), (cell_set_ne (by omega)).trans (cell_set_eq ((cell_set_ne (by omega)).trans ((cell_set_ne (by omega)).trans m2))), cell_set_eq ((cell_set_ne (by omega)).trans ((cell_set_ne (by omega)).trans ((cell_set_ne (by omega)).trans m3)))⟩
  case rest =>
    obtain ⟨T, rfl, HB, HT, HC⟩ := hcut
    obtain ⟨c0, c1, c2, c3⟩ := HC.out
    have k0 := (HB.out.cell (p := ⟨q, 0, none⟩) hqE).trans h0
    have k1 := (HB.out.cell (p := ⟨q, 1, none⟩) hqE).trans h1
    have k2 := (HB.out.cell (p := ⟨q, 2, none⟩) hqE).trans h2
    have kf := fun i => (HB.out.frozen (p := ⟨q, i, none⟩) hqE).trans (hf i)
    have hTl := HT.out.2
    have hql : q < wc.heap.size := Nat.lt_of_lt_of_le hqE HB.out.size
    clear h0 h1 h2 h3 hst ha hEa h3a HC
    go_wp2_with (go_at_call 69; refine (answer_any _ _ _ _).mono ?_; rintro x W2 ⟨rfl, hb2⟩; have d2 := (hb2.cell (p := ⟨T, 2, none⟩) hTl).trans c2; have d3 := (hb2.cell (p := ⟨T, 3, none⟩) hTl).trans c3; have j0 := (hb2.cell (p := ⟨q, 0, none⟩) hql).trans k0; have j1 := (hb2.cell (p := ⟨q, 1, none⟩) hql).trans k1; have j2 := (hb2.cell (p := ⟨q, 2, none⟩) hql).trans k2; have jf := fun i => (hb2.frozen (p := ⟨q, i, none⟩) hql).trans (kf i))
    go_region_with (go_at_call 55; refine (turn1 _ q 1 0 (by simpa using j0) (by simpa using j1) (by simpa using jf 1)).mono ?_; rintro x W3 ⟨⟨v3, rfl⟩, rfl⟩)
    all_goals
      go_wp2
      go_ret
      exact ⟨⟨_, rfl⟩, ((((HB.out.mono (Nat.le_of_lt hqE)).trans (hb2.mono (Nat.le_of_lt hql))).setCell (p := ⟨q, 1, none⟩) (Nat.le_refl _) _).setCell (p := ⟨q, 2, none⟩) (Nat.le_refl _) _).drew⟩

set_option maxRecDepth 100000 in
set_option maxHeartbeats 1000000 in
theorem do_opened (w : World) (q : Nat) (Q : Array Value) (hQ : Q[0]? = some (.int .i64 5)) (hQ2 : Q[20]? = some (.bool false)) (hT : Tb w) (hN : w.cell? ⟨2, 5, none⟩ = some (.int .u8 0)) (hp : Pv w q 1 0 1 false) (hf : ∀ i, w.frozen? ⟨q, i, none⟩ = false) :
    Calls Tryd.prog 13 #[.pointer (some ⟨q, 0, none⟩), .agg Q] w fun e w' => (∃ v, e = .returned (.slice v 1 1)) ∧ Below q w w' := by
  obtain ⟨W1, hW1⟩ : ∃ W1, w.alloc (.cells Q 50) = W1 := ⟨_, rfl⟩
  have hb1 : Below w.heap.size w W1 := hW1 ▸ (Below.refl _ _).alloc (Nat.le_refl _) _
  have hq : q < w.heap.size := cell_lt hp.1
  have g2 := (hb1.cell (p := ⟨q, 2, none⟩) hq).trans hp.2.2.1
  have k0 : W1.cell? ⟨w.heap.size, 0, none⟩ = some (.int .i64 5) := by
    rw [← hW1, cell_of_row _ _ _ _ _ _ (alloc_new w _)]; exact hQ
  have k20 : W1.cell? ⟨w.heap.size, 20, none⟩ = some (.bool false) := by
    rw [← hW1, cell_of_row _ _ _ _ _ _ (alloc_new w _)]; exact hQ2
  have h8 : Calls Tryd.prog 8 #[.int .i64 1, .int .i64 5] W1.drew fun x w' => x = .returned (.int .i64 5) ∧ w' = W1.drew := by
    have := act_both W1.drew 1 5 (hT.on hb1.drew)
    rwa [show actR 1 5 = 5 by rfl] at this
  have hN1 := (hb1.cell (p := ⟨2, 5, none⟩) (cell_lt hN)).trans hN
  have h32 := complete5 W1.drew w.heap.size (by simpa using k0) (by simpa using hN1)
  have hp1 : Pv W1.drew q 1 0 1 false := hp.on hb1.drew
  have h33 := act5_any W1.drew q w.heap.size hp1 (fun i => by simpa using (hb1.frozen (p := ⟨q, i, none⟩) hq).trans (hf i)) (by simpa using k20) (Nat.lt_of_lt_of_le hq hb1.size)
  go_enter Tryd.func13, Tryd.ntmps13
  go_wp2
  go_region_with (go_at_call 8; refine h8.mono ?_; rintro x W ⟨rfl, rfl⟩)
  all_goals
    go_wp2_with (first | (go_at_call 32; refine h32.mono ?_; rintro x W ⟨rfl, rfl⟩) | (go_at_call 33; refine h33.mono ?_; rintro x W ⟨⟨v, rfl⟩, hb⟩))
    go_ret
    exact ⟨⟨_, rfl⟩, ((hb1.mono (Nat.le_of_lt hq)).drew).trans hb⟩
end Go.Proofs.YtiieikdbhpflgaaDoor
