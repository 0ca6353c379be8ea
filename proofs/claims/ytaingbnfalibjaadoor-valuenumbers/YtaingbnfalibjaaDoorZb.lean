import Derived.Test.YtaingbnfalibjaaDoorZa
/-
  DERIVED. PrintNumber.
-/
namespace Go.Proofs.YtaingbnfalibjaaDoor
open Go Go.Proofs Go.RowKit NumLine

def prT (a : Nm) : List UInt8 := if a.neg = true then 45 :: shT a else shT a
/-- What PrintNumber leaves, of a number in its one form. -/
def PostR (w : World) (a : Nm) (e : Ending) (w' : World) : Prop := ∃ t v o, e = .returned (.tuple #[.string t, v]) ∧ PErr w' v o ∧ Below w.heap.size w w' ∧ ((t = ba (prT a) ∧ (prT a).length ≤ 16 ∧ o = none) ∨ (16 < (prT a).length ∧ o = some (0, 103)))

theorem shT_len (a : Nm) (hd : a.d < 18446744073709551616) (h1 : -9223372036854775808 ≤ a.e) (h2 : a.e ≤ 9223372036854775807) : (shT a).length ≤ 42 := by
  have hE : (shE a).length ≤ 42 := by
    unfold shE
    have := (dec_len a.d hd).2
    have := itoa_len a.e h1 h2
    simp
    omega
  unfold shT
  split
  · exact hE
  · split
    · omega
    · exact hE

set_option maxRecDepth 100000 in
set_option maxHeartbeats 1000000 in
theorem print_nz (w : World) (a : Nm) (hnz : a.d % 10 ≠ 0) (hd : a.d < 18446744073709551616) (h1 : -9223372036854775808 ≤ a.e) (h2 : a.e ≤ 9223372036854775807) (hp : Pow w) :
    Calls Tryd.prog 7 #[nv a] w (PostR w a) := by
  have c27 := fun W h => shortest_any W a hd h1 h2 h
  have c17 := fun W => refusal_any 0 103 W
  have hl := shT_len a hd h1 h2
  have zT := ba_size (shT a)
  have e1 : ba [45] ++ ba (shT a) = ba (45 :: shT a) := ba_app _ _
  have zT2 := ba_size (45 :: shT a)
  obtain ⟨W0, hW0⟩ : ∃ W0, w.alloc (.cells #[.bool a.neg, .int .u64 (a.d : Int), .int .i64 a.e] 24) = W0 := ⟨_, rfl⟩
  have b0 : Below w.heap.size w W0 := hW0 ▸ (Below.refl _ _).alloc (Nat.le_refl _) _
  have s0 : w.heap.size < W0.heap.size := by rw [← hW0]; simp
  have k0 : W0.cell? ⟨w.heap.size, 0, none⟩ = some (.bool a.neg) := by rw [← hW0]; simp [go_sem]
  have k1 : W0.cell? ⟨w.heap.size, 1, none⟩ = some (.int .u64 (a.d : Int)) := by rw [← hW0]; simp [go_sem]
  have k2 : W0.cell? ⟨w.heap.size, 2, none⟩ = some (.int .i64 a.e) := by rw [← hW0]; simp [go_sem]
  have q0 : Pow W0 := hp.on b0
  unfold nv at *
  have hI : (((a.d : Int) % 10) == 0) = false := by simp; omega
  go_enter Tryd.func7, Tryd.ntmps7
  go_wp2_with (go_at_call 27; refine Stop.mk ?_)
  refine Stop.out ((c27 W0 q0).mono ?_)
  rintro e W1 ⟨rfl, hb1⟩
  have B1 : Hid (Below w.heap.size w W1) := b0.trans (hb1.mono b0.size)
  have m0 : W1.cell? ⟨w.heap.size, 0, none⟩ = some (.bool a.neg) := (hb1.cell (p := ⟨w.heap.size, 0, none⟩) s0).trans k0
  clear hb1 c27 k0 k1 k2 b0 hW0 q0
  cases hneg : a.neg with
  | true =>
    rw [hneg] at m0
    have HP : Hid (prT a = 45 :: shT a) := by show _ = _; unfold prT; rw [if_pos hneg]
    have e1' : (⟨#[45]⟩ : ByteArray) ++ ba (shT a) = ba (45 :: shT a) := e1
    have zT3 : (45 :: shT a).length = (shT a).length + 1 := rfl
    by_cases hk : (45 :: shT a).length ≤ 16
    · have hkI : ((45 :: shT a).length : Int) ≤ 16 := by omega
      go_wp2
      refine bodyPost_ret (v := .tuple #[.string (ba (45 :: shT a)), .nilIface]) (by simp [results, Tryd.results7, go_sem]) rfl ⟨_, _, none, rfl, rfl, B1.out, .inl ⟨by rw [HP.out], by rw [HP.out]; exact hk, rfl⟩⟩
    · have hkI : ¬ (((45 :: shT a).length : Int) ≤ 16) := by omega
      have hkJ : (16 : Int) < ((45 :: shT a).length : Int) := by omega
      go_wp2_with (go_at_call 17; refine Stop.mk ?_)
      refine Stop.out ((c17 _).mono ?_)
      rintro e W2 ⟨v, rfl, hv, hb2⟩
      have HV : Hid (PErr W2 v (some (0, 103))) := hv
      have B2 : Hid (Below w.heap.size w W2) := B1.out.trans (hb2.mono B1.out.size)
      clear hv hb2
      go_wp2
      refine bodyPost_ret (v := .tuple #[.string ⟨#[]⟩, v]) (by simp [results, Tryd.results7, go_sem]) rfl ⟨_, v, _, rfl, HV.out, B2.out, .inr ⟨by rw [HP.out]; omega, rfl⟩⟩
  | false =>
    rw [hneg] at m0
    have HP : Hid (prT a = shT a) := by show _ = _; unfold prT; rw [if_neg (by rw [hneg]; decide)]
    by_cases hk : (shT a).length ≤ 16
    · have hkI : ((shT a).length : Int) ≤ 16 := by omega
      go_wp2
      refine bodyPost_ret (v := .tuple #[.string (ba (shT a)), .nilIface]) (by simp [results, Tryd.results7, go_sem]) rfl ⟨_, _, none, rfl, rfl, B1.out, .inl ⟨by rw [HP.out], by rw [HP.out]; exact hk, rfl⟩⟩
    · have hkI : ¬ (((shT a).length : Int) ≤ 16) := by omega
      have hkJ : (16 : Int) < ((shT a).length : Int) := by omega
      go_wp2_with (go_at_call 17; refine Stop.mk ?_)
      refine Stop.out ((c17 _).mono ?_)
      rintro e W2 ⟨v, rfl, hv, hb2⟩
      have HV : Hid (PErr W2 v (some (0, 103))) := hv
      have B2 : Hid (Below w.heap.size w W2) := B1.out.trans (hb2.mono B1.out.size)
      clear hv hb2
      go_wp2
      refine bodyPost_ret (v := .tuple #[.string ⟨#[]⟩, v]) (by simp [results, Tryd.results7, go_sem]) rfl ⟨_, v, _, rfl, HV.out, B2.out, .inr ⟨by rw [HP.out]; omega, rfl⟩⟩

theorem shT_zero : shT ⟨false, 0, 0⟩ = [48] := by
  have h1 : Lib.decDigits 0 = [48] := by rw [Lib.decDigits_one (by omega)]; rfl
  have h2 : shP ⟨false, 0, 0⟩ = [48] := by unfold shP; rw [if_pos (by decide)]; show pPos (Lib.decDigits 0) 0 = _; rw [h1]; rfl
  unfold shT
  rw [if_neg (by decide), h2, if_pos]
  show 1 ≤ (shE ⟨false, 0, 0⟩).length
  unfold shE
  simp
  omega
set_option maxRecDepth 100000 in
set_option maxHeartbeats 1000000 in
theorem print_zero (w : World) (hp : Pow w) : Calls Tryd.prog 7 #[nv ⟨false, 0, 0⟩] w (PostR w ⟨false, 0, 0⟩) := by
  have c27 := fun W h => shortest_any W ⟨false, 0, 0⟩ (by decide) (by decide) (by decide) h
  rw [shT_zero] at c27
  have HP : Hid (prT ⟨false, 0, 0⟩ = [48]) := by show _ = _; unfold prT; rw [if_neg (by decide), shT_zero]
  have zT := ba_size [48]
  obtain ⟨W0, hW0⟩ : ∃ W0, w.alloc (.cells #[.bool false, .int .u64 0, .int .i64 0] 24) = W0 := ⟨_, rfl⟩
  have b0 : Below w.heap.size w W0 := hW0 ▸ (Below.refl _ _).alloc (Nat.le_refl _) _
  have s0 : w.heap.size < W0.heap.size := by rw [← hW0]; simp
  have k0 : W0.cell? ⟨w.heap.size, 0, none⟩ = some (.bool false) := by rw [← hW0]; simp [go_sem]
  have k1 : W0.cell? ⟨w.heap.size, 1, none⟩ = some (.int .u64 0) := by rw [← hW0]; simp [go_sem]
  have k2 : W0.cell? ⟨w.heap.size, 2, none⟩ = some (.int .i64 0) := by rw [← hW0]; simp [go_sem]
  have q0 : Pow W0 := hp.on b0
  unfold nv at *
  dsimp only at *
  rw [show ((0 : Nat) : Int) = 0 from rfl] at c27 ⊢
  have c27' := c27 W0 q0
  go_enter Tryd.func7, Tryd.ntmps7
  go_wp2_with (go_at_call 27; refine Stop.mk ?_)
  refine Stop.out (c27'.mono ?_)
  rintro e W1 ⟨rfl, hb1⟩
  have B1 : Hid (Below w.heap.size w W1) := b0.trans (hb1.mono b0.size)
  have m0 : W1.cell? ⟨w.heap.size, 0, none⟩ = some (.bool false) := (hb1.cell (p := ⟨w.heap.size, 0, none⟩) s0).trans k0
  clear hb1 c27 c27' k0 k1 k2 b0 hW0 q0
  go_wp2
  refine bodyPost_ret (v := .tuple #[.string (ba [48]), .nilIface]) (by simp [results, Tryd.results7, go_sem]) rfl ⟨_, _, none, rfl, rfl, B1.out, .inl ⟨by rw [HP.out], by rw [HP.out]; decide, rfl⟩⟩
theorem print_any (w : World) (a : Nm) (hc : Canon a) (hd : a.d < 18446744073709551616) (h1 : -9223372036854775808 ≤ a.e) (h2 : a.e ≤ 9223372036854775807) (hp : Pow w) :
    Calls Tryd.prog 7 #[nv a] w (PostR w a) := by
  rcases hc with ⟨hz, hn, he⟩ | hc
  · obtain ⟨n, d, x⟩ := a
    dsimp only at hz hn he
    subst hz hn he
    exact print_zero w hp
  · exact print_nz w a hc hd h1 h2 hp
end Go.Proofs.YtaingbnfalibjaaDoor
