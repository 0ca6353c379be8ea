import Derived.Test.YtfoodjhffehgpaaGreatDoorRL
/-
  DERIVED. VROf, the program's and the document's.
-/
namespace Go.Proofs.YtfoodjhffehgpaaGreatDoor.Rp
open Go Go.Proofs Go.RowKit

set_option maxRecDepth 100000 in
set_option maxHeartbeats 1000000 in
theorem vrof_any (w : World) (s : ByteArray) (R : Nat) (hR : fnd s 28 1 = R) : Calls Tryz.prog 253 #[.string s] w fun e w' => ∃ ve, e = .returned (.tuple #[.int .i64 (R : Int), ve]) ∧ PErr w' ve (decide (R = 0)) ∧ Below w.heap.size w w' := by
  have HR : Hid (fnd s 28 1 = R) := hR
  clear hR
  have c26 := reps_any w
  have HIX : Hid (∀ (k : Nat), k < 29 → ∃ cf ff, FunV cf ∧ FunV ff ∧ ∀ W, (Instr.index 189 (.agg repsC) (.int .i64 (k : Int))).run Tryz.prog W = .ok (.agg #[.string (nm k), .int .u8 (pd k), .int .i64 (un k), .int .i64 (mo k), .bool (tx k), .bool (ch k), .bool (mu k), .bool (lo k), cf, ff]) W) := by
    intro k hk
    obtain ⟨cf, ff, h1, h2, h3⟩ := row_shape ⟨k, hk⟩
    refine ⟨cf, ff, h1, h2, fun W => ?_⟩
    have := idx_at ⟨k, hk⟩ W
    simp only at this h3
    rw [h3] at this
    exact this
  have HB1 : Hid (Below w.heap.size w (w.alloc (.cells repsC 189))) := (Below.refl _ _).alloc (Nat.le_refl _) _
  generalize repsC = C at c26 HIX HB1
  go_enter Tryz.func253, Tryz.ntmps253
  go_wp2_with (go_at_call 103; fail)
  refine c26.mono ?_
  rintro e W1 ⟨rfl, rfl⟩
  clear c26
  go_wp2
  go_loopw [7] (fun x wr => ∃ k : Nat, x = .int .i64 (k : Int) ∧ k ≤ 29 ∧ Hid (k = 0 ∨ fnd s (29 - k) k = R) ∧ Hid (Below w.heap.size w wr)) (fun x _ => 100 - (intOf x).toNat)
  case atStart => exact ⟨0, rfl, by omega, .inl rfl, HB1⟩
  case round =>
    obtain ⟨k, rfl, hk, HK, HBr⟩ := hrel
    by_cases hk29 : k < 29
    · obtain ⟨cf, ff, hcf, hff, hix⟩ := HIX.out k hk29
      have HN : Hid (∃ h : Bool, h = hit s k ∧ (0 < k → h = true → R = k) ∧ (0 < k → h = false → fnd s (29 - (k + 1)) (k + 1) = R)) := by
        refine ⟨_, rfl, fun h0 h1 => ?_, fun h0 h1 => ?_⟩
        · have := HK.out.resolve_left (by omega)
          rw [show 29 - k = (28 - k) + 1 by omega, fnd, if_pos h1] at this
          exact this.symm
        · have := HK.out.resolve_left (by omega)
          rw [show 29 - k = (28 - k) + 1 by omega, fnd, if_neg (by rw [h1]; decide)] at this
          rw [show 29 - (k + 1) = 28 - k by omega]
          exact this
      obtain ⟨h, hh, HN1, HN2⟩ := HN.out
      have HF : Hid (∀ x, PErr x .nilIface false) := fun x => rfl
      have hhit : ((nm k).toList == s.toList) = h := hh.symm
      clear HN hh HIX
      have HN1' : Hid _ := HN1
      have HN2' : Hid _ := HN2
      clear HN1 HN2
      generalize nm k = n at hix hhit
      generalize pd k = p at hix
      generalize un k = u at hix
      generalize mo k = m at hix
      generalize tx k = t at hix
      generalize ch k = c' at hix
      generalize mu k = q at hix
      generalize lo k = l at hix
      by_cases hk0 : k = 0
      · have HZ : Hid (fnd s (29 - (k + 1)) (k + 1) = R) := by show _ = _; rw [hk0]; exact HR.out
        have HK0 : Hid (k = 0) := hk0
        obtain ⟨z, hz⟩ : ∃ z : Int, (k : Int) = z := ⟨_, rfl⟩
        rw [hz] at hix ⊢
        have hz0 : z ≤ 0 := by omega
        have hzge : -1 ≤ z := by omega
        have HZk : Hid ((k : Int) = z) := hz
        clear hk0 hz hk29 hk
        rcases hcf with rfl | ⟨j, rfl⟩ <;> rcases hff with rfl | ⟨j2, rfl⟩
        all_goals go_wp2
        all_goals exact ⟨⟨k + 1, by have := HZk.out; simp; omega, by have := HK0.out; omega, .inr HZ.out, HBr.out.alloc HBr.out.size _⟩, by have := HZk.out; have := HK0.out; simp [intOf]; omega⟩
      · have hkp : (0 : Int) < (k : Int) := by omega
        cases h with
        | true =>
          have HRk : Hid (R = k) := HN1'.out (by omega) (by simp)
          rcases hcf with rfl | ⟨j, rfl⟩ <;> rcases hff with rfl | ⟨j2, rfl⟩
          all_goals go_wp2
          all_goals refine bodyPost_ret (v := .tuple #[.int .i64 (R : Int), .nilIface]) (by simp only [results, Tryz.results253]; simp [go_sem, HRk.out]) rfl ⟨_, rfl, ?_, HBr.out.alloc HBr.out.size _⟩
          all_goals rw [decide_eq_false (by rw [HRk.out]; exact hk0)]
          all_goals exact HF.out _
        | false =>
          have HRk : Hid (fnd s (29 - (k + 1)) (k + 1) = R) := HN2'.out (by omega) (by simp)
          rcases hcf with rfl | ⟨j, rfl⟩ <;> rcases hff with rfl | ⟨j2, rfl⟩
          all_goals go_wp2
          all_goals exact ⟨⟨k + 1, by simp, by omega, .inr HRk.out, HBr.out.alloc HBr.out.size _⟩, by simp [intOf]; omega⟩
    · obtain rfl : k = 29 := by omega
      have HR0 : Hid (R = 0) := by
        have := HK.out.resolve_left (by omega)
        exact this.symm
      go_wp2_with (first | (go_at_call 87; refine (refusal_any _ _ _).mono ?_; rintro e W2 ⟨q, rfl, hf, hb2⟩) | fail)
      refine bodyPost_ret (v := .tuple #[.int .i64 (R : Int), .iface 75 (.pointer (some ⟨q, 0, none⟩))]) (by simp only [results, Tryz.results253]; simp [go_sem, HR0.out]) rfl ⟨_, rfl, ?_, HBr.out.trans (hb2.mono HBr.out.size)⟩
      rw [decide_eq_true HR0.out]
      exact ⟨q, rfl, hf⟩

theorem none_any (w : World) : Calls Tryz.prog 25 #[] w fun e w' => e = .returned (.agg #[.slice none 0 0, .int .i64 0]) ∧ Below w.heap.size w w' := by
  go_enter Tryz.func25, Tryz.ntmps25
  go_wp2
  exact bodyPost_ret (v := .agg #[.slice none 0 0, .int .i64 0]) (by simp [results, Tryz.results25, go_sem]) rfl ⟨rfl, (Below.refl _ _).alloc (Nat.le_refl _) _⟩

/-- The document's fault, still empty, as it lies in memory. -/
structure Fc (W : World) (g : Nat) : Prop where
  c0 : W.cell? ⟨g, 0, none⟩ = some (.slice none 0 0)
  c1 : W.cell? ⟨g, 1, none⟩ = some (.int .i64 0)
  cf : ∀ i, W.frozen? ⟨g, i, none⟩ = false

theorem Fc.next {W W' : World} {g : Nat} (h : Fc W g) (hb : Below W.heap.size W W') : Fc W' g :=
  ⟨(hb.cell (cell_lt h.c0)).trans h.c0, (hb.cell (cell_lt h.c1)).trans h.c1, fun i => (hb.frozen (p := ⟨g, i, none⟩) (show g < _ from cell_lt h.c0)).trans (h.cf i)⟩

theorem Fc.sets {W : World} {g : Nat} (h : Fc W g) (x0 x1 : Value) : ((W.setCell ⟨g, 0, none⟩ x0).setCell ⟨g, 1, none⟩ x1).cell? ⟨g, 0, none⟩ = some x0 ∧ ((W.setCell ⟨g, 0, none⟩ x0).setCell ⟨g, 1, none⟩ x1).cell? ⟨g, 1, none⟩ = some x1 :=
  ⟨(cell_set_ne (by decide)).trans (cell_set_eq h.c0), cell_set_eq ((cell_set_ne (by decide)).trans h.c1)⟩

set_option maxRecDepth 100000 in
set_option maxHeartbeats 1000000 in
theorem rvrof_any (w : World) (s : ByteArray) (R : Nat) (hR : fnd s 28 1 = R) : Calls Tryz.prog 57 #[.string s] w fun e w' => ∃ vf, e = .returned (.tuple #[.int .i64 (R : Int), vf]) ∧ RErr w' vf (decide (R = 0)) ∧ Below w.heap.size w w' := by
  have HR : Hid (fnd s 28 1 = R) := hR
  clear hR
  obtain ⟨W1, hW1⟩ : ∃ W1, w.alloc (.cells #[.slice none 0 0, .int .i64 0] 35) = W1 := ⟨_, rfl⟩
  have HB1 : Hid (Below w.heap.size w W1) := hW1 ▸ (Below.refl _ _).alloc (Nat.le_refl _) _
  have HF1 : Hid (Fc W1 w.heap.size) := by
    rw [← hW1]
    exact ⟨by simp, by simp, fun i => by simp⟩
  go_enter Tryz.func57, Tryz.ntmps57
  go_wp2
  clear hW1
  go_loopw [4] (fun x wr => ∃ k : Nat, x = .int .i64 (k : Int) ∧ 1 ≤ k ∧ k ≤ 29 ∧ Hid (fnd s (29 - k) k = R) ∧ Hid (Fc wr w.heap.size) ∧ Hid (Below w.heap.size w wr)) (fun x _ => 100 - (intOf x).toNat)
  case atStart => exact ⟨1, rfl, by omega, by omega, HR, HF1, HB1⟩
  case round =>
    obtain ⟨k, rfl, hk1, hk, HK, HFr, HBr⟩ := hrel
    by_cases hk29 : k < 29
    · have hvk : vn (k : Int) = k := by unfold vn; rw [if_pos (by omega)]; simp
      have c10 := rvrword_any wr (k : Int)
      rw [hvk] at c10
      have HN1 : Hid (hit s k = true → R = k) := by
        intro h1
        have := HK.out
        rw [show 29 - k = (28 - k) + 1 by omega, fnd, if_pos h1] at this
        exact this.symm
      have HN2 : Hid (hit s k = false → fnd s (29 - (k + 1)) (k + 1) = R) := by
        intro h1
        have := HK.out
        rw [show 29 - k = (28 - k) + 1 by omega, fnd, if_neg (by rw [h1]; decide)] at this
        rw [show 29 - (k + 1) = 28 - k by omega]
        exact this
      obtain ⟨h, hh⟩ : ∃ h, hit s k = h := ⟨_, rfl⟩
      have hhit : ((nm k).toList == s.toList) = h := hh
      rw [hh] at HN1 HN2
      generalize nm k = n at c10 hhit
      obtain ⟨f0, f1, ff⟩ := HFr.out
      clear hvk hh
      cases h with
      | true =>
        have HRk : Hid (R = k) := HN1.out rfl
        go_wp2_with (first | (go_at_call 81; refine c10.mono ?_; rintro e w' ⟨rfl, rfl⟩) | (go_at_call 25; refine (none_any _).mono ?_; rintro e W2 ⟨rfl, hb2⟩; obtain ⟨g0, g1, gf⟩ := HFr.out.next hb2))
        obtain ⟨u0, u1⟩ := Fc.sets ⟨g0, g1, gf⟩ (.slice none 0 0) (.int .i64 0)
        refine bodyPost_ret (v := .tuple #[.int .i64 (R : Int), .agg #[.slice none 0 0, .int .i64 0]]) (by simp only [results, Tryz.results57]; simp [go_sem, HRk.out, u0, u1]) rfl ⟨_, rfl, ?_, ((HBr.out.trans (hb2.mono HBr.out.size)).setCell (p := ⟨w.heap.size, 0, none⟩) (Nat.le_refl _) _).setCell (p := ⟨w.heap.size, 1, none⟩) (Nat.le_refl _) _⟩
        rw [decide_eq_false (by rw [HRk.out]; omega)]
        rfl
      | false =>
        have HRk : Hid (fnd s (29 - (k + 1)) (k + 1) = R) := HN2.out rfl
        go_wp2_with (first | (go_at_call 81; refine c10.mono ?_; rintro e w' ⟨rfl, rfl⟩) | fail)
        exact ⟨⟨k + 1, by simp, by omega, by omega, HRk.out, HFr, HBr⟩, by simp [intOf]; omega⟩
    · obtain rfl : k = 29 := by omega
      have HR0 : Hid (R = 0) := HK.out.symm
      obtain ⟨f0, f1, ff⟩ := HFr.out
      go_wp2_with (first | (go_at_call 34; refine (new0_any _ _ _).mono ?_; rintro e W2 ⟨rfl, hb2, q0, q1, hz⟩; obtain ⟨g0, g1, gf⟩ := HFr.out.next hb2) | fail)
      obtain ⟨u0, u1⟩ := Fc.sets ⟨g0, g1, gf⟩ (.slice (some ⟨wr.heap.size + 1, 0, none⟩) 1 1) (.int .i64 62)
      have hne : w.heap.size ≠ wr.heap.size + 1 := by have := HBr.out.size; omega
      refine bodyPost_ret (v := .tuple #[.int .i64 (R : Int), .agg #[.slice (some ⟨wr.heap.size + 1, 0, none⟩) 1 1, .int .i64 62]]) (by simp only [results, Tryz.results57]; simp [go_sem, HR0.out, u0, u1]) rfl ⟨_, rfl, ?_, ((HBr.out.trans (hb2.mono HBr.out.size)).setCell (p := ⟨w.heap.size, 0, none⟩) (Nat.le_refl _) _).setCell (p := ⟨w.heap.size, 1, none⟩) (Nat.le_refl _) _⟩
      rw [decide_eq_true HR0.out]
      exact ⟨_, _, rfl, (cell_set_off hne).trans ((cell_set_off hne).trans q0), (cell_set_off hne).trans ((cell_set_off hne).trans q1)⟩
end Go.Proofs.YtfoodjhffehgpaaGreatDoor.Rp
