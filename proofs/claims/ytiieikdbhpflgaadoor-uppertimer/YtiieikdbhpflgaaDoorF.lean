import Derived.Test.YtiieikdbhpflgaaDoorD
/-
  DERIVED. The law of the whole table.
-/
namespace Go.Proofs.YtiieikdbhpflgaaDoor
open Go Go.Proofs Go.RowKit

theorem act_both (w : World) (s e : Int) (hT : Tb w) : Calls Tryd.prog 8 #[.int .i64 s, .int .i64 e] w fun x w' => x = .returned (.int .i64 (actR s e)) ∧ w' = w := by
  rw [← act_same]; exact act_any w s e hT
theorem after_both (w : World) (a s : Int) (asked bad : Bool) : Calls Tryd.prog 10 #[.int .i64 a, .int .i64 s, .bool asked, .bool bad] w fun x w' => x = .returned (.int .i64 (afterR a s asked bad)) ∧ Below w.heap.size w w' := by
  rw [← after_same]; exact after_any w a s asked bad

set_option maxRecDepth 100000 in
set_option maxHeartbeats 4000000 in
theorem table_any (w : World) (hT : Tb w) : Calls Tryd.prog 3 #[] w fun x w' => x = .returned (.bool true) ∧ Below w.heap.size w w' := by
  have HT : Hid (∀ W, Below w.heap.size w W → Tb W) := fun W hb => hT.on hb
  clear hT
  go_enter Tryd.func3, Tryd.ntmps3
  go_wp2
  go_loopw [1] (fun x wr => ∃ k : Nat, x = .int .i64 ((k : Int) - 1) ∧ k ≤ 17 ∧ Hid (Below w.heap.size w wr)) (fun x _ => 17 - (intOf x + 1).toNat)
  case atStart => exact ⟨0, rfl, by omega, Below.refl _ _⟩
  case round =>
    obtain ⟨k, rfl, hk, HBr⟩ := hrel
    obtain ⟨wo, rfl⟩ : ∃ wo : World, wo = wr := ⟨_, rfl⟩
    obtain ⟨z, hz⟩ : ∃ z : Int, (k : Int) - 1 = z := ⟨_, rfl⟩
    rw [hz]
    have HZ : Hid ((k : Int) - 1 = z ∧ k ≤ 17) := ⟨hz, hk⟩
    have HWz : Hid (wrap64 (z + 1) = z + 1) := by show _ = _; exact (by unfold wrap64; omega)
    by_cases hz1 : z ≤ 15
    · clear hz hk
      go_wp2
      go_loopw [2] (fun x wr => ∃ j : Nat, x = .int .i64 ((j : Int) - 1) ∧ j ≤ 24 ∧ Hid (Below w.heap.size w wr)) (fun x _ => 24 - (intOf x + 1).toNat)
      case atStart => exact ⟨0, rfl, by omega, HBr⟩
      case round =>
        obtain ⟨j, rfl, hj, HBr2⟩ := hrel
        obtain ⟨y, hy⟩ : ∃ y : Int, (j : Int) - 1 = y := ⟨_, rfl⟩
        rw [hy]
        have HY : Hid ((j : Int) - 1 = y ∧ j ≤ 24) := ⟨hy, hj⟩
        have hwy : wrap64 (y + 1) = y + 1 := by exact (by unfold wrap64; omega)
        clear hy hj
        by_cases hy2 : y ≤ 22
        · have ha := act_both wr z y (HT.out wr HBr2.out)
          go_wp2_with (first | (go_at_call 8; refine ha.mono ?_; rintro x W ⟨rfl, rfl⟩) | (go_at_call 9; refine (ract_any _ _ _).mono ?_; rintro x W ⟨rfl, rfl⟩))
          obtain ⟨hy, hj⟩ := HY.out
          refine ⟨⟨j + 1, by congr 1; omega, by omega, HBr2⟩, ?_⟩
          simp [intOf]; omega
        · have hy3 : ¬ y ≤ 22 := hy2
          clear HY hwy HBr
          obtain ⟨w2, rfl⟩ : ∃ w2 : World, w2 = wr := ⟨_, rfl⟩
          go_wp2
          go_loopw [3] (fun x wr => ∃ j : Nat, x = .int .i64 ((j : Int) - 1) ∧ j ≤ 32 ∧ Hid (Below w.heap.size w wr)) (fun x _ => 32 - (intOf x + 1).toNat)
          case atStart => exact ⟨0, rfl, by omega, HBr2⟩
          case round =>
            obtain ⟨j, rfl, hj, HBr3⟩ := hrel
            obtain ⟨v, hv⟩ : ∃ v : Int, (j : Int) - 1 = v := ⟨_, rfl⟩
            rw [hv]
            have HV : Hid ((j : Int) - 1 = v ∧ j ≤ 32) := ⟨hv, hj⟩
            have HWv : Hid (wrap64 (v + 1) = v + 1) := by show _ = _; exact (by unfold wrap64; omega)
            clear hv hj
            obtain ⟨w3, rfl⟩ : ∃ w3 : World, w3 = wr := ⟨_, rfl⟩
            by_cases hv2 : v ≤ 30
            · go_wp2
              go_loopw [4] (fun x wr => ∃ i : Nat, x = .int .i64 (i : Int) ∧ i ≤ 4 ∧ Hid (Below w.heap.size w wr)) (fun x _ => 4 - (intOf x).toNat)
              case atStart => exact ⟨0, rfl, by omega, HBr3⟩
              case round =>
                obtain ⟨i, rfl, hi, HBr4⟩ := hrel
                by_cases hi4 : i < 4
                · go_wp2_with (first | (go_at_call 10; refine (after_both _ _ _ _ _).mono ?_; rintro x W ⟨rfl, hbx⟩) | (go_at_call 11; refine (rafter_any _ _ _ _ _).mono ?_; rintro x W ⟨rfl, rfl⟩))
                  exact ⟨⟨i + 1, by simp, by omega, HBr4.out.trans (hbx.mono HBr4.out.size)⟩, by simp [intOf]; omega⟩
                · obtain rfl : i = 4 := by omega
                  clear HBr3
                  have hwv := HWv.out
                  go_wp2
                  obtain ⟨hv, hj⟩ := HV.out
                  have hwv := HWv.out
                  refine ⟨⟨j + 1, by congr 1; omega, by omega, HBr4⟩, ?_⟩
                  simp [intOf]; omega
            · have hv3 : ¬ v ≤ 30 := hv2
              clear HBr2 HV HWv
              have hwz := HWz.out
              go_wp2
              obtain ⟨hz, hk⟩ := HZ.out
              have hwz := HWz.out
              refine ⟨⟨k + 1, by congr 1; omega, by omega, HBr3⟩, ?_⟩
              simp [intOf]; omega
    · have hz3 : ¬ z ≤ 15 := hz1
      go_wp2
      go_ret
      exact ⟨rfl, HBr⟩
end Go.Proofs.YtiieikdbhpflgaaDoor
