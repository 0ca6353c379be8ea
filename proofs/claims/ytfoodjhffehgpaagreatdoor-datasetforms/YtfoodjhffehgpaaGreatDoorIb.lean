import Derived.Test.YtfoodjhffehgpaaGreatDoorIa
import Derived.Test.YtfoodjhffehgpaaGreatDoorFd
/-
  DERIVED. The VR that a tag has where none is said, by the document.
-/
namespace Go.Proofs.YtfoodjhffehgpaaGreatDoor
open Go Go.Proofs Go.RowKit
open Wk (Nd)

set_option maxRecDepth 100000 in
set_option maxHeartbeats 2000000 in
theorem rdefault_any (w : World) (t : Nat) (ht : t < 4294967296) : Calls Tryz.prog 23 #[.int .u32 (t : Int)] w fun e w' => e = .returned (.int .i64 (dflt t)) ∧ Below w.heap.size w w' := by
  have c21 := Tb.rfind_any w t ht
  obtain ⟨R, hR⟩ : ∃ R, dflt t = R := ⟨_, rfl⟩
  rw [hR]
  unfold dflt at hR
  generalize Tb.docF t (Tb.upTo 10) = O at c21 hR
  generalize Tb.eT O = e0 at c21
  generalize Tb.eM O = e1 at c21
  generalize Tb.eV O = e2 at c21 hR
  generalize Tb.eS O = e3 at c21
  generalize Tb.eL O = e4 at c21
  generalize Tb.eN O = e5 at c21
  generalize O.isSome = kn at c21 hR
  have HR : Hid _ := hR
  clear hR
  have hA : bits .and .u32 (t : Int) 65535 = ((t % 65536 : Nat) : Int) := by
    have := u32_and_nat t 65535 ht (by decide)
    rw [show ((65535 : Nat) : Int) = 65535 from rfl] at this
    rw [this, show (65535 : Nat) = 2 ^ 16 - 1 from rfl, Nat.and_two_pow_sub_one_eq_mod]
  have hB : bits .and .u32 ((t : Int) / 65536) 1 = ((t / 65536 % 2 : Nat) : Int) := by
    have := u32_and_nat (t / 65536) 1 (by omega) (by decide)
    rw [show ((1 : Nat) : Int) = 1 from rfl, show (((t / 65536 : Nat)) : Int) = (t : Int) / 65536 by omega] at this
    rw [this, show (1 : Nat) = 2 ^ 1 - 1 from rfl, Nat.and_two_pow_sub_one_eq_mod]
  have HA : Hid _ := hA
  have HB : Hid _ := hB
  clear hA hB
  by_cases h1 : t = 4294893568
  · have HR2 : Hid (R = 29) := by show R = _; rw [← HR.out, if_pos h1]
    have b1 : ((t : Int) == 4294893568) = true := beq_iff_eq.2 (by omega)
    clear HR h1
    go_enter Tryz.func23, Tryz.ntmps23
    go_wp2
    go_ret
    exact ⟨by rw [HR2.out]; rfl, Below.refl _ _⟩
  have b1 : ((t : Int) == 4294893568) = false := beq_eq_false_iff_ne.2 (by omega)
  have HR1 : Hid _ := (if_neg h1).symm.trans HR.out
  clear HR h1
  by_cases h2 : t / 65536 = 65534
  · have HR2 : Hid (R = 0) := by show R = _; rw [← HR1.out, if_pos h2]
    have b2 : ((t : Int) / 65536 == 65534) = true := beq_iff_eq.2 (by omega)
    clear HR1 h2
    go_enter Tryz.func23, Tryz.ntmps23
    go_wp2
    go_ret
    exact ⟨by rw [HR2.out]; rfl, Below.refl _ _⟩
  have b2 : ((t : Int) / 65536 == 65534) = false := beq_eq_false_iff_ne.2 (by omega)
  have HR2 : Hid _ := (if_neg h2).symm.trans HR1.out
  clear HR1 h2
  by_cases h3 : t % 65536 = 0
  · have HR3 : Hid (R = 24) := by show R = _; rw [← HR2.out, if_pos h3]
    have b3 : (bits .and .u32 (t : Int) 65535 == 0) = true := by rw [HA.out, h3]; rfl
    clear HR2 h3
    go_enter Tryz.func23, Tryz.ntmps23
    go_wp2
    go_ret
    exact ⟨by rw [HR3.out]; rfl, Below.refl _ _⟩
  have HR3 : Hid _ := (if_neg h3).symm.trans HR2.out
  have b3 : (bits .and .u32 (t : Int) 65535 == 0) = false := by rw [HA.out]; exact beq_eq_false_iff_ne.2 (by omega)
  clear HR2 h3
  cases kn with
  | true =>
    have HR4 : Hid (R = e2) := by show R = _; rw [← HR3.out, if_pos rfl]
    go_enter Tryz.func23, Tryz.ntmps23
    go_wp2_with (first | (go_at_call 17; refine c21.mono ?_; rintro e W2 ⟨rfl, hb2⟩) | fail)
    go_ret
    exact ⟨by rw [HR4.out]; rfl, hb2.alloc hb2.size _⟩
  | false =>
    by_cases hc1 : t / 65536 % 2 = 1
    · have d1 : (bits .and .u32 ((t : Int) / 65536) 1 == 1) = true := by rw [HB.out, hc1]; rfl
      by_cases hc2 : 16 ≤ t % 65536
      · have d2 : decide ((16 : Int) ≤ bits .and .u32 (t : Int) 65535) = true := by rw [HA.out]; simp; omega
        by_cases hc3 : t % 65536 ≤ 255
        · have d3 : decide (bits .and .u32 (t : Int) 65535 ≤ 255) = true := by rw [HA.out]; simp; omega
          have HR4 : Hid (R = 11) := by show R = _; rw [← HR3.out, if_neg (by decide), if_pos ⟨hc1, hc2, hc3⟩]
          clear hc1 hc2 hc3
          go_enter Tryz.func23, Tryz.ntmps23
          go_wp2_with (first | (go_at_call 17; refine c21.mono ?_; rintro e W2 ⟨rfl, hb2⟩) | fail)
          go_ret
          exact ⟨by rw [HR4.out]; rfl, hb2.alloc hb2.size _⟩
        · have d3 : decide (bits .and .u32 (t : Int) 65535 ≤ 255) = false := by rw [HA.out]; simp; omega
          have HR4 : Hid (R = 25) := by show R = _; rw [← HR3.out, if_neg (by decide), if_neg (fun h => hc3 h.2.2)]
          clear hc1 hc2 hc3
          go_enter Tryz.func23, Tryz.ntmps23
          go_wp2_with (first | (go_at_call 17; refine c21.mono ?_; rintro e W2 ⟨rfl, hb2⟩) | fail)
          go_ret
          exact ⟨by rw [HR4.out]; rfl, hb2.alloc hb2.size _⟩
      · have d2 : decide ((16 : Int) ≤ bits .and .u32 (t : Int) 65535) = false := by rw [HA.out]; simp; omega
        have HR4 : Hid (R = 25) := by show R = _; rw [← HR3.out, if_neg (by decide), if_neg (fun h => hc2 h.2.1)]
        clear hc1 hc2
        go_enter Tryz.func23, Tryz.ntmps23
        go_wp2_with (first | (go_at_call 17; refine c21.mono ?_; rintro e W2 ⟨rfl, hb2⟩) | fail)
        go_ret
        exact ⟨by rw [HR4.out]; rfl, hb2.alloc hb2.size _⟩
    · have d1 : (bits .and .u32 ((t : Int) / 65536) 1 == 1) = false := by rw [HB.out]; exact beq_eq_false_iff_ne.2 (by omega)
      have HR4 : Hid (R = 25) := by show R = _; rw [← HR3.out, if_neg (by decide), if_neg (fun h => hc1 h.1)]
      clear hc1
      go_enter Tryz.func23, Tryz.ntmps23
      go_wp2_with (first | (go_at_call 17; refine c21.mono ?_; rintro e W2 ⟨rfl, hb2⟩) | fail)
      go_ret
      exact ⟨by rw [HR4.out]; rfl, hb2.alloc hb2.size _⟩
end Go.Proofs.YtfoodjhffehgpaaGreatDoor
