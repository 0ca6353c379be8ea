import Derived.Test.YtfoodjhffehgpaaGreatDoorBa
section
/-
  DERIVED. Is a tag known?
-/
namespace Go.Proofs.YtfoodjhffehgpaaGreatDoor
open Go Go.Proofs Go.RowKit

set_option maxRecDepth 100000 in
theorem known_any (w : World) (t : Nat) (ht : t < 4294967296) : Calls Tryz.prog 244 #[.int .u32 (t : Int)] w fun e w' => e = .returned (.bool (Tb.docF t (Tb.upTo 10)).isSome) ∧ Below w.heap.size w w' := by
  have c32 := Tb.find_any w t ht
  generalize Tb.docF t (Tb.upTo 10) = O at c32 ⊢
  generalize Tb.eT O = e0 at c32
  generalize Tb.eM O = e1 at c32
  generalize Tb.eV O = e2 at c32
  generalize Tb.eS O = e3 at c32
  generalize Tb.eL O = e4 at c32
  generalize Tb.eN O = e5 at c32
  generalize O.isSome = kn at c32 ⊢
  go_enter Tryz.func244, Tryz.ntmps244
  go_wp2_with (first | (go_at_call 109; refine c32.mono ?_; rintro e W2 ⟨rfl, hb2⟩) | fail)
  go_ret
  exact ⟨rfl, by first | exact hb2 | exact hb2.alloc hb2.size _⟩
end Go.Proofs.YtfoodjhffehgpaaGreatDoor
end

section
/-
  DERIVED. The VR that a tag has where none is said, by both.
-/
namespace Go.Proofs.YtfoodjhffehgpaaGreatDoor
open Go Go.Proofs Go.RowKit
open Wk (Nd)

/-- The VR where none is said. -/
def dflt (t : Nat) : Int :=
  if t = 4294893568 then 29 else if t / 65536 = 65534 then 0 else if t % 65536 = 0 then 24 else
  if (Tb.docF t (Tb.upTo 10)).isSome = true then Tb.eV (Tb.docF t (Tb.upTo 10)) else if t / 65536 % 2 = 1 ∧ 16 ≤ t % 65536 ∧ t % 65536 ≤ 255 then 11 else 25

set_option maxRecDepth 100000 in
set_option maxHeartbeats 1000000 in
theorem creator_any (w : World) (t : Nat) (ht : t < 4294967296) : Calls Tryz.prog 246 #[.int .u32 (t : Int)] w fun e w' => e = .returned (.bool (decide (t / 65536 % 2 = 1 ∧ 16 ≤ t % 65536 ∧ t % 65536 ≤ 255))) ∧ w = w' := by
  have c33 := Tb.group_any w t
  have c34 := element_any w t ht
  obtain ⟨R, hR⟩ : ∃ R, decide (t / 65536 % 2 = 1 ∧ 16 ≤ t % 65536 ∧ t % 65536 ≤ 255) = R := ⟨_, rfl⟩
  rw [hR]
  have hg : t / 65536 < 65536 := by omega
  have hm' : t % 65536 < 65536 := by omega
  generalize t / 65536 = g at c33 hR hg
  generalize t % 65536 = m at c34 hR hm'
  have HR : Hid _ := hR
  clear hR
  by_cases h1 : g % 2 = 1
  · have b1 : ((g : Int) % 2 == 1) = true := beq_iff_eq.2 (by omega)
    by_cases h2 : 16 ≤ m
    · have b2 : decide ((16 : Int) ≤ (m : Int)) = true := by simp; omega
      have HR2 : Hid (R = decide ((m : Int) ≤ 255)) := by
        show R = _
        rw [← HR.out]
        by_cases h3 : m ≤ 255
        · rw [show decide (g % 2 = 1 ∧ 16 ≤ m ∧ m ≤ 255) = true by simp [h1, h2, h3]]; symm; simp; omega
        · rw [show decide (g % 2 = 1 ∧ 16 ≤ m ∧ m ≤ 255) = false by simp [h3]]; symm; simp; omega
      clear HR
      go_enter Tryz.func246, Tryz.ntmps246
      go_wp2_with (first | (go_at_call 133; refine c33.mono ?_; rintro e w' ⟨rfl, rfl⟩) | (go_at_call 134; refine c34.mono ?_; rintro e w' ⟨rfl, rfl⟩))
      go_ret
      exact ⟨by rw [HR2.out]; rfl, rfl⟩
    · have b2 : decide ((16 : Int) ≤ (m : Int)) = false := by simp; omega
      have HR2 : Hid (R = false) := by show R = _; rw [← HR.out]; simp; omega
      clear HR
      go_enter Tryz.func246, Tryz.ntmps246
      go_wp2_with (first | (go_at_call 133; refine c33.mono ?_; rintro e w' ⟨rfl, rfl⟩) | (go_at_call 134; refine c34.mono ?_; rintro e w' ⟨rfl, rfl⟩))
      go_ret
      exact ⟨by rw [HR2.out]; rfl, rfl⟩
  · have b1 : ((g : Int) % 2 == 1) = false := beq_eq_false_iff_ne.2 (by omega)
    have HR2 : Hid (R = false) := by show R = _; rw [← HR.out]; simp; omega
    clear HR
    go_enter Tryz.func246, Tryz.ntmps246
    go_wp2_with (first | (go_at_call 133; refine c33.mono ?_; rintro e w' ⟨rfl, rfl⟩) | fail)
    go_ret
    exact ⟨by rw [HR2.out]; rfl, rfl⟩

set_option maxRecDepth 100000 in
set_option maxHeartbeats 2000000 in
theorem default_any (w : World) (t : Nat) (ht : t < 4294967296) : Calls Tryz.prog 245 #[.int .u32 (t : Int)] w fun e w' => e = .returned (.int .i64 (dflt t)) ∧ Below w.heap.size w w' := by
  have c33 := Tb.group_any w t
  have c33b : Calls Tryz.prog 133 #[.int .u32 4294893568] w fun e w' => e = .returned (.int .u32 65534) ∧ w = w' := Tb.group_any w 4294893568
  have c34 := element_any w t ht
  have c32 := Tb.find_any w t ht
  have c35 := fun W => creator_any W t ht
  obtain ⟨R, hR⟩ : ∃ R, dflt t = R := ⟨_, rfl⟩
  rw [hR]
  unfold dflt at hR
  generalize Tb.docF t (Tb.upTo 10) = O at c32 hR
  generalize Tb.eT O = e0 at c32
  generalize Tb.eM O = e1 at c32
  generalize Tb.eV O = e2 at c32 hR
  generalize Tb.eS O = e3 at c32
  generalize Tb.eL O = e4 at c32
  generalize Tb.eN O = e5 at c32
  generalize O.isSome = kn at c32 hR
  have HR : Hid _ := hR
  clear hR
  by_cases h1 : t = 4294893568
  · have HR2 : Hid (R = 29) := by show R = _; rw [← HR.out, if_pos h1]
    have b1 : ((t : Int) == 4294893568) = true := beq_iff_eq.2 (by omega)
    clear HR h1
    go_enter Tryz.func245, Tryz.ntmps245
    go_wp2
    go_ret
    exact ⟨by rw [HR2.out]; rfl, Below.refl _ _⟩
  have b1 : ((t : Int) == 4294893568) = false := beq_eq_false_iff_ne.2 (by omega)
  have HR1 : Hid _ := (if_neg h1).symm.trans HR.out
  clear HR h1
  by_cases h2 : t / 65536 = 65534
  · have HR2 : Hid (R = 0) := by show R = _; rw [← HR1.out, if_pos h2]
    rw [h2] at c33
    clear HR1 h2
    go_enter Tryz.func245, Tryz.ntmps245
    go_wp2_with (go_at_call 133; refine StopF.out ?_)
    refine ⟨Calls.mono c33 ?_⟩
    rintro e w' ⟨rfl, rfl⟩
    go_wp2_with (go_at_call 133; refine StopF.out ?_)
    refine ⟨Calls.mono c33b ?_⟩
    rintro e w' ⟨rfl, rfl⟩
    go_wp2
    go_ret
    exact ⟨by rw [HR2.out]; rfl, Below.refl _ _⟩
  have b2 : (((t / 65536 : Nat) : Int) == 65534) = false := beq_eq_false_iff_ne.2 (by omega)
  have HR2 : Hid _ := (if_neg h2).symm.trans HR1.out
  have hcr : decide (t / 65536 % 2 = 1 ∧ 16 ≤ t % 65536 ∧ t % 65536 ≤ 255) = decide (t / 65536 % 2 = 1 ∧ 16 ≤ t % 65536 ∧ t % 65536 ≤ 255) := rfl
  obtain ⟨cr, hcr2⟩ : ∃ cr, decide (t / 65536 % 2 = 1 ∧ 16 ≤ t % 65536 ∧ t % 65536 ≤ 255) = cr := ⟨_, rfl⟩
  have HCR : Hid _ := hcr2
  simp only [hcr2] at c35
  clear HR1 h2 hcr hcr2
  generalize t / 65536 = g at c33 b2 HR2 HCR
  by_cases h3 : t % 65536 = 0
  · have HR3 : Hid (R = 24) := by show R = _; rw [← HR2.out, if_pos h3]
    rw [h3] at c34
    clear HR2 h3 HCR
    go_enter Tryz.func245, Tryz.ntmps245
    go_wp2_with (go_at_call 133; refine StopF.out ?_)
    refine ⟨Calls.mono c33 ?_⟩
    rintro e w' ⟨rfl, rfl⟩
    go_wp2_with (go_at_call 133; refine StopF.out ?_)
    refine ⟨Calls.mono c33b ?_⟩
    rintro e w' ⟨rfl, rfl⟩
    go_wp2_with (go_at_call 134; refine StopF.out ?_)
    refine ⟨Calls.mono c34 ?_⟩
    rintro e w' ⟨rfl, rfl⟩
    go_wp2
    go_ret
    exact ⟨by rw [HR3.out]; rfl, Below.refl _ _⟩
  have HR3 : Hid _ := (if_neg h3).symm.trans HR2.out
  have b3 : (((t % 65536 : Nat) : Int) == 0) = false := beq_eq_false_iff_ne.2 (by omega)
  generalize t % 65536 = m at c34 b3 HR3 HCR
  clear HR2 h3
  go_enter Tryz.func245, Tryz.ntmps245
  go_wp2_with (go_at_call 133; refine StopF.out ?_)
  refine ⟨Calls.mono c33 ?_⟩
  rintro e w' ⟨rfl, rfl⟩
  go_wp2_with (go_at_call 133; refine StopF.out ?_)
  refine ⟨Calls.mono c33b ?_⟩
  rintro e w' ⟨rfl, rfl⟩
  go_wp2_with (go_at_call 134; refine StopF.out ?_)
  refine ⟨Calls.mono c34 ?_⟩
  rintro e w' ⟨rfl, rfl⟩
  go_wp2_with (go_at_call 109; refine StopF.out ?_)
  refine ⟨Calls.mono c32 ?_⟩
  rintro e W2 ⟨rfl, hb2⟩
  cases kn with
  | true =>
    have HR4 : Hid (R = e2) := by show R = _; rw [← HR3.out, if_pos rfl]
    go_wp2
    go_ret
    exact ⟨by rw [HR4.out]; rfl, hb2.alloc hb2.size _⟩
  | false =>
    cases cr with
    | true =>
      have HR4 : Hid (R = 11) := by show R = _; rw [← HR3.out, if_neg (by decide), if_pos (of_decide_eq_true HCR.out)]
      go_wp2_with (first | (go_at_call 246; refine (c35 _).mono ?_; rintro e w' ⟨rfl, rfl⟩) | fail)
      go_ret
      exact ⟨by rw [HR4.out]; rfl, hb2.alloc hb2.size _⟩
    | false =>
      have HR4 : Hid (R = 25) := by show R = _; rw [← HR3.out, if_neg (by decide), if_neg (of_decide_eq_false HCR.out)]
      go_wp2_with (first | (go_at_call 246; refine (c35 _).mono ?_; rintro e w' ⟨rfl, rfl⟩) | fail)
      go_ret
      exact ⟨by rw [HR4.out]; rfl, hb2.alloc hb2.size _⟩

end Go.Proofs.YtfoodjhffehgpaaGreatDoor
end
