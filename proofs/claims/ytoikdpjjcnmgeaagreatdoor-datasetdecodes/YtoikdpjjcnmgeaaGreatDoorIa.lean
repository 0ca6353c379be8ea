import Derived.Test.YtoikdpjjcnmgeaaGreatDoorFc
import Derived.Test.YtoikdpjjcnmgeaaGreatDoorLa
section
/-
  DERIVED. Which node may be an element, which an item: the program's looks.
-/
namespace Go.Proofs.YtoikdpjjcnmgeaaGreatDoor
open Go Go.Proofs Go.RowKit
open Wk (Nd)

structure StopF (p : Prop) : Prop where
  out : p
/-- May an element have that tag? -/
def mayS (t : Nat) : Bool := !(decide (t / 65536 = 0) || decide (t / 65536 = 2) || decide (t / 65536 = 65534) || decide (t / 65536 = 65535)) && !decide (t % 65536 = 0)
/-- What the dictionary knows of a tag. -/
def fnd (a : Nd) : Option Tb.Row := Tb.docF a.t.toNat (Tb.upTo 10)
/-- Has the node the VR that the dictionary asks for? -/
def vrO (a : Nd) : Bool := !((fnd a).isSome && (a.v != Tb.eV (fnd a)))
/-- Is a text without padding? -/
def unp (t : Bool) (s : ByteArray) : Bool := if t then (Rp.trimB s).toList == s.toList else decide (s.size % 2 = 0)
/-- Is what the node holds right? -/
def bodyO (a : Nd) : Bool := if a.v = 18 then (a.s.toList == []) && decide (0 ≤ a.n) else decide (1 ≤ a.v ∧ a.v ≤ 28) && (decide (a.n = 0) && (decide (a.s.size ≤ 65534) && unp (Rp.tx (Rp.vn a.v)) a.s))
def elemOk (a : Nd) : Bool := mayS a.t.toNat && (vrO a && bodyO a)
def itemOk (a : Nd) : Bool := decide (a.t = 4294893568) && (decide (a.v = 29) && ((a.s.toList == []) && decide (0 ≤ a.n)))
theorem elem_n (a : Nd) (h : elemOk a = true) : 0 ≤ a.n ∧ (a.v = 18 ∨ a.n = 0) := by
  unfold elemOk bodyO at h
  simp only [Bool.and_eq_true] at h
  have h2 := h.2.2
  split at h2
  · rename_i hv
    simp only [Bool.and_eq_true, decide_eq_true_eq] at h2
    exact ⟨h2.2, .inl hv⟩
  · simp only [Bool.and_eq_true, decide_eq_true_eq] at h2
    exact ⟨by omega, .inr h2.2.1⟩
theorem item_n (a : Nd) (h : itemOk a = true) : 0 ≤ a.n := by
  unfold itemOk at h
  simp only [Bool.and_eq_true, decide_eq_true_eq] at h
  exact h.2.2.2

set_option maxRecDepth 100000 in
theorem element_any (w : World) (t : Nat) (ht : t < 4294967296) : Calls Tryz.prog 77 #[.int .u32 (t : Int)] w fun e w' => e = .returned (.int .u32 ((t % 65536 : Nat) : Int)) ∧ w = w' := by
  have hA : bits .and .u32 (t : Int) 65535 = ((t % 65536 : Nat) : Int) := by
    have := u32_and_nat t 65535 ht (by decide)
    rw [show ((65535 : Nat) : Int) = 65535 from rfl] at this
    rw [this, show (65535 : Nat) = 2 ^ 16 - 1 from rfl, Nat.and_two_pow_sub_one_eq_mod]
  have HA : Hid (bits .and .u32 (t : Int) 65535 = ((t % 65536 : Nat) : Int)) := hA
  clear hA
  go_enter Tryz.func77, Tryz.ntmps77
  go_wp2
  go_ret
  exact ⟨by rw [HA.out]; rfl, rfl⟩

set_option maxRecDepth 100000 in
set_option maxHeartbeats 1000000 in
theorem mayStand_any (w : World) (t : Nat) (ht : t < 4294967296) : Calls Tryz.prog 121 #[.int .u32 (t : Int)] w fun e w' => e = .returned (.bool (mayS t)) ∧ w = w' := by
  have c33 := Tb.group_any w t
  have c34 := element_any w t ht
  obtain ⟨z, hz⟩ : ∃ z, mayS t = z := ⟨_, rfl⟩
  rw [hz]
  have HZ : Hid (mayS t = z) := hz
  unfold mayS at hz
  generalize t / 65536 = g at c33 hz
  generalize t % 65536 = m at c34 hz
  by_cases h0 : g = 0
  · subst h0
    simp at hz
    subst hz
    go_enter Tryz.func121, Tryz.ntmps121
    go_wp2_with (first | (go_at_call 76; refine c33.mono ?_; rintro e w' ⟨rfl, rfl⟩) | fail)
    go_ret
    exact ⟨rfl, rfl⟩
  by_cases h2 : g = 2
  · subst h2
    simp at hz
    subst hz
    go_enter Tryz.func121, Tryz.ntmps121
    go_wp2_with (first | (go_at_call 76; refine c33.mono ?_; rintro e w' ⟨rfl, rfl⟩) | fail)
    go_ret
    exact ⟨rfl, rfl⟩
  by_cases h3 : g = 65534
  · subst h3
    simp at hz
    subst hz
    go_enter Tryz.func121, Tryz.ntmps121
    go_wp2_with (first | (go_at_call 76; refine c33.mono ?_; rintro e w' ⟨rfl, rfl⟩) | fail)
    go_ret
    exact ⟨rfl, rfl⟩
  by_cases h4 : g = 65535
  · subst h4
    simp at hz
    subst hz
    go_enter Tryz.func121, Tryz.ntmps121
    go_wp2_with (first | (go_at_call 76; refine c33.mono ?_; rintro e w' ⟨rfl, rfl⟩) | fail)
    go_ret
    exact ⟨rfl, rfl⟩
  have b0 : ((g : Int) == 0) = false := beq_eq_false_iff_ne.2 (by omega)
  have b2 : ((g : Int) == 2) = false := beq_eq_false_iff_ne.2 (by omega)
  have b3 : ((g : Int) == 65534) = false := beq_eq_false_iff_ne.2 (by omega)
  have b4 : ((g : Int) == 65535) = false := beq_eq_false_iff_ne.2 (by omega)
  have hm : ((m : Int) != 0) = z := by
    rw [← hz]
    by_cases hm0 : m = 0
    · subst hm0; simp
    · have : ((m : Int) != 0) = true := bne_iff_ne.2 (by omega)
      rw [this]
      simp [h0, h2, h3, h4, hm0]
  have HM : Hid (((m : Int) != 0) = z) := hm
  clear hz hm h0 h2 h3 h4 HZ
  go_enter Tryz.func121, Tryz.ntmps121
  go_wp2_with (first | (go_at_call 76; refine c33.mono ?_; rintro e w' ⟨rfl, rfl⟩) | (go_at_call 77; refine c34.mono ?_; rintro e w' ⟨rfl, rfl⟩))
  go_ret
  exact ⟨by rw [HM.out]; rfl, rfl⟩

set_option maxRecDepth 100000 in
theorem wants_any (w : World) (a : Option Addr) (n c : Nat) (z : Bool) (hz : decide (n % 2 = 0) = z) : Calls Tryz.prog 82 #[.slice a n c] w fun e w' => e = .returned (.bool z) ∧ w = w' := by
  have HZ : Hid ((((n : Int) % 2) == 0) = z) := by
    show _ = _
    rw [← hz]
    by_cases h : n % 2 = 0
    · rw [show decide (n % 2 = 0) = true by simp [h]]; exact beq_iff_eq.2 (by omega)
    · rw [show decide (n % 2 = 0) = false by simp [h]]; exact beq_eq_false_iff_ne.2 (by omega)
  clear hz
  go_enter Tryz.func82, Tryz.ntmps82
  go_wp2
  go_ret
  exact ⟨by rw [HZ.out]; rfl, rfl⟩

set_option maxRecDepth 100000 in
set_option maxHeartbeats 1000000 in
theorem isItem_any (w : World) (a : Nd) : Calls Tryz.prog 83 #[.agg #[.int .u32 a.t, .int .i64 a.v, .int .i64 a.n, .string a.s]] w fun e w' => e = .returned (.bool (itemOk a)) ∧ Below w.heap.size w w' := by
  obtain ⟨t, v, n, s⟩ := a
  unfold itemOk
  simp only
  by_cases h1 : t = 4294893568
  · subst h1
    by_cases h2 : v = 29
    · subst h2
      obtain ⟨z, hz⟩ : ∃ z, (s.toList == []) = z := ⟨_, rfl⟩
      rw [hz]
      cases z with
      | true =>
        by_cases h3 : 0 ≤ n
        · go_enter Tryz.func83, Tryz.ntmps83
          go_wp2
          go_ret
          exact ⟨by simp [h3], (Below.refl _ _).alloc (Nat.le_refl _) _⟩
        · go_enter Tryz.func83, Tryz.ntmps83
          go_wp2
          go_ret
          exact ⟨by simp [h3], (Below.refl _ _).alloc (Nat.le_refl _) _⟩
      | false =>
        go_enter Tryz.func83, Tryz.ntmps83
        go_wp2
        go_ret
        exact ⟨by simp, (Below.refl _ _).alloc (Nat.le_refl _) _⟩
    · have b2 : (v == 29) = false := beq_eq_false_iff_ne.2 h2
      go_enter Tryz.func83, Tryz.ntmps83
      go_wp2
      go_ret
      exact ⟨by simp [h2], (Below.refl _ _).alloc (Nat.le_refl _) _⟩
  · have b1 : (t == 4294893568) = false := beq_eq_false_iff_ne.2 h1
    go_enter Tryz.func83, Tryz.ntmps83
    go_wp2
    go_ret
    exact ⟨by simp [h1], (Below.refl _ _).alloc (Nat.le_refl _) _⟩

set_option maxRecDepth 100000 in
set_option maxHeartbeats 1000000 in
theorem unpadded_any (w : World) (nm : ByteArray) (pd un mo : Int) (tx ch mu lo : Bool) (cf ff : Value) (hcf : Rp.FunV cf) (hff : Rp.FunV ff) (s : ByteArray) (hs : s.size ≤ 65534) :
    Calls Tryz.prog 122 #[.agg #[.string nm, .int .u8 pd, .int .i64 un, .int .i64 mo, .bool tx, .bool ch, .bool mu, .bool lo, cf, ff], .string s] w fun e w' => e = .returned (.bool (unp tx s)) ∧ Below w.heap.size w w' := by
  have c39 := fun W => Rp.trimmed_any s W (by omega)
  unfold unp
  cases tx with
  | true =>
    rw [if_pos rfl]
    generalize Rp.trimB s = q at c39 ⊢
    rcases hcf with rfl | ⟨j, rfl⟩ <;> rcases hff with rfl | ⟨j2, rfl⟩
    all_goals go_enter Tryz.func122, Tryz.ntmps122
    all_goals go_wp2_with (first | (go_at_call 80; refine (c39 _).mono ?_; rintro e W1 ⟨rfl, hb⟩) | fail)
    all_goals go_ret
    all_goals exact ⟨rfl, ((Below.refl _ _).alloc (Nat.le_refl _) _).trans (hb.mono (by simp))⟩
  | false =>
    rw [if_neg (by decide)]
    have hm : (((s.size : Int) % 2) == 0) = decide (s.size % 2 = 0) := by
      by_cases h : s.size % 2 = 0
      · rw [show decide (s.size % 2 = 0) = true by simp [h]]; exact beq_iff_eq.2 (by omega)
      · rw [show decide (s.size % 2 = 0) = false by simp [h]]; exact beq_eq_false_iff_ne.2 (by omega)
    have HM : Hid ((((s.size : Int) % 2) == 0) = decide (s.size % 2 = 0)) := hm
    generalize decide (s.size % 2 = 0) = z at HM ⊢
    clear hm
    rcases hcf with rfl | ⟨j, rfl⟩ <;> rcases hff with rfl | ⟨j2, rfl⟩
    all_goals go_enter Tryz.func122, Tryz.ntmps122
    all_goals go_wp2
    all_goals go_ret
    all_goals exact ⟨by rw [HM.out]; rfl, (Below.refl _ _).alloc (Nat.le_refl _) _⟩
end Go.Proofs.YtoikdpjjcnmgeaaGreatDoor
end

section
/-
  DERIVED. Is a tag known?
-/
namespace Go.Proofs.YtoikdpjjcnmgeaaGreatDoor
open Go Go.Proofs Go.RowKit

set_option maxRecDepth 100000 in
theorem known_any (w : World) (t : Nat) (ht : t < 4294967296) : Calls Tryz.prog 46 #[.int .u32 (t : Int)] w fun e w' => e = .returned (.bool (Tb.docF t (Tb.upTo 10)).isSome) ∧ Below w.heap.size w w' := by
  have c32 := Tb.find_any w t ht
  generalize Tb.docF t (Tb.upTo 10) = O at c32 ⊢
  generalize Tb.eT O = e0 at c32
  generalize Tb.eM O = e1 at c32
  generalize Tb.eV O = e2 at c32
  generalize Tb.eS O = e3 at c32
  generalize Tb.eL O = e4 at c32
  generalize Tb.eN O = e5 at c32
  generalize O.isSome = kn at c32 ⊢
  go_enter Tryz.func46, Tryz.ntmps46
  go_wp2_with (first | (go_at_call 75; refine c32.mono ?_; rintro e W2 ⟨rfl, hb2⟩) | fail)
  go_ret
  exact ⟨rfl, by first | exact hb2 | exact hb2.alloc hb2.size _⟩
end Go.Proofs.YtoikdpjjcnmgeaaGreatDoor
end

section
/-
  DERIVED. The VR that a tag has where none is said, by both.
-/
namespace Go.Proofs.YtoikdpjjcnmgeaaGreatDoor
open Go Go.Proofs Go.RowKit
open Wk (Nd)

/-- The VR where none is said. -/
def dflt (t : Nat) : Int :=
  if t = 4294893568 then 29 else if t / 65536 = 65534 then 0 else if t % 65536 = 0 then 24 else
  if (Tb.docF t (Tb.upTo 10)).isSome = true then Tb.eV (Tb.docF t (Tb.upTo 10)) else if t / 65536 % 2 = 1 ∧ 16 ≤ t % 65536 ∧ t % 65536 ≤ 255 then 11 else 25

set_option maxRecDepth 100000 in
set_option maxHeartbeats 1000000 in
theorem creator_any (w : World) (t : Nat) (ht : t < 4294967296) : Calls Tryz.prog 78 #[.int .u32 (t : Int)] w fun e w' => e = .returned (.bool (decide (t / 65536 % 2 = 1 ∧ 16 ≤ t % 65536 ∧ t % 65536 ≤ 255))) ∧ w = w' := by
  have c33 := Tb.group_any w t
  have c34 := element_any w t ht
  obtain ⟨R, hR⟩ : ∃ R, decide (t / 65536 % 2 = 1 ∧ 16 ≤ t % 65536 ∧ t % 65536 ≤ 255) = R := ⟨_, rfl⟩
  rw [hR]
  have hg : t / 65536 < 65536 := by omega
  have hm' : t % 65536 < 65536 := by omega
  generalize t / 65536 = g at c33 hR hg
  generalize t % 65536 = m at c34 hR hm'
  have HR : Hid _ := hR
  clear hR
  by_cases h1 : g % 2 = 1
  · have b1 : ((g : Int) % 2 == 1) = true := beq_iff_eq.2 (by omega)
    by_cases h2 : 16 ≤ m
    · have b2 : decide ((16 : Int) ≤ (m : Int)) = true := by simp; omega
      have HR2 : Hid (R = decide ((m : Int) ≤ 255)) := by
        show R = _
        rw [← HR.out]
        by_cases h3 : m ≤ 255
        · rw [show decide (g % 2 = 1 ∧ 16 ≤ m ∧ m ≤ 255) = true by simp [h1, h2, h3]]; symm; simp; omega
        · rw [show decide (g % 2 = 1 ∧ 16 ≤ m ∧ m ≤ 255) = false by simp [h3]]; symm; simp; omega
      clear HR
      go_enter Tryz.func78, Tryz.ntmps78
      go_wp2_with (first | (go_at_call 76; refine c33.mono ?_; rintro e w' ⟨rfl, rfl⟩) | (go_at_call 77; refine c34.mono ?_; rintro e w' ⟨rfl, rfl⟩))
      go_ret
      exact ⟨by rw [HR2.out]; rfl, rfl⟩
    · have b2 : decide ((16 : Int) ≤ (m : Int)) = false := by simp; omega
      have HR2 : Hid (R = false) := by show R = _; rw [← HR.out]; simp; omega
      clear HR
      go_enter Tryz.func78, Tryz.ntmps78
      go_wp2_with (first | (go_at_call 76; refine c33.mono ?_; rintro e w' ⟨rfl, rfl⟩) | (go_at_call 77; refine c34.mono ?_; rintro e w' ⟨rfl, rfl⟩))
      go_ret
      exact ⟨by rw [HR2.out]; rfl, rfl⟩
  · have b1 : ((g : Int) % 2 == 1) = false := beq_eq_false_iff_ne.2 (by omega)
    have HR2 : Hid (R = false) := by show R = _; rw [← HR.out]; simp; omega
    clear HR
    go_enter Tryz.func78, Tryz.ntmps78
    go_wp2_with (first | (go_at_call 76; refine c33.mono ?_; rintro e w' ⟨rfl, rfl⟩) | fail)
    go_ret
    exact ⟨by rw [HR2.out]; rfl, rfl⟩

set_option maxRecDepth 100000 in
set_option maxHeartbeats 2000000 in
theorem default_any (w : World) (t : Nat) (ht : t < 4294967296) : Calls Tryz.prog 47 #[.int .u32 (t : Int)] w fun e w' => e = .returned (.int .i64 (dflt t)) ∧ Below w.heap.size w w' := by
  have c33 := Tb.group_any w t
  have c33b : Calls Tryz.prog 76 #[.int .u32 4294893568] w fun e w' => e = .returned (.int .u32 65534) ∧ w = w' := Tb.group_any w 4294893568
  have c34 := element_any w t ht
  have c32 := Tb.find_any w t ht
  have c35 := fun W => creator_any W t ht
  obtain ⟨R, hR⟩ : ∃ R, dflt t = R := ⟨_, rfl⟩
  rw [hR]
  unfold dflt at hR
  generalize Tb.docF t (Tb.upTo 10) = O at c32 hR
  generalize Tb.eT O = e0 at c32
  generalize Tb.eM O = e1 at c32
  generalize Tb.eV O = e2 at c32 hR
  generalize Tb.eS O = e3 at c32
  generalize Tb.eL O = e4 at c32
  generalize Tb.eN O = e5 at c32
  generalize O.isSome = kn at c32 hR
  have HR : Hid _ := hR
  clear hR
  by_cases h1 : t = 4294893568
  · have HR2 : Hid (R = 29) := by show R = _; rw [← HR.out, if_pos h1]
    have b1 : ((t : Int) == 4294893568) = true := beq_iff_eq.2 (by omega)
    clear HR h1
    go_enter Tryz.func47, Tryz.ntmps47
    go_wp2
    go_ret
    exact ⟨by rw [HR2.out]; rfl, Below.refl _ _⟩
  have b1 : ((t : Int) == 4294893568) = false := beq_eq_false_iff_ne.2 (by omega)
  have HR1 : Hid _ := (if_neg h1).symm.trans HR.out
  clear HR h1
  by_cases h2 : t / 65536 = 65534
  · have HR2 : Hid (R = 0) := by show R = _; rw [← HR1.out, if_pos h2]
    rw [h2] at c33
    clear HR1 h2
    go_enter Tryz.func47, Tryz.ntmps47
    go_wp2_with (go_at_call 76; refine StopF.out ?_)
    refine ⟨Calls.mono c33 ?_⟩
    rintro e w' ⟨rfl, rfl⟩
    go_wp2_with (go_at_call 76; refine StopF.out ?_)
    refine ⟨Calls.mono c33b ?_⟩
    rintro e w' ⟨rfl, rfl⟩
    go_wp2
    go_ret
    exact ⟨by rw [HR2.out]; rfl, Below.refl _ _⟩
  have b2 : (((t / 65536 : Nat) : Int) == 65534) = false := beq_eq_false_iff_ne.2 (by omega)
  have HR2 : Hid _ := (if_neg h2).symm.trans HR1.out
  have hcr : decide (t / 65536 % 2 = 1 ∧ 16 ≤ t % 65536 ∧ t % 65536 ≤ 255) = decide (t / 65536 % 2 = 1 ∧ 16 ≤ t % 65536 ∧ t % 65536 ≤ 255) := rfl
  obtain ⟨cr, hcr2⟩ : ∃ cr, decide (t / 65536 % 2 = 1 ∧ 16 ≤ t % 65536 ∧ t % 65536 ≤ 255) = cr := ⟨_, rfl⟩
  have HCR : Hid _ := hcr2
  simp only [hcr2] at c35
  clear HR1 h2 hcr hcr2
  generalize t / 65536 = g at c33 b2 HR2 HCR
  by_cases h3 : t % 65536 = 0
  · have HR3 : Hid (R = 24) := by show R = _; rw [← HR2.out, if_pos h3]
    rw [h3] at c34
    clear HR2 h3 HCR
    go_enter Tryz.func47, Tryz.ntmps47
    go_wp2_with (go_at_call 76; refine StopF.out ?_)
    refine ⟨Calls.mono c33 ?_⟩
    rintro e w' ⟨rfl, rfl⟩
    go_wp2_with (go_at_call 76; refine StopF.out ?_)
    refine ⟨Calls.mono c33b ?_⟩
    rintro e w' ⟨rfl, rfl⟩
    go_wp2_with (go_at_call 77; refine StopF.out ?_)
    refine ⟨Calls.mono c34 ?_⟩
    rintro e w' ⟨rfl, rfl⟩
    go_wp2
    go_ret
    exact ⟨by rw [HR3.out]; rfl, Below.refl _ _⟩
  have HR3 : Hid _ := (if_neg h3).symm.trans HR2.out
  have b3 : (((t % 65536 : Nat) : Int) == 0) = false := beq_eq_false_iff_ne.2 (by omega)
  generalize t % 65536 = m at c34 b3 HR3 HCR
  clear HR2 h3
  go_enter Tryz.func47, Tryz.ntmps47
  go_wp2_with (go_at_call 76; refine StopF.out ?_)
  refine ⟨Calls.mono c33 ?_⟩
  rintro e w' ⟨rfl, rfl⟩
  go_wp2_with (go_at_call 76; refine StopF.out ?_)
  refine ⟨Calls.mono c33b ?_⟩
  rintro e w' ⟨rfl, rfl⟩
  go_wp2_with (go_at_call 77; refine StopF.out ?_)
  refine ⟨Calls.mono c34 ?_⟩
  rintro e w' ⟨rfl, rfl⟩
  go_wp2_with (go_at_call 75; refine StopF.out ?_)
  refine ⟨Calls.mono c32 ?_⟩
  rintro e W2 ⟨rfl, hb2⟩
  cases kn with
  | true =>
    have HR4 : Hid (R = e2) := by show R = _; rw [← HR3.out, if_pos rfl]
    go_wp2
    go_ret
    exact ⟨by rw [HR4.out]; rfl, hb2.alloc hb2.size _⟩
  | false =>
    cases cr with
    | true =>
      have HR4 : Hid (R = 11) := by show R = _; rw [← HR3.out, if_neg (by decide), if_pos (of_decide_eq_true HCR.out)]
      go_wp2_with (first | (go_at_call 78; refine (c35 _).mono ?_; rintro e w' ⟨rfl, rfl⟩) | fail)
      go_ret
      exact ⟨by rw [HR4.out]; rfl, hb2.alloc hb2.size _⟩
    | false =>
      have HR4 : Hid (R = 25) := by show R = _; rw [← HR3.out, if_neg (by decide), if_neg (of_decide_eq_false HCR.out)]
      go_wp2_with (first | (go_at_call 78; refine (c35 _).mono ?_; rintro e w' ⟨rfl, rfl⟩) | fail)
      go_ret
      exact ⟨by rw [HR4.out]; rfl, hb2.alloc hb2.size _⟩

end Go.Proofs.YtoikdpjjcnmgeaaGreatDoor
end
