import Derived.Test.YtidcjobokfgeoaaD
/-
  DERIVED. What is told of a step.
-/
namespace Go.Proofs.Ytidcjobokfgeoaa
open Go Go.Proofs Go.RowKit

/-- A step. -/
def SP (x : Nat → ByteArray) (z : Int) : Array Value := #[.string (x 0), .string (x 1), .string (x 2), .string (x 3), .string (x 4), .string (x 5), .string (x 6), .string (x 7), .string (x 8), .string (x 9), .string (x 10), .string (x 11), .string (x 12), .string (x 13), .string (x 14), .string (x 15), .string (x 16), .string (x 17), .string (x 18), .int .i64 z]
/-- Its status as a word. -/
def wd (z : Int) : ByteArray := if z = 1 then ⟨#[83, 67, 72, 69, 68, 85, 76, 69, 68]⟩ else if z = 2 then ⟨#[83, 84, 65, 82, 84, 69, 68]⟩ else if z = 3 then ⟨#[67, 79, 77, 80, 76, 69, 84, 69, 68]⟩ else if z = 4 then ⟨#[68, 73, 83, 67, 79, 78, 84, 73, 78, 85, 69, 68]⟩ else ⟨#[]⟩

set_option maxRecDepth 100000 in
set_option maxHeartbeats 1000000 in
theorem text19 (w : World) (x : Nat → ByteArray) (z : Int) : Calls Try.prog 19 #[.agg (SP x z)] w fun e w' => e = .returned (.string (x 1)) ∧ Below w.heap.size w w' := by
  unfold SP
  go_enter Try.func19, Try.ntmps19
  go_wp2
  go_ret
  exact ⟨rfl, (Below.refl _ _).alloc (Nat.le_refl _) _⟩

set_option maxRecDepth 100000 in
set_option maxHeartbeats 1000000 in
theorem text20 (w : World) (x : Nat → ByteArray) (z : Int) : Calls Try.prog 20 #[.agg (SP x z)] w fun e w' => e = .returned (.string (x 10)) ∧ Below w.heap.size w w' := by
  unfold SP
  go_enter Try.func20, Try.ntmps20
  go_wp2
  go_ret
  exact ⟨rfl, (Below.refl _ _).alloc (Nat.le_refl _) _⟩

set_option maxRecDepth 100000 in
set_option maxHeartbeats 1000000 in
theorem text21 (w : World) (x : Nat → ByteArray) (z : Int) : Calls Try.prog 21 #[.agg (SP x z)] w fun e w' => e = .returned (.string (x 5)) ∧ Below w.heap.size w w' := by
  unfold SP
  go_enter Try.func21, Try.ntmps21
  go_wp2
  go_ret
  exact ⟨rfl, (Below.refl _ _).alloc (Nat.le_refl _) _⟩

set_option maxRecDepth 100000 in
set_option maxHeartbeats 1000000 in
theorem text22 (w : World) (x : Nat → ByteArray) (z : Int) : Calls Try.prog 22 #[.agg (SP x z)] w fun e w' => e = .returned (.string (x 6)) ∧ Below w.heap.size w w' := by
  unfold SP
  go_enter Try.func22, Try.ntmps22
  go_wp2
  go_ret
  exact ⟨rfl, (Below.refl _ _).alloc (Nat.le_refl _) _⟩

set_option maxRecDepth 100000 in
set_option maxHeartbeats 1000000 in
theorem text23 (w : World) (x : Nat → ByteArray) (z : Int) : Calls Try.prog 23 #[.agg (SP x z)] w fun e w' => e = .returned (.string (x 7)) ∧ Below w.heap.size w w' := by
  unfold SP
  go_enter Try.func23, Try.ntmps23
  go_wp2
  go_ret
  exact ⟨rfl, (Below.refl _ _).alloc (Nat.le_refl _) _⟩

set_option maxRecDepth 100000 in
set_option maxHeartbeats 1000000 in
theorem text24 (w : World) (x : Nat → ByteArray) (z : Int) : Calls Try.prog 24 #[.agg (SP x z)] w fun e w' => e = .returned (.string (x 8)) ∧ Below w.heap.size w w' := by
  unfold SP
  go_enter Try.func24, Try.ntmps24
  go_wp2
  go_ret
  exact ⟨rfl, (Below.refl _ _).alloc (Nat.le_refl _) _⟩

set_option maxRecDepth 100000 in
set_option maxHeartbeats 1000000 in
theorem text25 (w : World) (x : Nat → ByteArray) (z : Int) : Calls Try.prog 25 #[.agg (SP x z)] w fun e w' => e = .returned (.string (x 9)) ∧ Below w.heap.size w w' := by
  unfold SP
  go_enter Try.func25, Try.ntmps25
  go_wp2
  go_ret
  exact ⟨rfl, (Below.refl _ _).alloc (Nat.le_refl _) _⟩

set_option maxRecDepth 100000 in
set_option maxHeartbeats 1000000 in
theorem text26 (w : World) (x : Nat → ByteArray) (z : Int) : Calls Try.prog 26 #[.agg (SP x z)] w fun e w' => e = .returned (.string (x 4)) ∧ Below w.heap.size w w' := by
  unfold SP
  go_enter Try.func26, Try.ntmps26
  go_wp2
  go_ret
  exact ⟨rfl, (Below.refl _ _).alloc (Nat.le_refl _) _⟩

set_option maxRecDepth 100000 in
set_option maxHeartbeats 1000000 in
theorem text27 (w : World) (x : Nat → ByteArray) (z : Int) : Calls Try.prog 27 #[.agg (SP x z)] w fun e w' => e = .returned (.string (x 3)) ∧ Below w.heap.size w w' := by
  unfold SP
  go_enter Try.func27, Try.ntmps27
  go_wp2
  go_ret
  exact ⟨rfl, (Below.refl _ _).alloc (Nat.le_refl _) _⟩

set_option maxRecDepth 100000 in
set_option maxHeartbeats 1000000 in
theorem text28 (w : World) (x : Nat → ByteArray) (z : Int) : Calls Try.prog 28 #[.agg (SP x z)] w fun e w' => e = .returned (.string (x 11)) ∧ Below w.heap.size w w' := by
  unfold SP
  go_enter Try.func28, Try.ntmps28
  go_wp2
  go_ret
  exact ⟨rfl, (Below.refl _ _).alloc (Nat.le_refl _) _⟩

set_option maxRecDepth 100000 in
set_option maxHeartbeats 1000000 in
theorem text29 (w : World) (x : Nat → ByteArray) (z : Int) : Calls Try.prog 29 #[.agg (SP x z)] w fun e w' => e = .returned (.string (x 12)) ∧ Below w.heap.size w w' := by
  unfold SP
  go_enter Try.func29, Try.ntmps29
  go_wp2
  go_ret
  exact ⟨rfl, (Below.refl _ _).alloc (Nat.le_refl _) _⟩

set_option maxRecDepth 100000 in
set_option maxHeartbeats 1000000 in
theorem text30 (w : World) (x : Nat → ByteArray) (z : Int) : Calls Try.prog 30 #[.agg (SP x z)] w fun e w' => e = .returned (.string (x 15)) ∧ Below w.heap.size w w' := by
  unfold SP
  go_enter Try.func30, Try.ntmps30
  go_wp2
  go_ret
  exact ⟨rfl, (Below.refl _ _).alloc (Nat.le_refl _) _⟩

set_option maxRecDepth 100000 in
set_option maxHeartbeats 1000000 in
theorem text31 (w : World) (x : Nat → ByteArray) (z : Int) : Calls Try.prog 31 #[.agg (SP x z)] w fun e w' => e = .returned (.string (x 16)) ∧ Below w.heap.size w w' := by
  unfold SP
  go_enter Try.func31, Try.ntmps31
  go_wp2
  go_ret
  exact ⟨rfl, (Below.refl _ _).alloc (Nat.le_refl _) _⟩

set_option maxRecDepth 100000 in
set_option maxHeartbeats 1000000 in
theorem text32 (w : World) (x : Nat → ByteArray) (z : Int) : Calls Try.prog 32 #[.agg (SP x z)] w fun e w' => e = .returned (.string (x 17)) ∧ Below w.heap.size w w' := by
  unfold SP
  go_enter Try.func32, Try.ntmps32
  go_wp2
  go_ret
  exact ⟨rfl, (Below.refl _ _).alloc (Nat.le_refl _) _⟩

set_option maxRecDepth 100000 in
set_option maxHeartbeats 1000000 in
theorem text33 (w : World) (x : Nat → ByteArray) (z : Int) : Calls Try.prog 33 #[.agg (SP x z)] w fun e w' => e = .returned (.string (x 18)) ∧ Below w.heap.size w w' := by
  unfold SP
  go_enter Try.func33, Try.ntmps33
  go_wp2
  go_ret
  exact ⟨rfl, (Below.refl _ _).alloc (Nat.le_refl _) _⟩

set_option maxRecDepth 100000 in
set_option maxHeartbeats 1000000 in
theorem text34 (w : World) (x : Nat → ByteArray) (z : Int) : Calls Try.prog 34 #[.agg (SP x z)] w fun e w' => e = .returned (.string (x 0)) ∧ Below w.heap.size w w' := by
  unfold SP
  go_enter Try.func34, Try.ntmps34
  go_wp2
  go_ret
  exact ⟨rfl, (Below.refl _ _).alloc (Nat.le_refl _) _⟩

set_option maxRecDepth 100000 in
set_option maxHeartbeats 1000000 in
theorem text35 (w : World) (x : Nat → ByteArray) (z : Int) : Calls Try.prog 35 #[.agg (SP x z)] w fun e w' => e = .returned (.string (x 13)) ∧ Below w.heap.size w w' := by
  unfold SP
  go_enter Try.func35, Try.ntmps35
  go_wp2
  go_ret
  exact ⟨rfl, (Below.refl _ _).alloc (Nat.le_refl _) _⟩

set_option maxRecDepth 100000 in
set_option maxHeartbeats 1000000 in
theorem text36 (w : World) (x : Nat → ByteArray) (z : Int) : Calls Try.prog 36 #[.agg (SP x z)] w fun e w' => e = .returned (.string (x 14)) ∧ Below w.heap.size w w' := by
  unfold SP
  go_enter Try.func36, Try.ntmps36
  go_wp2
  go_ret
  exact ⟨rfl, (Below.refl _ _).alloc (Nat.le_refl _) _⟩

set_option maxRecDepth 100000 in
set_option maxHeartbeats 1000000 in
theorem text38 (w : World) (x : Nat → ByteArray) (z : Int) : Calls Try.prog 38 #[.agg (SP x z)] w fun e w' => e = .returned (.string (x 2)) ∧ Below w.heap.size w w' := by
  unfold SP
  go_enter Try.func38, Try.ntmps38
  go_wp2
  go_ret
  exact ⟨rfl, (Below.refl _ _).alloc (Nat.le_refl _) _⟩

set_option maxRecDepth 100000 in
set_option maxHeartbeats 1000000 in
theorem text37 (w : World) (x : Nat → ByteArray) (z : Int) : Calls Try.prog 37 #[.agg (SP x z)] w fun e w' => e = .returned (.string (wd z)) ∧ Below w.heap.size w w' := by
  obtain ⟨r, hr⟩ : ∃ r, wd z = r := ⟨_, rfl⟩
  rw [hr]
  have HR : Hid (wd z = r) := hr
  clear hr
  have hB := fun o => (Below.refl w.heap.size w).alloc (Nat.le_refl _) o
  unfold SP
  by_cases h1 : z = 1
  · subst h1
    go_enter Try.func37, Try.ntmps37
    go_wp2
    go_ret
    exact ⟨by rw [← HR.out]; rfl, hB _⟩
  by_cases h2 : z = 2
  · subst h2
    go_enter Try.func37, Try.ntmps37
    go_wp2
    go_ret
    exact ⟨by rw [← HR.out]; rfl, hB _⟩
  by_cases h3 : z = 3
  · subst h3
    go_enter Try.func37, Try.ntmps37
    go_wp2
    go_ret
    exact ⟨by rw [← HR.out]; rfl, hB _⟩
  by_cases h4 : z = 4
  · subst h4
    go_enter Try.func37, Try.ntmps37
    go_wp2
    go_ret
    exact ⟨by rw [← HR.out]; rfl, hB _⟩
  · have HE : Hid (r = ⟨#[]⟩) := by
      show _ = _
      rw [← HR.out, wd, if_neg h1, if_neg h2, if_neg h3, if_neg h4]
    go_enter Try.func37, Try.ntmps37
    go_wp2
    go_ret
    exact ⟨by rw [HE.out]; rfl, hB _⟩
end Go.Proofs.Ytidcjobokfgeoaa
