import Derived.Test.YtidcjobokfgeoaaK
import Derived.Deep.RegionHeld3
/-
  DERIVED. The document's row: what is known at the top and in the item.
-/
namespace Go.Proofs.Ytidcjobokfgeoaa
open Go Go.Proofs Go.RowKit

def topC (x : Nat → ByteArray) : Array Value := #[.int .u32 524368, .int .i64 16, .string (x 1), .int .u32 524432, .int .i64 15, .string (x 10), .int .u32 1048592, .int .i64 15, .string (x 5), .int .u32 1048608, .int .i64 11, .string (x 6), .int .u32 1048609, .int .i64 11, .string (x 7), .int .u32 1048624, .int .i64 5, .string (x 8), .int .u32 1048640, .int .i64 4, .string (x 9), .int .u32 2097165, .int .i64 23, .string (x 4), .int .u32 3280992, .int .i64 11, .string (x 3), .int .u32 4198401, .int .i64 16, .string (x 2)]
def innC (x : Nat → ByteArray) (z : Int) : Array Value := #[.int .u32 524384, .int .i64 4, .string (x 11), .int .u32 4194305, .int .i64 1, .string (x 12), .int .u32 4194306, .int .i64 5, .string (x 15), .int .u32 4194307, .int .i64 21, .string (x 16), .int .u32 4194310, .int .i64 15, .string (x 17), .int .u32 4194311, .int .i64 11, .string (x 18), .int .u32 4194313, .int .i64 16, .string (x 0), .int .u32 4194320, .int .i64 16, .string (x 13), .int .u32 4194321, .int .i64 16, .string (x 14), .int .u32 4194336, .int .i64 4, .string (wd z)]

set_option maxRecDepth 100000 in
set_option maxHeartbeats 4000000 in
theorem top_any (w : World) (x : Nat → ByteArray) (z : Int) : Calls Try.prog 12 #[.agg (SP x z)] w fun e w' => ∃ g, e = .returned (.slice (some ⟨g, 0, none⟩) 10 10) ∧ w'.heap[g]? = some (.cells (topC x) 53) ∧ Below w.heap.size w w' := by
  have hB := fun o p => ((Below.refl w.heap.size w).alloc (Nat.le_refl _) o).alloc (by simp) p
  have hN := fun o p => heap_new (w.alloc o) p
  simp only [size_alloc] at hN
  unfold SP
  go_enter Try.func12, Try.ntmps12
  go_wp2
  go_ret
  exact ⟨_, rfl, hN _ _, hB _ _⟩

set_option maxRecDepth 100000 in
set_option maxHeartbeats 1000000 in
theorem word_any (w : World) (z : Int) : Calls Try.prog 18 #[.int .i64 z] w fun e w' => e = .returned (.string (wd z)) ∧ w = w' := by
  obtain ⟨r, hr⟩ : ∃ r, wd z = r := ⟨_, rfl⟩
  rw [hr]
  have HR : Hid (wd z = r) := hr
  clear hr
  by_cases h1 : z = 1
  · subst h1
    go_enter Try.func18, Try.ntmps18
    go_wp2
    go_ret
    exact ⟨by rw [← HR.out]; rfl, rfl⟩
  by_cases h2 : z = 2
  · subst h2
    go_enter Try.func18, Try.ntmps18
    go_wp2
    go_ret
    exact ⟨by rw [← HR.out]; rfl, rfl⟩
  by_cases h3 : z = 3
  · subst h3
    go_enter Try.func18, Try.ntmps18
    go_wp2
    go_ret
    exact ⟨by rw [← HR.out]; rfl, rfl⟩
  by_cases h4 : z = 4
  · subst h4
    go_enter Try.func18, Try.ntmps18
    go_wp2
    go_ret
    exact ⟨by rw [← HR.out]; rfl, rfl⟩
  have HE : Hid (r = ⟨#[]⟩) := by
    show _ = _
    rw [← HR.out, wd, if_neg h1, if_neg h2, if_neg h3, if_neg h4]
  go_enter Try.func18, Try.ntmps18
  go_wp2
  go_ret
  exact ⟨by rw [HE.out]; rfl, rfl⟩

set_option maxRecDepth 100000 in
set_option maxHeartbeats 4000000 in
theorem inner_any (w : World) (x : Nat → ByteArray) (z : Int) : Calls Try.prog 13 #[.agg (SP x z)] w fun e w' => ∃ g, e = .returned (.slice (some ⟨g, 0, none⟩) 10 10) ∧ w'.heap[g]? = some (.cells (innC x z) 53) ∧ Below w.heap.size w w' := by
  obtain ⟨w1, hw1⟩ : ∃ w1, w1 = w.alloc (.cells (SP x z) 23) := ⟨_, rfl⟩
  have hh : w1.heap[w.heap.size]? = some (.cells (SP x z) 23) := by rw [hw1]; exact heap_new w _
  have HB1 : Hid (Below w.heap.size w w1) := by rw [hw1]; exact (Below.refl _ _).alloc (Nat.le_refl _) _
  have c11 : w1.cell? ⟨w.heap.size, 11, none⟩ = some (.string (x 11)) := by simp only [World.cell?, hh]; rfl
  have c12 : w1.cell? ⟨w.heap.size, 12, none⟩ = some (.string (x 12)) := by simp only [World.cell?, hh]; rfl
  have c15 : w1.cell? ⟨w.heap.size, 15, none⟩ = some (.string (x 15)) := by simp only [World.cell?, hh]; rfl
  have c16 : w1.cell? ⟨w.heap.size, 16, none⟩ = some (.string (x 16)) := by simp only [World.cell?, hh]; rfl
  have c17 : w1.cell? ⟨w.heap.size, 17, none⟩ = some (.string (x 17)) := by simp only [World.cell?, hh]; rfl
  have c18 : w1.cell? ⟨w.heap.size, 18, none⟩ = some (.string (x 18)) := by simp only [World.cell?, hh]; rfl
  have c0 : w1.cell? ⟨w.heap.size, 0, none⟩ = some (.string (x 0)) := by simp only [World.cell?, hh]; rfl
  have c13 : w1.cell? ⟨w.heap.size, 13, none⟩ = some (.string (x 13)) := by simp only [World.cell?, hh]; rfl
  have c14 : w1.cell? ⟨w.heap.size, 14, none⟩ = some (.string (x 14)) := by simp only [World.cell?, hh]; rfl
  have c19 : w1.cell? ⟨w.heap.size, 19, none⟩ = some (.int .i64 z) := by simp only [World.cell?, hh]; rfl
  have cW := fun W => word_any W z
  clear hh
  go_enter Try.func13, Try.ntmps13
  go_wp2
  rw [← hw1]
  clear hw1
  go_region_held3 (fun w' => w'.cell? ⟨w.heap.size, 11, none⟩ = some (.string (x 11)) ∧ w'.cell? ⟨w.heap.size, 12, none⟩ = some (.string (x 12)) ∧ w'.cell? ⟨w.heap.size, 15, none⟩ = some (.string (x 15)) ∧ w'.cell? ⟨w.heap.size, 16, none⟩ = some (.string (x 16)) ∧ w'.cell? ⟨w.heap.size, 17, none⟩ = some (.string (x 17)) ∧ w'.cell? ⟨w.heap.size, 18, none⟩ = some (.string (x 18)) ∧ w'.cell? ⟨w.heap.size, 0, none⟩ = some (.string (x 0)) ∧ w'.cell? ⟨w.heap.size, 13, none⟩ = some (.string (x 13)) ∧ w'.cell? ⟨w.heap.size, 14, none⟩ = some (.string (x 14)) ∧ w'.cell? ⟨w.heap.size, 19, none⟩ = some (.int .i64 z)) (go_keep) (first | (go_at_call 18; refine Calls.mono (cW _) ?_; rintro e w' ⟨rfl, rfl⟩))
  go_wp2
  go_ret
  exact ⟨_, rfl, heap_new w1 _, HB1.out.trans ((((Below.refl _ _).alloc (Nat.le_refl _) _).drew).mono HB1.out.size)⟩
end Go.Proofs.Ytidcjobokfgeoaa
