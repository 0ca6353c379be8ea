import Derived.Test.YtidcjobokfgeoaaJ
/-
  DERIVED. The same nodes?
-/
namespace Go.Proofs.Ytidcjobokfgeoaa
open Go Go.Proofs Go.RowKit

theorem ans_len (x : Nat → ByteArray) (z : Int) : ∀ n, (ans x z n).length = n * 4
  | 0 => rfl
  | n + 1 => by rw [ans_next, List.length_append, ans_len x z n]; simp [an, nd]; omega
theorem ans_get (x : Nat → ByteArray) (z : Int) : ∀ (n i k : Nat), i < n → k < 4 → (ans x z n)[i * 4 + k]? = (an x z i)[k]?
  | 0, i, k, h, _ => by omega
  | n + 1, i, k, h, hk => by
    rw [ans_next]
    by_cases e : i < n
    · rw [List.getElem?_append_left (by rw [ans_len]; omega)]
      exact ans_get x z n i k e hk
    · obtain rfl : i = n := by omega
      rw [List.getElem?_append_right (by rw [ans_len]; omega), ans_len]
      congr 1
      omega
/-- A list of a step's nodes. -/
def Rw (x : Nat → ByteArray) (z : Int) (g c : Nat) (w : World) : Prop := w.ownsRow 0 41 4 (.slice (some ⟨g, 0, none⟩) 22 c) 22 (ans x z 22)
theorem Rw.cells {x : Nat → ByteArray} {z : Int} {g c : Nat} {w : World} (h : Rw x z g c w) {i : Nat} (hi : i < 22) : w.cell? ⟨g, i * 4, none⟩ = some (.int .u32 (ct i)) ∧ w.cell? ⟨g, i * 4 + 1, none⟩ = some (.int .i64 (cv i)) ∧ w.cell? ⟨g, i * 4 + 2, none⟩ = some (.int .i64 (cn i)) ∧ w.cell? ⟨g, i * 4 + 3, none⟩ = some (.string (txF x z (cf i))) :=
  ⟨(h.cellAt (i * 4) (by omega)).trans (ans_get x z 22 i 0 hi (by decide)), (h.cellAt (i * 4 + 1) (by omega)).trans (ans_get x z 22 i 1 hi (by decide)), (h.cellAt (i * 4 + 2) (by omega)).trans (ans_get x z 22 i 2 hi (by decide)), (h.cellAt (i * 4 + 3) (by omega)).trans (ans_get x z 22 i 3 hi (by decide))⟩

set_option maxRecDepth 100000 in
set_option maxHeartbeats 1000000 in
theorem nodes_same (w : World) (x : Nat → ByteArray) (z : Int) (g1 c1 g2 c2 : Nat) (h1 : Rw x z g1 c1 w) (h2 : Rw x z g2 c2 w) : Calls Try.prog 6 #[.slice (some ⟨g1, 0, none⟩) 22 c1, .slice (some ⟨g2, 0, none⟩) 22 c2] w fun e w' => e = .returned (.bool true) ∧ Below w.heap.size w w' := by
  have H1 : Hid (Rw x z g1 c1 w) := h1
  have H2 : Hid (Rw x z g2 c2 w) := h2
  clear h1 h2
  go_enter Try.func6, Try.ntmps6
  go_wp2
  go_loopw [5] (fun s5 wx => ∃ i : Nat, s5 = .int .i64 (i : Int) ∧ i ≤ 22 ∧ ∃ m, wx = w.drewN m) (fun s5 _ => 22 - (intOf s5).toNat)
  case atStart => exact ⟨0, rfl, by omega, 0, rfl⟩
  case round =>
    obtain ⟨i, rfl, hi22, m, rfl⟩ := hrel
    by_cases hin : i < 22
    · obtain ⟨a0, a1, a2, a3⟩ := H1.out.cells hin
      obtain ⟨b0, b1, b2, b3⟩ := H2.out.cells hin
      have hI : (i : Int) < 22 := by omega
      generalize txF x z (cf i) = tx at a3 b3
      go_wp2
      go_quiet (fail)
      go_wp2
      go_roundw
      case rel => exact ⟨i + 1, by go_num, by omega, _, rfl⟩
      case measure => simp [intOf]; omega
    · obtain rfl : i = 22 := by omega
      go_wp2
      go_ret
      exact ⟨rfl, below_drw (Below.refl _ _) _⟩
end Go.Proofs.Ytidcjobokfgeoaa
