import Derived.Test.YtbedfillgdhaaaaGreatDoorO
import Derived.Deep.RegionHeld3
namespace Go.Proofs.YtbedfillgdhaaaaGreatDoor
open Go Go.Proofs Go.RowKit

theorem first_drew {W W' : World} (h : Below W.drew.heap.size W.drew W') : Below W.heap.size W W' := ((Below.refl _ W).drew).trans h

/-- 'Below', as a conjunction: a draw turns nothing of it. -/
def Bl (B : Nat) (w W : World) : Prop := W.os = w.os ∧ W.tape = w.tape ∧ W.output = w.output ∧ w.heap.size ≤ W.heap.size ∧ ∀ k, k < B → W.heap[k]? = w.heap[k]?
theorem Bl.of {B : Nat} {w W : World} (h : Below B w W) : Bl B w W := ⟨h.os, h.tape, h.output, h.size, h.block⟩
theorem Bl.to {B : Nat} {w W : World} (h : Bl B w W) : Below B w W := ⟨h.1, h.2.1, h.2.2.1, h.2.2.2.1, h.2.2.2.2⟩

/-- What is looked at again and again: the plain journal, the document's fault. -/
def Bn (w W : World) (p6 p7 gz : Nat) : Prop :=
  NobJ W (some ⟨p6, 0, none⟩) ∧ W.cell? ⟨p7, 0, none⟩ = some (.slice (some ⟨gz, 0, none⟩) 1 1) ∧ W.cell? ⟨p7, 1, none⟩ = some (.int .i64 3) ∧ W.cell? ⟨gz, 0, none⟩ = some (.string { data := #[106, 111, 117, 114, 110, 97, 108] }) ∧ W.cell? ⟨gz, 1, none⟩ = some (.int .i64 0) ∧ Bl w.heap.size w W

theorem Bn.next {w W W' : World} {p6 p7 gz : Nat} (h : Bn w W p6 p7 gz) (hb : Below W.heap.size W W') : Bn w W' p6 p7 gz :=
  ⟨h.1.next hb, (hb.cell (cell_lt h.2.1)).trans h.2.1, (hb.cell (cell_lt h.2.2.1)).trans h.2.2.1, (hb.cell (cell_lt h.2.2.2.1)).trans h.2.2.2.1, (hb.cell (cell_lt h.2.2.2.2.1)).trans h.2.2.2.2.1, Bl.of (h.2.2.2.2.2.to.trans (hb.mono h.2.2.2.2.2.to.size))⟩

theorem Bn.drew {w W : World} {p6 p7 gz : Nat} (h : Bn w W p6 p7 gz) : Bn w W.drew p6 p7 gz := h.next ((Below.refl _ W).drew)

theorem isx {w W : World} {p6 p7 gz q : Nat} (h : Bn w W p6 p7 gz) (hf : FaultAt W q 3) : Calls Tryz.prog 11 #[.iface 155 (.pointer (some ⟨q, 0, none⟩)), .agg #[.slice (some ⟨gz, 0, none⟩) 1 1, .int .i64 3]] W fun e w' => e = .returned (.bool true) ∧ Below W.heap.size W w' :=
  is_one 3 (by decide) q gz 1 0 W hf.1 hf.2.1 hf.2.2 h.2.2.2.1 h.2.2.2.2.1

set_option maxRecDepth 100000 in
set_option maxHeartbeats 4000000 in
theorem nobody_any (v1 v2 : Value) (w : World) : Calls Tryz.prog 3 #[v1, v2] w fun e w' => e = .returned (.bool true) ∧ Below w.heap.size w w' := by
  go_enter Tryz.func3, Tryz.ntmps3
  go_wp2_with (go_at_call 9; fail)
  obtain ⟨W0, hW0⟩ : ∃ W0, w.alloc (.cells #[.pointer none, .string { data := #[] }, .int .i64 0, .int .u64 0, .int .i64 0, .int .u32 0, .bool false] 29) = W0 := ⟨_, rfl⟩
  rw [hW0]
  have hb0 : Below w.heap.size w W0 := hW0 ▸ (Below.refl _ _).alloc (Nat.le_refl _) _
  have hJ0 : NobJ W0 (some ⟨w.heap.size, 0, none⟩) := by
    rw [← hW0]
    exact .inr ⟨_, rfl, by simp⟩
  obtain ⟨p6, hp6⟩ : ∃ p, w.heap.size = p := ⟨_, rfl⟩
  rw [hp6] at hJ0 ⊢
  refine (new0_any _ _ W0).mono ?_
  obtain ⟨gz, hgz⟩ : ∃ p, W0.heap.size + 1 = p := ⟨_, rfl⟩
  rw [hgz]
  rintro e W1 ⟨rfl, hb1, q0, q1, hz⟩
  clear hgz
  go_wp2_with (go_at_call 10; fail)
  obtain ⟨W2, hW2⟩ : ∃ W2, W1.alloc (.cells #[.slice (some ⟨gz, 0, none⟩) 1 1, .int .i64 3] 32) = W2 := ⟨_, rfl⟩
  rw [hW2]
  have hb2 : Below W1.heap.size W1 W2 := hW2 ▸ (Below.refl _ _).alloc (Nat.le_refl _) _
  obtain ⟨p7, hp7⟩ : ∃ p, W1.heap.size = p := ⟨_, rfl⟩
  have hB : Bn w W2 p6 p7 gz := by
    refine ⟨(hJ0.next hb1).next hb2, ?_, ?_, (hb2.cell (cell_lt q0)).trans q0, (hb2.cell (cell_lt q1)).trans q1, Bl.of ((hb0.trans (hb1.mono hb0.size)).trans (hb2.mono (Nat.le_trans hb0.size hb1.size)))⟩
    · rw [← hW2, ← hp7]; simp
    · rw [← hW2, ← hp7]; simp
  rw [hp7]
  clear hW0 hW2 hb0 hb1 hb2 q0 q1 hz hJ0 hp7 hp6
  have HB : Hid (Bn w W2 p6 p7 gz) := hB
  clear hB
  refine (open_no none W2 (.inl rfl)).mono ?_
  rintro e W3 ⟨q, rfl, hf, hb3⟩
  have HB3 : Hid (Bn w W3 p6 p7 gz) := HB.out.next hb3
  obtain ⟨_, z0, z1, _, _, _⟩ := HB3.out
  go_wp2_with (first | (go_at_call 11; refine (isx HB3.out hf).mono ?_; rintro e W4 ⟨rfl, hb4⟩) | (go_at_call 10; fail))
  obtain ⟨W5, hW5⟩ : ∃ W5, W4.alloc (.cells #[.int .i64 0, .int .i64 0, .int .i64 0, .int .u64 0, .int .i64 0, .slice none 0 0, .map none, .map none, .slice none 0 0] 44) = W5 := ⟨_, rfl⟩
  rw [hW5]
  have hb5 : Below W4.heap.size W4 W5 := hW5 ▸ (Below.refl _ _).alloc (Nat.le_refl _) _
  have hN5 : Nob W5 (some ⟨W4.heap.size, 0, none⟩) := by
    rw [← hW5]
    exact .inr ⟨_, rfl, by simp⟩
  have HB5 : Hid (Bn w W5 p6 p7 gz) := (HB3.out.next hb4).next hb5
  clear hW5 hb4 hb5 hf hb3 HB HB3 z0 z1
  refine (open_no _ W5 hN5).mono ?_
  rintro e W6 ⟨q2, rfl, hf, hb6⟩
  have HB6 : Hid (Bn w W6 p6 p7 gz) := HB5.out.next hb6
  obtain ⟨_, z0, z1, _, _, _⟩ := HB6.out
  clear hN5
  go_wp2_with (first | (go_at_call 11; refine (isx HB6.out hf).mono ?_; rintro e W7 ⟨rfl, hb7⟩) | fail)
  have hB : Bn w W7 p6 p7 gz := HB6.out.next hb7
  clear z0 z1 hb7 hb6 hf HB6 HB5
  have z0 := hB.2.1
  have z1 := hB.2.2.1
  clear z0 z1
  replace hB := hB.drew
  go_region_held3 (fun w' => w'.cell? ⟨p7, 0, none⟩ = some (.slice (some ⟨gz, 0, none⟩) 1 1) ∧ w'.cell? ⟨p7, 1, none⟩ = some (.int .i64 3)) (exact ⟨hB.2.1, hB.2.2.1⟩) (first | (go_at_call_of 12 (Value.pointer none); refine (commit_no none _ _ (Or.inl rfl)).mono ?_; rintro e Wn ⟨qn, rfl, hf, hb⟩; replace hB := Bn.next hB hb) | (go_at_call 12; refine (commit_no (some ⟨p6, 0, none⟩) _ _ hB.1).mono ?_; rintro e Wn ⟨qn, rfl, hf, hb⟩; replace hB := Bn.next hB hb) | (go_at_call_of 13 (Value.pointer none); refine (compact_no none _ _ (Or.inl rfl)).mono ?_; rintro e Wn ⟨qn, rfl, hf, hb⟩; replace hB := Bn.next hB hb) | (go_at_call 13; refine (compact_no (some ⟨p6, 0, none⟩) _ _ hB.1).mono ?_; rintro e Wn ⟨qn, rfl, hf, hb⟩; replace hB := Bn.next hB hb) | (go_at_call 11; refine (isx hB hf).mono ?_; rintro e Wn ⟨rfl, hb⟩; replace hB := Bn.next hB hb))
  go_wp2_with (first | (go_at_call_of 14 (Value.pointer none); refine (count_no none _ (Or.inl rfl)).mono ?_; rintro e w' ⟨rfl, rfl⟩) | (go_at_call 14; refine (count_no (some ⟨p6, 0, none⟩) _ hB.1).mono ?_; rintro e w' ⟨rfl, rfl⟩) | (go_at_call_of 15 (Value.pointer none); refine (state_no none _ (Or.inl rfl)).mono ?_; rintro e W8 ⟨rfl, hb8⟩; replace hB := Bn.next hB hb8) | (go_at_call 15; refine (state_no (some ⟨p6, 0, none⟩) _ hB.1).mono ?_; rintro e W9 ⟨rfl, hb9⟩; replace hB := Bn.next hB hb9))
  go_ret
  exact ⟨rfl, hB.2.2.2.2.2.to⟩
end Go.Proofs.YtbedfillgdhaaaaGreatDoor
