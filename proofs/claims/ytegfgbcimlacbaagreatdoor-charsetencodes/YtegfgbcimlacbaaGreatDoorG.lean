
import Derived.Test.YtegfgbcimlacbaaGreatDoorD
/-
  DERIVED. New of no terms; sets that New did not give.
-/
namespace Go.Proofs.YtegfgbcimlacbaaGreatDoor
open Go Go.Proofs Go.RowKit

theorem nmd_zero : nmd (sp 0) 7 0 = some (0, false) := by
  unfold nmd hitA
  simp

theorem full_nil : fullB ⟨#[]⟩ 0 1 = sp 0 := by
  unfold fullB
  have h : trim ⟨#[]⟩ = ⟨#[]⟩ := trim_nil rfl
  rw [h, if_neg (by rintro (h | h); exact h rfl; omega), if_neg (by omega)]

/-- A set that was just made: nothing in it. -/
theorem setAt_new (w : World) : SetAt (w.alloc (.cells #[.slice none 0 0, .bool false] 72)) w.heap.size (.slice none 0 0) [] false :=
  ⟨by simp, by simp, fun i => by simp, World.ownsRow_nil _ _ _ _, fun r hr => by simp at hr⟩

set_option maxRecDepth 100000 in
set_option maxHeartbeats 1000000 in
theorem new_nil (w : World) (hS : Spell w) : Calls Tryz.prog 11 #[.slice none 0 0] w fun e w' => ∃ q v B, e = .returned (.tuple #[.pointer (some ⟨q, 0, none⟩), .nilIface]) ∧ SetAt w' q v [(0, sp 0, B)] false ∧ Below w.heap.size w w' := by
  obtain ⟨W1, hW1⟩ : ∃ W1, w.alloc (.cells #[.string ⟨#[]⟩] 9) = W1 := ⟨_, rfl⟩
  have hb1 : Below w.heap.size w W1 := hW1 ▸ (Below.refl _ _).alloc (Nat.le_refl _) _
  have hc1 : W1.cell? ⟨w.heap.size, 0, none⟩ = some (.string ⟨#[]⟩) := by rw [← hW1]; simp
  have hs1 : W1.heap.size = w.heap.size + 1 := by rw [← hW1]; simp
  obtain ⟨W2, hW2⟩ : ∃ W2, W1.alloc (.cells #[.slice none 0 0, .bool false] 72) = W2 := ⟨_, rfl⟩
  have hb2 : Below W1.heap.size W1 W2 := hW2 ▸ (Below.refl _ _).alloc (Nat.le_refl _) _
  have hset : SetAt W2 W1.heap.size (.slice none 0 0) [] false := hW2 ▸ setAt_new W1
  have hc2 : W2.cell? ⟨w.heap.size, 0, none⟩ = some (.string ⟨#[]⟩) := (hb2.cell (p := ⟨w.heap.size, 0, none⟩) (show w.heap.size < W1.heap.size by omega)).trans hc1
  have hS2 : Spell W2 := (hS.on hb1).on hb2
  have hq : 1 < W1.heap.size := (hS.on hb1).lt
  have c29 := full_any W2 ⟨#[]⟩ (by decide) 0 1 hS2
  rw [full_nil] at c29
  have c28 := fun W (hb : Below W2.heap.size W2 W) => add_any W W1.heap.size (.slice none 0 0) [] false (sp 0) 1 (by decide) (hset.on hb) (hS2.on hb) hq
  have hadd : addS (sp 0) 1 [] = (0, some (0, false)) := by unfold addS; rw [nmd_zero]; rfl
  rw [hadd] at c28
  simp only [List.nil_append] at c28
  have HB2 : Hid (Below w.heap.size w W2) := hb1.trans (hb2.mono hb1.size)
  have HL : Hid (w.heap.size ≤ W1.heap.size ∧ W1.heap.size ≤ W2.heap.size) := ⟨hb1.size, hb2.size⟩
  generalize sp 0 = S0 at c28 c29 ⊢
  clear hset hS2 hq hb1 hb2 hS hc1 hs1
  go_enter Tryz.func11, Tryz.ntmps11
  go_wp2
  refine wp_loop_rounds 2 ?_
  rw [rounds_succ]
  go_wp2_with (first | (go_at_call 29; refine c29.mono ?_; rintro e W3 ⟨rfl, hb3⟩) | (go_at_call 28; fail))
  refine (c28 W3 hb3).mono ?_
  rintro e W4 ⟨rfl, hb4, v, B, HS4⟩
  have HS : Hid (SetAt W4 W1.heap.size v [(0, S0, B)] false) := HS4
  clear HS4 c28 c29
  go_wp2
  rw [rounds_succ]
  go_wp2
  have h1 := HL.out.1
  have h2 := HL.out.2
  exact bodyPost_ret (v := .tuple #[.pointer (some ⟨W1.heap.size, 0, none⟩), .nilIface]) (by simp [results, Tryz.results11, go_sem]) rfl ⟨W1.heap.size, v, B, rfl, HS.out, (HB2.out.trans (hb3.mono (by omega))).trans (hb4.mono (by omega))⟩

/-- A set that New did not give. -/
def Unmade (w : World) (v : Value) : Prop := v = .pointer none ∨ ∃ q, v = .pointer (some ⟨q, 0, none⟩) ∧ w.cell? ⟨q, 0, none⟩ = some (.slice none 0 0)
theorem Unmade.on {w w' : World} {v : Value} (h : Unmade w v) (hb : Below w.heap.size w w') : Unmade w' v := by
  rcases h with h | ⟨q, rfl, hc⟩
  · exact .inl h
  · exact .inr ⟨q, rfl, (hb.cell (p := ⟨q, 0, none⟩) (cell_lt hc)).trans hc⟩

set_option maxRecDepth 100000 in
theorem isMade_no (w : World) (v : Value) (h : Unmade w v) : Calls Tryz.prog 32 #[v] w fun e w' => e = .returned (.bool false) ∧ w = w' := by
  rcases h with rfl | ⟨q, rfl, hc⟩
  all_goals go_enter Tryz.func32, Tryz.ntmps32
  all_goals go_wp2
  all_goals go_ret
  all_goals exact ⟨rfl, rfl⟩

set_option maxRecDepth 100000 in
theorem isMade_yes (w : World) (q : Nat) (v : Value) (r : Row) (R : List Row) (x : Bool) (h : SetAt w q v (r :: R) x) : Calls Tryz.prog 32 #[.pointer (some ⟨q, 0, none⟩)] w fun e w' => e = .returned (.bool true) ∧ w = w' := by
  obtain ⟨a, cap, rfl⟩ := h.val
  have h0 := h.c0
  simp only [List.length_cons] at h0
  generalize R.length = n at h0
  clear h
  go_enter Tryz.func32, Tryz.ntmps32
  go_wp2
  go_ret
  exact ⟨rfl, rfl⟩

set_option maxRecDepth 100000 in
theorem has_no (w : World) (v : Value) (r : Int) (h : Unmade w v) : Calls Tryz.prog 35 #[v, .int .i32 r] w fun e w' => e = .returned (.bool false) ∧ w = w' := by
  have c25 := isMade_no w v h
  rcases h with rfl | ⟨q, rfl, hc⟩
  all_goals go_enter Tryz.func35, Tryz.ntmps35
  all_goals go_wp2_with (go_at_call 32; refine c25.mono ?_; rintro e W1 ⟨rfl, rfl⟩)
  all_goals go_ret
  all_goals exact ⟨rfl, rfl⟩

theorem isASCII_a (w : World) : Calls Tryz.prog 47 #[.int .i32 97] w fun e w' => e = .returned (.bool true) ∧ w = w' := by
  go_enter Tryz.func47, Tryz.ntmps47
  go_wp2
  go_ret
  exact ⟨rfl, rfl⟩

set_option maxRecDepth 100000 in
theorem has_a (w : World) (q : Nat) (v : Value) (r : Row) (R : List Row) (x : Bool) (h : SetAt w q v (r :: R) x) : Calls Tryz.prog 35 #[.pointer (some ⟨q, 0, none⟩), .int .i32 97] w fun e w' => e = .returned (.bool true) ∧ w = w' := by
  have c25 := isMade_yes w q v r R x h
  go_enter Tryz.func35, Tryz.ntmps35
  go_wp2_with (first | (go_at_call 32; refine c25.mono ?_; rintro e W1 ⟨rfl, rfl⟩) | (go_at_call 47; refine (isASCII_a _).mono ?_; rintro e W1 ⟨rfl, rfl⟩))
  go_ret
  exact ⟨rfl, rfl⟩

set_option maxRecDepth 100000 in
theorem admits_no (w : World) (v : Value) (k n : Int) (h : Unmade w v) : Calls Tryz.prog 14 #[v, .int .i64 k, .int .i64 n] w fun e w' => ∃ q, e = .returned (.iface 90 (.pointer (some ⟨q, 0, none⟩))) ∧ FaultAt w' q 0 3 ∧ Below w.heap.size w w' := by
  have c25 := isMade_no w v h
  have c27 := fun W => refusal_any 0 3 W
  rcases h with rfl | ⟨q, rfl, hc⟩
  all_goals go_enter Tryz.func14, Tryz.ntmps14
  all_goals go_wp2_with (first | (go_at_call 32; refine c25.mono ?_; rintro e W1 ⟨rfl, rfl⟩) | (go_at_call 27; refine (c27 _).mono ?_; rintro e W2 ⟨_, rfl, ⟨q, rfl, hf⟩, hb⟩))
  all_goals go_ret
  all_goals exact ⟨q, rfl, hf, hb⟩

set_option maxRecDepth 100000 in
theorem encode_no (w : World) (v : Value) (k : Int) (s : ByteArray) (h : Unmade w v) : Calls Tryz.prog 5 #[v, .int .i64 k, .string s] w fun e w' => ∃ q, e = .returned (.tuple #[.slice none 0 0, .iface 90 (.pointer (some ⟨q, 0, none⟩))]) ∧ FaultAt w' q 0 3 ∧ Below w.heap.size w w' := by
  have c42 := fun (m : Int) => admits_no w v k m h
  rcases h with rfl | ⟨q, rfl, hc⟩
  all_goals go_enter Tryz.func5, Tryz.ntmps5
  all_goals go_wp2_with (go_at_call 14; refine (c42 _).mono ?_; rintro e W1 ⟨q, rfl, hf, hb⟩)
  all_goals exact bodyPost_ret (v := .tuple #[.slice none 0 0, .iface 90 (.pointer (some ⟨q, 0, none⟩))]) (by simp [results, Tryz.results5, go_sem]) rfl ⟨q, rfl, hf, hb⟩
end Go.Proofs.YtegfgbcimlacbaaGreatDoor
