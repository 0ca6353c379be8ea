import Derived.Test.YtiieikdbhpflgabDoorC
/-
  DERIVED. The action of a state and an event, by the program; that the document's is the same.
-/
namespace Go.Proofs.YtiieikdbhpflgabDoor
open Go Go.Proofs Go.RowKit

def tbL : List Nat := [1, 0, 0, 0, 0, 0, 0, 0, 0, 0, 0, 0, 0, 0, 0, 0, 2, 0, 0, 0, 0, 0, 0, 0, 0, 0, 0, 21, 28, 0, 3, 28, 28, 28, 28, 28, 28, 28, 26, 0, 21, 28, 0, 4, 28, 28, 28, 28, 28, 28, 28, 26, 5, 0, 0, 0, 0, 0, 0, 0, 0, 0, 0, 0, 0, 0, 6, 28, 0, 28, 28, 28, 28, 28, 28, 28, 28, 27, 0, 0, 7, 0, 0, 0, 0, 0, 0, 0, 0, 0, 0, 0, 0, 8, 0, 0, 0, 0, 0, 0, 0, 0, 0, 0, 0, 0, 0, 0, 0, 9, 0, 17, 0, 0, 0, 0, 0, 0, 21, 28, 0, 28, 10, 16, 28, 28, 28, 28, 28, 26, 0, 0, 0, 0, 0, 11, 0, 0, 0, 0, 0, 0, 0, 0, 21, 28, 0, 28, 12, 18, 28, 28, 28, 28, 28, 26, 0, 21, 28, 0, 28, 28, 13, 28, 28, 20, 13, 28, 26, 0, 0, 0, 0, 0, 0, 0, 14, 19, 0, 0, 14, 0, 0, 0, 21, 22, 21, 21, 21, 21, 21, 21, 21, 21, 0, 0, 22, 23, 0, 23, 23, 23, 23, 23, 23, 23, 23, 22, 0, 25, 24, 24, 24, 24, 24, 24, 24, 24, 24, 24, 15, 0, 22, 0, 0, 0, 0, 0, 0, 0, 0, 0, 0, 22, 0, 21, 28, 0, 28, 28, 28, 28, 28, 28, 28, 28, 27]
/-- The table lies in memory. -/
def Tb (w : World) : Prop := ∀ k, k < 247 → w.cell? ⟨0, k, none⟩ = some (.int .u8 ((tbL.getD k 0 : Nat) : Int))
theorem cell_lt {w : World} {a : Addr} {v : Value} (h : w.cell? a = some v) : a.block < w.heap.size := by
  by_cases hl : a.block < w.heap.size
  · exact hl
  · have : w.heap[a.block]? = none := by simp; omega
    simp [World.cell?, this] at h
theorem Tb.lt {w : World} (h : Tb w) : 0 < w.heap.size := cell_lt (h 0 (by omega))
theorem Tb.on {w w' : World} (h : Tb w) (hb : Below w.heap.size w w') : Tb w' := fun k hk => (hb.cell (p := ⟨0, k, none⟩) h.lt).trans (h k hk)
theorem Tb.cell {w : World} (h : Tb w) (k : Nat) (hk : k < 247) : w.cell? ⟨0, k, none⟩ = some (.int .u8 ((tbL.getD k 0 : Nat) : Int)) := h k hk

def actP (s e : Int) : Int := if s < 1 ∨ 13 < s ∨ e < 1 ∨ 19 < e then 0 else (tbL.getD ((e - 1).toNat * 13 + (s - 1).toNat) 0 : Nat)

set_option maxRecDepth 100000 in
theorem act_any (w : World) (s e : Int) (hT : Tb w) : Calls Tryd.prog 23 #[.int .i64 s, .int .i64 e] w fun x w' => x = .returned (.int .i64 (actP s e)) ∧ w' = w := by
  by_cases h : s < 1 ∨ 13 < s ∨ e < 1 ∨ 19 < e
  · rw [actP, if_pos h]
    go_enter Tryd.func23, Tryd.ntmps23
    go_wp2
    all_goals first | (go_ret; exact ⟨rfl, rfl⟩) | (exfalso; omega)
  · rw [actP, if_neg h]
    obtain ⟨i, rfl⟩ : ∃ n : Nat, s = ((n + 1 : Nat) : Int) := ⟨s.toNat - 1, by omega⟩
    obtain ⟨j, rfl⟩ : ∃ n : Nat, e = ((n + 1 : Nat) : Int) := ⟨e.toNat - 1, by omega⟩
    have hi : i < 13 := by omega
    have hj : j < 19 := by omega
    have hc := hT.cell (j * 13 + i) (by omega)
    rw [show (((i + 1 : Nat) : Int) - 1).toNat = i by omega, show (((j + 1 : Nat) : Int) - 1).toNat = j by omega]
    have hv : tbL.getD (j * 13 + i) 0 < 256 := by
      have : ∀ k : Fin 247, tbL.getD k.val 0 < 256 := by decide +kernel
      exact this ⟨j * 13 + i, by omega⟩
    generalize tbL.getD (j * 13 + i) 0 = v at hc hv ⊢
    go_enter Tryd.func23, Tryd.ntmps23
    go_wp2
    all_goals first | (exfalso; omega) | (go_ret; exact ⟨rfl, rfl⟩)

theorem act_in : ∀ (j : Fin 19) (i : Fin 13), ((tbL.getD (j.val * 13 + i.val) 0 : Nat) : Int) = actR ((i.val + 1 : Nat) : Int) ((j.val + 1 : Nat) : Int) := by decide +kernel

theorem out_all {s : Int} (h : s < 1 ∨ 13 < s) : lateR s = false ∧ (∀ k, pduR s k = 0) := by
  have hl : lateR s = false := by unfold lateR; simp; omega
  refine ⟨hl, fun k => ?_⟩
  unfold pduR; rw [hl]; rw [if_neg (by omega), if_neg (by simp; omega), if_neg (by omega)]
theorem act1_out {s : Int} (h : s < 1 ∨ 13 < s) : act1 s = 0 := by
  obtain ⟨hl, hp⟩ := out_all h
  unfold act1
  repeat' split
  all_goals first | rfl | exact hp _ | (exfalso; omega) | (exfalso; simp_all; omega)
theorem act2_out {s : Int} (h : s < 1 ∨ 13 < s) : act2 s = 0 := by
  obtain ⟨hl, hp⟩ := out_all h
  unfold act2
  repeat' split
  all_goals first | rfl | exact hp _ | (exfalso; omega) | (exfalso; simp_all; omega)
theorem act3_out {s : Int} (h : s < 1 ∨ 13 < s) : act3 s = 0 := by
  obtain ⟨hl, hp⟩ := out_all h
  unfold act3
  repeat' split
  all_goals first | rfl | exact hp _ | (exfalso; omega) | (exfalso; simp_all; omega)
theorem act4_out {s : Int} (h : s < 1 ∨ 13 < s) : act4 s = 0 := by
  obtain ⟨hl, hp⟩ := out_all h
  unfold act4
  repeat' split
  all_goals first | rfl | exact hp _ | (exfalso; omega) | (exfalso; simp_all; omega)
theorem act5_out {s : Int} (h : s < 1 ∨ 13 < s) : act5 s = 0 := by
  obtain ⟨hl, hp⟩ := out_all h
  unfold act5
  repeat' split
  all_goals first | rfl | exact hp _ | (exfalso; omega) | (exfalso; simp_all; omega)
theorem act6_out {s : Int} (h : s < 1 ∨ 13 < s) : act6 s = 0 := by
  obtain ⟨hl, hp⟩ := out_all h
  unfold act6
  repeat' split
  all_goals first | rfl | exact hp _ | (exfalso; omega) | (exfalso; simp_all; omega)
theorem act7_out {s : Int} (h : s < 1 ∨ 13 < s) : act7 s = 0 := by
  obtain ⟨hl, hp⟩ := out_all h
  unfold act7
  repeat' split
  all_goals first | rfl | exact hp _ | (exfalso; omega) | (exfalso; simp_all; omega)
theorem act8_out {s : Int} (h : s < 1 ∨ 13 < s) : act8 s = 0 := by
  obtain ⟨hl, hp⟩ := out_all h
  unfold act8
  repeat' split
  all_goals first | rfl | exact hp _ | (exfalso; omega) | (exfalso; simp_all; omega)
theorem act9_out {s : Int} (h : s < 1 ∨ 13 < s) : act9 s = 0 := by
  obtain ⟨hl, hp⟩ := out_all h
  unfold act9
  repeat' split
  all_goals first | rfl | exact hp _ | (exfalso; omega) | (exfalso; simp_all; omega)
theorem act10_out {s : Int} (h : s < 1 ∨ 13 < s) : act10 s = 0 := by
  obtain ⟨hl, hp⟩ := out_all h
  unfold act10
  repeat' split
  all_goals first | rfl | exact hp _ | (exfalso; omega) | (exfalso; simp_all; omega)
theorem act11_out {s : Int} (h : s < 1 ∨ 13 < s) : act11 s = 0 := by
  obtain ⟨hl, hp⟩ := out_all h
  unfold act11
  repeat' split
  all_goals first | rfl | exact hp _ | (exfalso; omega) | (exfalso; simp_all; omega)
theorem act12_out {s : Int} (h : s < 1 ∨ 13 < s) : act12 s = 0 := by
  obtain ⟨hl, hp⟩ := out_all h
  unfold act12
  repeat' split
  all_goals first | rfl | exact hp _ | (exfalso; omega) | (exfalso; simp_all; omega)
theorem act13_out {s : Int} (h : s < 1 ∨ 13 < s) : act13 s = 0 := by
  obtain ⟨hl, hp⟩ := out_all h
  unfold act13
  repeat' split
  all_goals first | rfl | exact hp _ | (exfalso; omega) | (exfalso; simp_all; omega)
theorem act14_out {s : Int} (h : s < 1 ∨ 13 < s) : act14 s = 0 := by
  obtain ⟨hl, hp⟩ := out_all h
  unfold act14
  repeat' split
  all_goals first | rfl | exact hp _ | (exfalso; omega) | (exfalso; simp_all; omega)
theorem act15_out {s : Int} (h : s < 1 ∨ 13 < s) : act15 s = 0 := by
  obtain ⟨hl, hp⟩ := out_all h
  unfold act15
  repeat' split
  all_goals first | rfl | exact hp _ | (exfalso; omega) | (exfalso; simp_all; omega)
theorem act16_out {s : Int} (h : s < 1 ∨ 13 < s) : act16 s = 0 := by
  obtain ⟨hl, hp⟩ := out_all h
  unfold act16
  repeat' split
  all_goals first | rfl | exact hp _ | (exfalso; omega) | (exfalso; simp_all; omega)
theorem act17_out {s : Int} (h : s < 1 ∨ 13 < s) : act17 s = 0 := by
  obtain ⟨hl, hp⟩ := out_all h
  unfold act17
  repeat' split
  all_goals first | rfl | exact hp _ | (exfalso; omega) | (exfalso; simp_all; omega)
theorem act18_out {s : Int} (h : s < 1 ∨ 13 < s) : act18 s = 0 := by
  obtain ⟨hl, hp⟩ := out_all h
  unfold act18
  repeat' split
  all_goals first | rfl | exact hp _ | (exfalso; omega) | (exfalso; simp_all; omega)
theorem act19_out {s : Int} (h : s < 1 ∨ 13 < s) : act19 s = 0 := by
  obtain ⟨hl, hp⟩ := out_all h
  unfold act19
  repeat' split
  all_goals first | rfl | exact hp _ | (exfalso; omega) | (exfalso; simp_all; omega)

theorem act_same (s e : Int) : actP s e = actR s e := by
  unfold actP
  split
  · rename_i h
    by_cases he : e < 1 ∨ 19 < e
    · unfold actR
      repeat rw [if_neg (by omega)]
    · have hs : s < 1 ∨ 13 < s := by omega
      unfold actR
      by_cases c1 : e = 1
      · rw [if_pos c1]; exact (act1_out hs).symm
      rw [if_neg c1]
      by_cases c2 : e = 2
      · rw [if_pos c2]; exact (act2_out hs).symm
      rw [if_neg c2]
      by_cases c3 : e = 3
      · rw [if_pos c3]; exact (act3_out hs).symm
      rw [if_neg c3]
      by_cases c4 : e = 4
      · rw [if_pos c4]; exact (act4_out hs).symm
      rw [if_neg c4]
      by_cases c5 : e = 5
      · rw [if_pos c5]; exact (act5_out hs).symm
      rw [if_neg c5]
      by_cases c6 : e = 6
      · rw [if_pos c6]; exact (act6_out hs).symm
      rw [if_neg c6]
      by_cases c7 : e = 7
      · rw [if_pos c7]; exact (act7_out hs).symm
      rw [if_neg c7]
      by_cases c8 : e = 8
      · rw [if_pos c8]; exact (act8_out hs).symm
      rw [if_neg c8]
      by_cases c9 : e = 9
      · rw [if_pos c9]; exact (act9_out hs).symm
      rw [if_neg c9]
      by_cases c10 : e = 10
      · rw [if_pos c10]; exact (act10_out hs).symm
      rw [if_neg c10]
      by_cases c11 : e = 11
      · rw [if_pos c11]; exact (act11_out hs).symm
      rw [if_neg c11]
      by_cases c12 : e = 12
      · rw [if_pos c12]; exact (act12_out hs).symm
      rw [if_neg c12]
      by_cases c13 : e = 13
      · rw [if_pos c13]; exact (act13_out hs).symm
      rw [if_neg c13]
      by_cases c14 : e = 14
      · rw [if_pos c14]; exact (act14_out hs).symm
      rw [if_neg c14]
      by_cases c15 : e = 15
      · rw [if_pos c15]; exact (act15_out hs).symm
      rw [if_neg c15]
      by_cases c16 : e = 16
      · rw [if_pos c16]; exact (act16_out hs).symm
      rw [if_neg c16]
      by_cases c17 : e = 17
      · rw [if_pos c17]; exact (act17_out hs).symm
      rw [if_neg c17]
      by_cases c18 : e = 18
      · rw [if_pos c18]; exact (act18_out hs).symm
      rw [if_neg c18]
      by_cases c19 : e = 19
      · rw [if_pos c19]; exact (act19_out hs).symm
      rw [if_neg c19]
  · rename_i h
    have h1 := act_in ⟨(e - 1).toNat, by omega⟩ ⟨(s - 1).toNat, by omega⟩
    have e1 : (((e - 1).toNat + 1 : Nat) : Int) = e := by omega
    have s1 : (((s - 1).toNat + 1 : Nat) : Int) = s := by omega
    simp only [e1, s1] at h1
    exact h1
end Go.Proofs.YtiieikdbhpflgabDoor
