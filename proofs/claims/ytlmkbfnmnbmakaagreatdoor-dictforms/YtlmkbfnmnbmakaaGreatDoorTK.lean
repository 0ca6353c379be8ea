
import Derived.Test.YtlmkbfnmnbmakaaGreatDoorTI
namespace Go.Proofs.YtlmkbfnmnbmakaaGreatDoor.Tb
open Go Go.Proofs Go.RowKit

set_option maxRecDepth 100000 in
theorem mask_exact (w : World) (t : Nat) (v l m : Int) (s : ByteArray) : Calls Tryz.prog 36 #[.agg #[.int .u32 (t : Int), .int .i64 v, .int .i64 l, .int .i64 m, .string s]] w fun e w' => e = .returned (.int .u32 (maskN t : Nat)) ∧ w.alloc (.cells #[.int .u32 (t : Int), .int .i64 v, .int .i64 l, .int .i64 m, .string s] 89) = w' := by
  have c := fun W => group_any W t
  by_cases hg : t / 65536 = 24576
  · have hm : maskN t = 4293001215 := by unfold maskN; rw [if_pos hg]
    have hgi : (((t / 65536 : Nat) : Int) == 24576) = true := by rw [hg]; rfl
    rw [hm]
    generalize t / 65536 = d at c hgi
    clear hm hg
    go_enter Tryz.func36, Tryz.ntmps36
    go_wp2_with (first | (go_at_call 33; refine (c _).mono ?_; rintro e w' ⟨rfl, rfl⟩) | fail)
    go_ret
    exact ⟨rfl, rfl⟩
  · have hm : maskN t = 4294967295 := by unfold maskN; rw [if_neg hg]
    have hgi : (((t / 65536 : Nat) : Int) == 24576) = false := beq_eq_false_iff_ne.2 (by omega)
    rw [hm]
    generalize t / 65536 = d at c hgi
    clear hm hg
    go_enter Tryz.func36, Tryz.ntmps36
    go_wp2_with (first | (go_at_call 33; refine (c _).mono ?_; rintro e w' ⟨rfl, rfl⟩) | fail)
    go_ret
    exact ⟨rfl, rfl⟩

set_option maxRecDepth 100000 in
set_option maxHeartbeats 2000000 in
theorem rowEntry_any (w : World) (t : Nat) (v l m : Int) (s : ByteArray) : Calls Tryz.prog 37 #[.agg #[.int .u32 (t : Int), .int .i64 v, .int .i64 l, .int .i64 m, .string s]] w fun e w' => e = .returned (.agg #[.int .u32 (t : Int), .int .u32 (maskN t : Nat), .int .i64 v, .string s, .int .i64 l, .int .i64 m]) ∧ Below w.heap.size w w' := by
  have c := fun W => mask_exact W t v l m s
  generalize maskN t = M at c ⊢
  obtain ⟨W1, hW1⟩ : ∃ W1, (w.alloc (.cells #[.int .u32 (t : Int), .int .i64 v, .int .i64 l, .int .i64 m, .string s] 89)).alloc (.cells #[.int .u32 0, .int .u32 0, .int .i64 0, .string ⟨#[]⟩, .int .i64 0, .int .i64 0] 67) = W1 := ⟨_, rfl⟩
  have HBl : Hid (Below w.heap.size w W1) := hW1 ▸ ((Below.refl _ _).alloc (Nat.le_refl _) _).alloc (by simp) _
  have hS : R5 W1 w.heap.size (t : Int) v l m s := by
    rw [← hW1]
    exact ⟨by simp, by simp, by simp, by simp, by simp⟩
  have hE : E6 W1 (w.heap.size + 1) := by
    rw [← hW1]
    exact ⟨by simp, by simp, by simp, by simp, by simp, by simp, fun i => by simp⟩
  have hlt : w.heap.size + 1 < W1.heap.size := by rw [← hW1]; simp
  have hlt0 : w.heap.size < W1.heap.size := by omega
  go_enter Tryz.func37, Tryz.ntmps37
  go_wp2
  clear hW1
  obtain ⟨s0, s1, s2, s3, s4⟩ := hS
  obtain ⟨z0, z1, z2, z3, z4, z5, zf⟩ := hE
  refine wp_region_noPanic ?_
  go_region_held3 (fun w' => w'.cell? ⟨w.heap.size, 0, none⟩ = some (.int .u32 (t : Int)) ∧ w'.cell? ⟨w.heap.size, 1, none⟩ = some (.int .i64 v) ∧ w'.cell? ⟨w.heap.size, 2, none⟩ = some (.int .i64 l) ∧ w'.cell? ⟨w.heap.size, 3, none⟩ = some (.int .i64 m) ∧ w'.cell? ⟨w.heap.size, 4, none⟩ = some (.string s)) (go_keep) (first | (go_at_call 36; refine (c _).mono ?_; rintro e w' ⟨rfl, rfl⟩))
  refine NoPanic.normal ?_
  go_wp2
  have hU := E6.sets ⟨z0, z1, z2, z3, z4, z5, zf⟩ (.int .u32 (t : Int)) (.int .u32 (M : Int)) (.int .i64 v) (.string s) (.int .i64 l) (.int .i64 m)
  simp only at hU
  obtain ⟨u0, u1, u2, u3, u4, u5⟩ := hU
  have HBU : Hid (Below w.heap.size w ((((((W1.setCell ⟨w.heap.size + 1, 0, none⟩ (.int .u32 (t : Int))).setCell ⟨w.heap.size + 1, 1, none⟩ (.int .u32 (M : Int))).setCell ⟨w.heap.size + 1, 2, none⟩ (.int .i64 v)).setCell ⟨w.heap.size + 1, 3, none⟩ (.string s)).setCell ⟨w.heap.size + 1, 4, none⟩ (.int .i64 l)).setCell ⟨w.heap.size + 1, 5, none⟩ (.int .i64 m))) := (((((HBl.out.setCell (p := ⟨w.heap.size + 1, 0, none⟩) (by simp) _).setCell (p := ⟨w.heap.size + 1, 1, none⟩) (by simp) _).setCell (p := ⟨w.heap.size + 1, 2, none⟩) (by simp) _).setCell (p := ⟨w.heap.size + 1, 3, none⟩) (by simp) _).setCell (p := ⟨w.heap.size + 1, 4, none⟩) (by simp) _).setCell (p := ⟨w.heap.size + 1, 5, none⟩) (by simp) _
  have hsU : w.heap.size + 1 < ((((((W1.setCell ⟨w.heap.size + 1, 0, none⟩ (.int .u32 (t : Int))).setCell ⟨w.heap.size + 1, 1, none⟩ (.int .u32 (M : Int))).setCell ⟨w.heap.size + 1, 2, none⟩ (.int .i64 v)).setCell ⟨w.heap.size + 1, 3, none⟩ (.string s)).setCell ⟨w.heap.size + 1, 4, none⟩ (.int .i64 l)).setCell ⟨w.heap.size + 1, 5, none⟩ (.int .i64 m)).heap.size := by simp; omega
  generalize ((((((W1.setCell ⟨w.heap.size + 1, 0, none⟩ (.int .u32 (t : Int))).setCell ⟨w.heap.size + 1, 1, none⟩ (.int .u32 (M : Int))).setCell ⟨w.heap.size + 1, 2, none⟩ (.int .i64 v)).setCell ⟨w.heap.size + 1, 3, none⟩ (.string s)).setCell ⟨w.heap.size + 1, 4, none⟩ (.int .i64 l)).setCell ⟨w.heap.size + 1, 5, none⟩ (.int .i64 m)) = U at u0 u1 u2 u3 u4 u5 HBU hsU ⊢
  have hba : Below U.heap.size U (U.alloc (.cells #[.int .u32 (t : Int), .int .i64 v, .int .i64 l, .int .i64 m, .string s] 89)).drew := ((Below.refl _ _).alloc (Nat.le_refl _) _).drew
  have a0 := (hba.cell (p := ⟨w.heap.size + 1, 0, none⟩) hsU).trans u0
  have a1 := (hba.cell (p := ⟨w.heap.size + 1, 1, none⟩) hsU).trans u1
  have a2 := (hba.cell (p := ⟨w.heap.size + 1, 2, none⟩) hsU).trans u2
  have a3 := (hba.cell (p := ⟨w.heap.size + 1, 3, none⟩) hsU).trans u3
  have a4 := (hba.cell (p := ⟨w.heap.size + 1, 4, none⟩) hsU).trans u4
  have a5 := (hba.cell (p := ⟨w.heap.size + 1, 5, none⟩) hsU).trans u5
  have HBV := below_after hba HBU.out
  generalize (U.alloc (.cells #[.int .u32 (t : Int), .int .i64 v, .int .i64 l, .int .i64 m, .string s] 89)).drew = V at a0 a1 a2 a3 a4 a5 HBV ⊢
  exact bodyPost_ret (v := .agg #[.int .u32 (t : Int), .int .u32 (M : Int), .int .i64 v, .string s, .int .i64 l, .int .i64 m]) (by simp only [results, Tryz.results37]; simp [go_sem, a0, a1, a2, a3, a4, a5]) rfl ⟨rfl, HBV⟩
end Go.Proofs.YtlmkbfnmnbmakaaGreatDoor.Tb
