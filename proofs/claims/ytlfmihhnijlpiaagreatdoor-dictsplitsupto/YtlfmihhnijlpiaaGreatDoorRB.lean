
import Derived.Test.YtlfmihhnijlpiaaGreatDoorRA
import Derived.KernelRfl
/-
  DERIVED. The document's table of VRs, line by line; the number that digits are.
-/
namespace Go.Proofs.YtlfmihhnijlpiaaGreatDoor.Rp
open Go Go.Proofs Go.RowKit

/-- The table of VRs, byte by byte. -/
def repsL : List Nat := [
  65, 69, 32, 115, 32, 49, 32, 49, 54, 32, 84, 32, 77, 10, 65, 83, 32, 115, 32, 49, 32, 52, 32, 84, 32, 77, 10, 65, 84, 32, 48, 32, 52, 32, 52, 32, 77, 10, 67, 83,
  32, 115, 32, 49, 32, 49, 54, 32, 84, 32, 77, 10, 68, 65, 32, 115, 32, 49, 32, 56, 32, 84, 32, 77, 10, 68, 83, 32, 115, 32, 49, 32, 49, 54, 32, 84, 32, 77, 10, 68,
  84, 32, 115, 32, 49, 32, 50, 54, 32, 84, 32, 77, 10, 70, 68, 32, 48, 32, 56, 32, 56, 32, 77, 10, 70, 76, 32, 48, 32, 52, 32, 52, 32, 77, 10, 73, 83, 32, 115, 32,
  49, 32, 49, 50, 32, 84, 32, 77, 10, 76, 79, 32, 115, 32, 49, 32, 54, 52, 32, 84, 32, 67, 32, 77, 10, 76, 84, 32, 115, 32, 49, 32, 49, 48, 50, 52, 48, 32, 84, 32,
  67, 10, 79, 66, 32, 48, 32, 49, 32, 48, 32, 76, 10, 79, 87, 32, 48, 32, 50, 32, 48, 32, 76, 10, 80, 78, 32, 115, 32, 49, 32, 54, 52, 32, 84, 32, 67, 32, 77, 10,
  83, 72, 32, 115, 32, 49, 32, 49, 54, 32, 84, 32, 67, 32, 77, 10, 83, 76, 32, 48, 32, 52, 32, 52, 32, 77, 10, 83, 81, 32, 48, 32, 49, 32, 48, 32, 76, 10, 83, 83,
  32, 48, 32, 50, 32, 50, 32, 77, 10, 83, 84, 32, 115, 32, 49, 32, 49, 48, 50, 52, 32, 84, 32, 67, 10, 84, 77, 32, 115, 32, 49, 32, 49, 52, 32, 84, 32, 77, 10, 85,
  67, 32, 115, 32, 49, 32, 48, 32, 84, 32, 67, 32, 77, 32, 76, 10, 85, 73, 32, 48, 32, 49, 32, 54, 52, 32, 84, 32, 77, 10, 85, 76, 32, 48, 32, 52, 32, 52, 32, 77,
  10, 85, 78, 32, 48, 32, 49, 32, 48, 32, 76, 10, 85, 82, 32, 115, 32, 49, 32, 48, 32, 84, 32, 76, 10, 85, 83, 32, 48, 32, 50, 32, 50, 32, 77, 10, 85, 84, 32, 115,
  32, 49, 32, 48, 32, 84, 32, 67, 32, 76, 10]

def repsB : ByteArray := ⟨(repsL.map UInt8.ofNat).toArray⟩

theorem repsB_size : repsB.size = 371 := by decide +kernel

/-- Where the line behind so many begins. -/
def st : Nat → Nat
  | 0 => 0
  | m + 1 => endL (bts repsB) (st m) + 1

theorem st_ok : ∀ m : Fin 28, st m.val < 371 ∧ endL (bts repsB) (st m.val) < 371 := by decide +kernel
theorem st_end : st 28 = 371 := by decide +kernel

/-- The line of a VR. -/
def lineB (v : Int) : ByteArray := if 1 ≤ v ∧ v ≤ 28 then repsB.extract (st (v.toNat - 1)) (endL (bts repsB) (st (v.toNat - 1))) else ⟨#[]⟩

theorem end_at (w : World) (S : ByteArray) (hS : S = repsB) (m : Nat) (hm : m < 28) : Calls Tryz.prog 41 #[.string S, .int .i64 (st m : Int)] w fun e w' => e = .returned (.int .i64 (endL (bts repsB) (st m) : Nat)) ∧ w = w' := by
  subst hS
  exact end_any w repsB (st m) (by rw [repsB_size]; omega) (by rw [repsB_size]; exact (st_ok ⟨m, hm⟩).2)

set_option maxRecDepth 100000 in
theorem rep_any (w : World) (v : Int) : Calls Tryz.prog 27 #[.int .i64 v] w fun e w' => e = .returned (.string (lineB v)) ∧ w = w' := by
  go_enter Tryz.func27, Tryz.ntmps27
  go_wp2
  go_loop [3, 4] (fun x y => ∃ m : Nat, x = .int .i64 ((m : Int) + 1) ∧ y = .int .i64 (st m : Nat) ∧ m ≤ 28 ∧ (v < 1 ∨ (m : Int) + 1 ≤ v)) (fun x _ => 100 - (intOf x).toNat)
  case atStart => exact ⟨0, rfl, rfl, by omega, by omega⟩
  case round =>
    obtain ⟨m, rfl, rfl, hm, hv⟩ := hrel
    by_cases h28 : m < 28
    · have hst := st_ok ⟨m, h28⟩
      have HST : Hid (st (m + 1) = endL (bts repsB) (st m) + 1) := rfl
      have HLB : Hid (v = (m : Int) + 1 → lineB v = repsB.extract (st m) (endL (bts repsB) (st m))) := by
        intro hh
        unfold lineB
        rw [if_pos (by omega), show v.toNat - 1 = m by omega]
      have hle := endL_ge (bts repsB) (st m)
      have c63 := fun S hS => end_at w S hS m h28
      obtain ⟨i, hi⟩ : ∃ i, st m = i := ⟨_, rfl⟩
      obtain ⟨j, hj⟩ : ∃ j, endL (bts repsB) (st m) = j := ⟨_, rfl⟩
      rw [hj] at HST HLB c63 hst hle
      rw [hi] at HLB c63 hst hle ⊢
      clear hi hj
      obtain ⟨hst1, hst2⟩ := hst
      by_cases hvm : v = (m : Int) + 1
      · subst hvm
        go_wp2_with (go_at_call 41; refine (c63 _ (by kernel_rfl)).mono ?_; rintro e w' ⟨rfl, rfl⟩)
        go_ret
        refine ⟨?_, rfl⟩
        rw [HLB.out (by simp)]
        exact congrArg (fun S => Ending.returned (.string (ByteArray.extract S i j))) (by kernel_rfl)
      · have hvm2 : ¬ (m : Int) + 1 = v := fun h => hvm h.symm
        go_wp2_with (go_at_call 41; refine (c63 _ (by kernel_rfl)).mono ?_; rintro e w' ⟨rfl, rfl⟩)
        exact ⟨⟨m + 1, by simp, by rw [HST.out]; simp, by omega, by omega⟩, by simp [intOf]; omega⟩
    · obtain rfl : m = 28 := by omega
      rw [st_end]
      have HLB : Hid (lineB v = ⟨#[]⟩) := by
        show lineB v = _
        unfold lineB
        rw [if_neg (by omega)]
      go_wp2
      go_ret
      rw [HLB.out]
      exact ⟨rfl, rfl⟩

/-- The number that digits are. -/
def decL (l : List Nat) : Nat := l.foldl (fun a b => 10 * a + (b - 48)) 0

theorem decL_snoc (l : List Nat) (k : Nat) (hk : k < l.length) : decL (l.take (k + 1)) = 10 * decL (l.take k) + (l.getD k 0 - 48) := by
  unfold decL
  rw [List.take_add_one, List.foldl_append]
  simp [List.getElem?_eq_getElem hk, List.getD_eq_getElem?_getD]

theorem decL_lt (l : List Nat) (hd : ∀ x ∈ l, x ≤ 57) : ∀ k, k ≤ l.length → decL (l.take k) < 10 ^ k
  | 0, _ => by simp [decL]
  | k + 1, h => by
    rw [decL_snoc l k (by omega)]
    have ih := decL_lt l hd k (by omega)
    have hx : l.getD k 0 ≤ 57 := by
      rw [List.getD_eq_getElem?_getD, List.getElem?_eq_getElem (show k < l.length by omega)]
      exact hd _ (List.getElem_mem _)
    rw [Nat.pow_succ]
    omega

set_option maxRecDepth 100000 in
theorem dec_any (w : World) (S : ByteArray) (hs : S.size ≤ 9) (hd : ∀ x ∈ bts S, 48 ≤ x ∧ x ≤ 57) : Calls Tryz.prog 28 #[.string S] w fun e w' => e = .returned (.int .i64 (decL (bts S) : Nat)) ∧ w = w' := by
  have HD : Hid (∀ x ∈ bts S, 48 ≤ x ∧ x ≤ 57) := hd
  clear hd
  go_enter Tryz.func28, Tryz.ntmps28
  go_wp2
  go_loop [3, 4] (fun x y => ∃ k n : Nat, x = .int .i64 n ∧ y = .int .i64 k ∧ k ≤ S.size ∧ n < 1000000000 ∧ Hid (n = decL ((bts S).take k))) (fun _ y => 100 - (intOf y).toNat)
  case atStart => exact ⟨0, 0, rfl, rfl, by omega, by omega, rfl⟩
  case round =>
    obtain ⟨k, n, rfl, rfl, hk, hn, HN⟩ := hrel
    by_cases hks : k < S.size
    · have hb := bts_get S k hks
      have hm : (bts S).getD k 0 ∈ bts S := by
        rw [List.getD_eq_getElem?_getD, List.getElem?_eq_getElem (show k < (bts S).length by rw [bts_length]; exact hks)]
        exact List.getElem_mem _
      have hr := HD.out _ hm
      have hr1 : 48 ≤ S[k].toNat := by rw [hb]; exact hr.1
      have hr2 : S[k].toNat ≤ 57 := by rw [hb]; exact hr.2
      have HN2 : Hid (10 * n + (S[k].toNat - 48) = decL ((bts S).take (k + 1))) := by
        show _ = _
        rw [decL_snoc _ _ (by rw [bts_length]; exact hks), hb, HN.out]
      have hlt : 10 * n + (S[k].toNat - 48) < 1000000000 := by
        rw [HN2.out]
        refine Nat.lt_of_lt_of_le (decL_lt _ (fun x hx => (HD.out x hx).2) (k + 1) (by rw [bts_length]; omega)) ?_
        exact Nat.pow_le_pow_right (n := 10) (i := k + 1) (j := 9) (by decide) (by omega)
      clear hb hm hr
      go_wp2
      exact ⟨⟨k + 1, 10 * n + (S[k].toNat - 48), by simp; omega, by simp, by omega, hlt, HN2⟩, by simp [intOf]; omega⟩
    · have hke : k = S.size := by omega
      have HN2 : Hid (n = decL (bts S)) := by
        have := HN.out
        rw [hke, List.take_of_length_le (by rw [bts_length]; exact Nat.le_refl _)] at this
        exact this
      clear HN
      go_wp2
      go_ret
      rw [← HN2.out]
      exact ⟨rfl, rfl⟩
end Go.Proofs.YtlfmihhnijlpiaaGreatDoor.Rp
