import Derived.Test.YtgdemlebohlolaaGreatDoorRA
import Derived.KernelRfl
import Derived.Deep.WholeRow
import Derived.Great.BuildSlice
import Derived.Laws.EntriesVeiled
/-
  DERIVED. The document's table of VRs, line by line; the number that digits are.
-/
namespace Go.Proofs.YtgdemlebohlolaaGreatDoor.Rp
open Go Go.Proofs Go.RowKit

/-- The table of VRs, byte by byte. -/
def repsL : List Nat := [
  65, 69, 32, 115, 32, 49, 32, 49, 54, 32, 84, 32, 77, 10, 65, 83, 32, 115, 32, 49, 32, 52, 32, 84, 32, 77, 10, 65, 84, 32, 48, 32, 52, 32, 52, 32, 77, 10, 67, 83,
  32, 115, 32, 49, 32, 49, 54, 32, 84, 32, 77, 10, 68, 65, 32, 115, 32, 49, 32, 56, 32, 84, 32, 77, 10, 68, 83, 32, 115, 32, 49, 32, 49, 54, 32, 84, 32, 77, 10, 68,
  84, 32, 115, 32, 49, 32, 50, 54, 32, 84, 32, 77, 10, 70, 68, 32, 48, 32, 56, 32, 56, 32, 77, 10, 70, 76, 32, 48, 32, 52, 32, 52, 32, 77, 10, 73, 83, 32, 115, 32,
  49, 32, 49, 50, 32, 84, 32, 77, 10, 76, 79, 32, 115, 32, 49, 32, 54, 52, 32, 84, 32, 67, 32, 77, 10, 76, 84, 32, 115, 32, 49, 32, 49, 48, 50, 52, 48, 32, 84, 32,
  67, 10, 79, 66, 32, 48, 32, 49, 32, 48, 32, 76, 10, 79, 87, 32, 48, 32, 50, 32, 48, 32, 76, 10, 80, 78, 32, 115, 32, 49, 32, 54, 52, 32, 84, 32, 67, 32, 77, 10,
  83, 72, 32, 115, 32, 49, 32, 49, 54, 32, 84, 32, 67, 32, 77, 10, 83, 76, 32, 48, 32, 52, 32, 52, 32, 77, 10, 83, 81, 32, 48, 32, 49, 32, 48, 32, 76, 10, 83, 83,
  32, 48, 32, 50, 32, 50, 32, 77, 10, 83, 84, 32, 115, 32, 49, 32, 49, 48, 50, 52, 32, 84, 32, 67, 10, 84, 77, 32, 115, 32, 49, 32, 49, 52, 32, 84, 32, 77, 10, 85,
  67, 32, 115, 32, 49, 32, 48, 32, 84, 32, 67, 32, 77, 32, 76, 10, 85, 73, 32, 48, 32, 49, 32, 54, 52, 32, 84, 32, 77, 10, 85, 76, 32, 48, 32, 52, 32, 52, 32, 77,
  10, 85, 78, 32, 48, 32, 49, 32, 48, 32, 76, 10, 85, 82, 32, 115, 32, 49, 32, 48, 32, 84, 32, 76, 10, 85, 83, 32, 48, 32, 50, 32, 50, 32, 77, 10, 85, 84, 32, 115,
  32, 49, 32, 48, 32, 84, 32, 67, 32, 76, 10]

def repsB : ByteArray := ⟨(repsL.map UInt8.ofNat).toArray⟩

theorem repsB_size : repsB.size = 371 := by decide +kernel

/-- Where the line behind so many begins. -/
def st : Nat → Nat
  | 0 => 0
  | m + 1 => endL (bts repsB) (st m) + 1

theorem st_ok : ∀ m : Fin 28, st m.val < 371 ∧ endL (bts repsB) (st m.val) < 371 := by decide +kernel
theorem st_end : st 28 = 371 := by decide +kernel

/-- The line of a VR. -/
def lineB (v : Int) : ByteArray := if 1 ≤ v ∧ v ≤ 28 then repsB.extract (st (v.toNat - 1)) (endL (bts repsB) (st (v.toNat - 1))) else ⟨#[]⟩

theorem end_at (w : World) (S : ByteArray) (hS : S = repsB) (m : Nat) (hm : m < 28) : Calls Tryz.prog 85 #[.string S, .int .i64 (st m : Int)] w fun e w' => e = .returned (.int .i64 (endL (bts repsB) (st m) : Nat)) ∧ w = w' := by
  subst hS
  exact end_any w repsB (st m) (by rw [repsB_size]; omega) (by rw [repsB_size]; exact (st_ok ⟨m, hm⟩).2)

set_option maxRecDepth 100000 in
theorem rep_any (w : World) (v : Int) : Calls Tryz.prog 56 #[.int .i64 v] w fun e w' => e = .returned (.string (lineB v)) ∧ w = w' := by
  go_enter Tryz.func56, Tryz.ntmps56
  go_wp2
  go_loop [3, 4] (fun x y => ∃ m : Nat, x = .int .i64 ((m : Int) + 1) ∧ y = .int .i64 (st m : Nat) ∧ m ≤ 28 ∧ (v < 1 ∨ (m : Int) + 1 ≤ v)) (fun x _ => 100 - (intOf x).toNat)
  case atStart => exact ⟨0, rfl, rfl, by omega, by omega⟩
  case round =>
    obtain ⟨m, rfl, rfl, hm, hv⟩ := hrel
    by_cases h28 : m < 28
    · have hst := st_ok ⟨m, h28⟩
      have HST : Hid (st (m + 1) = endL (bts repsB) (st m) + 1) := rfl
      have HLB : Hid (v = (m : Int) + 1 → lineB v = repsB.extract (st m) (endL (bts repsB) (st m))) := by
        intro hh
        unfold lineB
        rw [if_pos (by omega), show v.toNat - 1 = m by omega]
      have hle := endL_ge (bts repsB) (st m)
      have c63 := fun S hS => end_at w S hS m h28
      obtain ⟨i, hi⟩ : ∃ i, st m = i := ⟨_, rfl⟩
      obtain ⟨j, hj⟩ : ∃ j, endL (bts repsB) (st m) = j := ⟨_, rfl⟩
      rw [hj] at HST HLB c63 hst hle
      rw [hi] at HLB c63 hst hle ⊢
      clear hi hj
      obtain ⟨hst1, hst2⟩ := hst
      by_cases hvm : v = (m : Int) + 1
      · subst hvm
        go_wp2_with (go_at_call 85; refine (c63 _ (by kernel_rfl)).mono ?_; rintro e w' ⟨rfl, rfl⟩)
        go_ret
        refine ⟨?_, rfl⟩
        rw [HLB.out (by simp)]
        exact congrArg (fun S => Ending.returned (.string (ByteArray.extract S i j))) (by kernel_rfl)
      · have hvm2 : ¬ (m : Int) + 1 = v := fun h => hvm h.symm
        go_wp2_with (go_at_call 85; refine (c63 _ (by kernel_rfl)).mono ?_; rintro e w' ⟨rfl, rfl⟩)
        exact ⟨⟨m + 1, by simp, by rw [HST.out]; simp, by omega, by omega⟩, by simp [intOf]; omega⟩
    · obtain rfl : m = 28 := by omega
      rw [st_end]
      have HLB : Hid (lineB v = ⟨#[]⟩) := by
        show lineB v = _
        unfold lineB
        rw [if_neg (by omega)]
      go_wp2
      go_ret
      rw [HLB.out]
      exact ⟨rfl, rfl⟩

/-- The number that digits are. -/
def decL (l : List Nat) : Nat := l.foldl (fun a b => 10 * a + (b - 48)) 0

theorem decL_snoc (l : List Nat) (k : Nat) (hk : k < l.length) : decL (l.take (k + 1)) = 10 * decL (l.take k) + (l.getD k 0 - 48) := by
  unfold decL
  rw [List.take_add_one, List.foldl_append]
  simp [List.getElem?_eq_getElem hk, List.getD_eq_getElem?_getD]

theorem decL_lt (l : List Nat) (hd : ∀ x ∈ l, x ≤ 57) : ∀ k, k ≤ l.length → decL (l.take k) < 10 ^ k
  | 0, _ => by simp [decL]
  | k + 1, h => by
    rw [decL_snoc l k (by omega)]
    have ih := decL_lt l hd k (by omega)
    have hx : l.getD k 0 ≤ 57 := by
      rw [List.getD_eq_getElem?_getD, List.getElem?_eq_getElem (show k < l.length by omega)]
      exact hd _ (List.getElem_mem _)
    rw [Nat.pow_succ]
    omega

set_option maxRecDepth 100000 in
theorem dec_any (w : World) (S : ByteArray) (hs : S.size ≤ 9) (hd : ∀ x ∈ bts S, 48 ≤ x ∧ x ≤ 57) : Calls Tryz.prog 57 #[.string S] w fun e w' => e = .returned (.int .i64 (decL (bts S) : Nat)) ∧ w = w' := by
  have HD : Hid (∀ x ∈ bts S, 48 ≤ x ∧ x ≤ 57) := hd
  clear hd
  go_enter Tryz.func57, Tryz.ntmps57
  go_wp2
  go_loop [3, 4] (fun x y => ∃ k n : Nat, x = .int .i64 n ∧ y = .int .i64 k ∧ k ≤ S.size ∧ n < 1000000000 ∧ Hid (n = decL ((bts S).take k))) (fun _ y => 100 - (intOf y).toNat)
  case atStart => exact ⟨0, 0, rfl, rfl, by omega, by omega, rfl⟩
  case round =>
    obtain ⟨k, n, rfl, rfl, hk, hn, HN⟩ := hrel
    by_cases hks : k < S.size
    · have hb := bts_get S k hks
      have hm : (bts S).getD k 0 ∈ bts S := by
        rw [List.getD_eq_getElem?_getD, List.getElem?_eq_getElem (show k < (bts S).length by rw [bts_length]; exact hks)]
        exact List.getElem_mem _
      have hr := HD.out _ hm
      have hr1 : 48 ≤ S[k].toNat := by rw [hb]; exact hr.1
      have hr2 : S[k].toNat ≤ 57 := by rw [hb]; exact hr.2
      have HN2 : Hid (10 * n + (S[k].toNat - 48) = decL ((bts S).take (k + 1))) := by
        show _ = _
        rw [decL_snoc _ _ (by rw [bts_length]; exact hks), hb, HN.out]
      have hlt : 10 * n + (S[k].toNat - 48) < 1000000000 := by
        rw [HN2.out]
        refine Nat.lt_of_lt_of_le (decL_lt _ (fun x hx => (HD.out x hx).2) (k + 1) (by rw [bts_length]; omega)) ?_
        exact Nat.pow_le_pow_right (n := 10) (i := k + 1) (j := 9) (by decide) (by omega)
      clear hb hm hr
      go_wp2
      exact ⟨⟨k + 1, 10 * n + (S[k].toNat - 48), by simp; omega, by simp, by omega, hlt, HN2⟩, by simp [intOf]; omega⟩
    · have hke : k = S.size := by omega
      have HN2 : Hid (n = decL (bts S)) := by
        have := HN.out
        rw [hke, List.take_of_length_le (by rw [bts_length]; exact Nat.le_refl _)] at this
        exact this
      clear HN
      go_wp2
      go_ret
      rw [← HN2.out]
      exact ⟨rfl, rfl⟩
end Go.Proofs.YtgdemlebohlolaaGreatDoor.Rp

/-
  DERIVED. The program's table of VRs.
-/
namespace Go.Proofs.YtgdemlebohlolaaGreatDoor.Rp
open Go Go.Proofs Go.RowKit

/-- A VR's row, as the program has it: the place in the table is the VR's number. -/
def rowOf : Nat → List Value
  | 1 => [.string ⟨#[65, 69]⟩, .int .u8 32, .int .i64 1, .int .i64 16, .bool true, .bool false, .bool true, .bool false, (.func (.func 93) #[] #[]), .nilFunc]
  | 2 => [.string ⟨#[65, 83]⟩, .int .u8 32, .int .i64 1, .int .i64 4, .bool true, .bool false, .bool true, .bool false, (.func (.func 94) #[] #[]), (.func (.func 95) #[] #[])]
  | 3 => [.string ⟨#[65, 84]⟩, .int .u8 0, .int .i64 4, .int .i64 4, .bool false, .bool false, .bool true, .bool false, .nilFunc, .nilFunc]
  | 4 => [.string ⟨#[67, 83]⟩, .int .u8 32, .int .i64 1, .int .i64 16, .bool true, .bool false, .bool true, .bool false, (.func (.func 96) #[] #[]), .nilFunc]
  | 5 => [.string ⟨#[68, 65]⟩, .int .u8 32, .int .i64 1, .int .i64 8, .bool true, .bool false, .bool true, .bool false, (.func (.func 97) #[] #[]), (.func (.func 98) #[] #[])]
  | 6 => [.string ⟨#[68, 83]⟩, .int .u8 32, .int .i64 1, .int .i64 16, .bool true, .bool false, .bool true, .bool false, (.func (.func 99) #[] #[]), (.func (.func 100) #[] #[])]
  | 7 => [.string ⟨#[68, 84]⟩, .int .u8 32, .int .i64 1, .int .i64 26, .bool true, .bool false, .bool true, .bool false, (.func (.func 101) #[] #[]), (.func (.func 102) #[] #[])]
  | 8 => [.string ⟨#[70, 68]⟩, .int .u8 0, .int .i64 8, .int .i64 8, .bool false, .bool false, .bool true, .bool false, .nilFunc, .nilFunc]
  | 9 => [.string ⟨#[70, 76]⟩, .int .u8 0, .int .i64 4, .int .i64 4, .bool false, .bool false, .bool true, .bool false, .nilFunc, .nilFunc]
  | 10 => [.string ⟨#[73, 83]⟩, .int .u8 32, .int .i64 1, .int .i64 12, .bool true, .bool false, .bool true, .bool false, (.func (.func 103) #[] #[]), (.func (.func 104) #[] #[])]
  | 11 => [.string ⟨#[76, 79]⟩, .int .u8 32, .int .i64 1, .int .i64 64, .bool true, .bool true, .bool true, .bool false, (.func (.func 105) #[] #[]), .nilFunc]
  | 12 => [.string ⟨#[76, 84]⟩, .int .u8 32, .int .i64 1, .int .i64 10240, .bool true, .bool true, .bool false, .bool false, (.func (.func 106) #[] #[]), .nilFunc]
  | 13 => [.string ⟨#[79, 66]⟩, .int .u8 0, .int .i64 1, .int .i64 0, .bool false, .bool false, .bool false, .bool true, .nilFunc, .nilFunc]
  | 14 => [.string ⟨#[79, 87]⟩, .int .u8 0, .int .i64 2, .int .i64 0, .bool false, .bool false, .bool false, .bool true, .nilFunc, .nilFunc]
  | 15 => [.string ⟨#[80, 78]⟩, .int .u8 32, .int .i64 1, .int .i64 64, .bool true, .bool true, .bool true, .bool false, (.func (.func 105) #[] #[]), (.func (.func 107) #[] #[])]
  | 16 => [.string ⟨#[83, 72]⟩, .int .u8 32, .int .i64 1, .int .i64 16, .bool true, .bool true, .bool true, .bool false, (.func (.func 105) #[] #[]), .nilFunc]
  | 17 => [.string ⟨#[83, 76]⟩, .int .u8 0, .int .i64 4, .int .i64 4, .bool false, .bool false, .bool true, .bool false, .nilFunc, .nilFunc]
  | 18 => [.string ⟨#[83, 81]⟩, .int .u8 0, .int .i64 1, .int .i64 0, .bool false, .bool false, .bool false, .bool true, .nilFunc, .nilFunc]
  | 19 => [.string ⟨#[83, 83]⟩, .int .u8 0, .int .i64 2, .int .i64 2, .bool false, .bool false, .bool true, .bool false, .nilFunc, .nilFunc]
  | 20 => [.string ⟨#[83, 84]⟩, .int .u8 32, .int .i64 1, .int .i64 1024, .bool true, .bool true, .bool false, .bool false, (.func (.func 106) #[] #[]), .nilFunc]
  | 21 => [.string ⟨#[84, 77]⟩, .int .u8 32, .int .i64 1, .int .i64 14, .bool true, .bool false, .bool true, .bool false, (.func (.func 108) #[] #[]), (.func (.func 109) #[] #[])]
  | 22 => [.string ⟨#[85, 67]⟩, .int .u8 32, .int .i64 1, .int .i64 0, .bool true, .bool true, .bool true, .bool true, (.func (.func 105) #[] #[]), .nilFunc]
  | 23 => [.string ⟨#[85, 73]⟩, .int .u8 0, .int .i64 1, .int .i64 64, .bool true, .bool false, .bool true, .bool false, (.func (.func 108) #[] #[]), (.func (.func 110) #[] #[])]
  | 24 => [.string ⟨#[85, 76]⟩, .int .u8 0, .int .i64 4, .int .i64 4, .bool false, .bool false, .bool true, .bool false, .nilFunc, .nilFunc]
  | 25 => [.string ⟨#[85, 78]⟩, .int .u8 0, .int .i64 1, .int .i64 0, .bool false, .bool false, .bool false, .bool true, .nilFunc, .nilFunc]
  | 26 => [.string ⟨#[85, 82]⟩, .int .u8 32, .int .i64 1, .int .i64 0, .bool true, .bool false, .bool false, .bool true, (.func (.func 111) #[] #[]), .nilFunc]
  | 27 => [.string ⟨#[85, 83]⟩, .int .u8 0, .int .i64 2, .int .i64 2, .bool false, .bool false, .bool true, .bool false, .nilFunc, .nilFunc]
  | 28 => [.string ⟨#[85, 84]⟩, .int .u8 32, .int .i64 1, .int .i64 0, .bool true, .bool true, .bool false, .bool true, (.func (.func 106) #[] #[]), .nilFunc]
  | _ => [.string ⟨#[]⟩, .int .u8 0, .int .i64 0, .int .i64 0, .bool false, .bool false, .bool false, .bool false, .nilFunc, .nilFunc]

/-- The whole table, row behind row. -/
def repsC : Array Value := ((List.range 29).flatMap rowOf).toArray

set_option maxRecDepth 100000 in
set_option maxHeartbeats 4000000 in
theorem reps_any (w : World) : Calls Tryz.prog 76 #[] w fun e w' => e = .returned (.agg repsC) ∧ w.alloc (.cells repsC 105) = w' := by
  go_enter Tryz.func76, Tryz.ntmps76
  go_wp2_with (refine wpList_store_rowTo rfl 105 (.tmp 0) (.tmp 57) rfl rfl w.heap.size repsC rfl (by kernel_rfl) 105 Tryz.zeroCells105 (heap_alloc_last w _) (by kernel_rfl) (by kernel_rfl) (by kernel_rfl) ?_)
  rw [World.setRow_alloc_new]
  refine bodyPost_ret (v := .agg repsC) ?_ rfl ⟨rfl, rfl⟩
  exact results_cell_row rfl _ _ w.heap.size 105 repsC (0, 0) _ rfl (heap_alloc_last w _) Tryz.underlying105 rfl (by kernel_rfl)
end Go.Proofs.YtgdemlebohlolaaGreatDoor.Rp

/-
  DERIVED. A VR's row, looked up.
-/
namespace Go.Proofs.YtgdemlebohlolaaGreatDoor.Rp
open Go Go.Proofs Go.RowKit

set_option maxRecDepth 100000 in
theorem idx_at : ∀ (v : Fin 29) (W : World), (Instr.index 105 (.agg repsC) (.int .i64 (v.val : Int))).run Tryz.prog W = .ok (.agg (rowOf v.val).toArray) W
  | ⟨0, _⟩ => fun _ => by kernel_rfl | ⟨1, _⟩ => fun _ => by kernel_rfl | ⟨2, _⟩ => fun _ => by kernel_rfl | ⟨3, _⟩ => fun _ => by kernel_rfl | ⟨4, _⟩ => fun _ => by kernel_rfl | ⟨5, _⟩ => fun _ => by kernel_rfl
  | ⟨6, _⟩ => fun _ => by kernel_rfl | ⟨7, _⟩ => fun _ => by kernel_rfl | ⟨8, _⟩ => fun _ => by kernel_rfl | ⟨9, _⟩ => fun _ => by kernel_rfl | ⟨10, _⟩ => fun _ => by kernel_rfl | ⟨11, _⟩ => fun _ => by kernel_rfl
  | ⟨12, _⟩ => fun _ => by kernel_rfl | ⟨13, _⟩ => fun _ => by kernel_rfl | ⟨14, _⟩ => fun _ => by kernel_rfl | ⟨15, _⟩ => fun _ => by kernel_rfl | ⟨16, _⟩ => fun _ => by kernel_rfl | ⟨17, _⟩ => fun _ => by kernel_rfl
  | ⟨18, _⟩ => fun _ => by kernel_rfl | ⟨19, _⟩ => fun _ => by kernel_rfl | ⟨20, _⟩ => fun _ => by kernel_rfl | ⟨21, _⟩ => fun _ => by kernel_rfl | ⟨22, _⟩ => fun _ => by kernel_rfl | ⟨23, _⟩ => fun _ => by kernel_rfl
  | ⟨24, _⟩ => fun _ => by kernel_rfl | ⟨25, _⟩ => fun _ => by kernel_rfl | ⟨26, _⟩ => fun _ => by kernel_rfl | ⟨27, _⟩ => fun _ => by kernel_rfl | ⟨28, _⟩ => fun _ => by kernel_rfl
  | ⟨n + 29, h⟩ => absurd h (by omega)

/-- What stands in a row. -/
def strV : Value → ByteArray
  | .string s => s
  | _ => ⟨#[]⟩
def intV : Value → Int
  | .int _ i => i
  | _ => 0
def boolV : Value → Bool
  | .bool b => b
  | _ => false
def nm (k : Nat) : ByteArray := strV ((rowOf k).getD 0 undef)
def pd (k : Nat) : Int := intV ((rowOf k).getD 1 undef)
def un (k : Nat) : Int := intV ((rowOf k).getD 2 undef)
def mo (k : Nat) : Int := intV ((rowOf k).getD 3 undef)
def tx (k : Nat) : Bool := boolV ((rowOf k).getD 4 undef)
def ch (k : Nat) : Bool := boolV ((rowOf k).getD 5 undef)
def mu (k : Nat) : Bool := boolV ((rowOf k).getD 6 undef)
def lo (k : Nat) : Bool := boolV ((rowOf k).getD 7 undef)

/-- A function of the program, or none. -/
def FunV (v : Value) : Prop := v = .nilFunc ∨ ∃ j, v = .func (.func j) #[] #[]

theorem row_shape : ∀ (v : Fin 29), ∃ cf ff, FunV cf ∧ FunV ff ∧ rowOf v.val = [.string (nm v.val), .int .u8 (pd v.val), .int .i64 (un v.val), .int .i64 (mo v.val), .bool (tx v.val), .bool (ch v.val), .bool (mu v.val), .bool (lo v.val), cf, ff]
  | ⟨0, _⟩ => ⟨_, _, by unfold FunV; simp, by unfold FunV; simp, rfl⟩ | ⟨1, _⟩ => ⟨_, _, by unfold FunV; simp, by unfold FunV; simp, rfl⟩ | ⟨2, _⟩ => ⟨_, _, by unfold FunV; simp, by unfold FunV; simp, rfl⟩ | ⟨3, _⟩ => ⟨_, _, by unfold FunV; simp, by unfold FunV; simp, rfl⟩ | ⟨4, _⟩ => ⟨_, _, by unfold FunV; simp, by unfold FunV; simp, rfl⟩ | ⟨5, _⟩ => ⟨_, _, by unfold FunV; simp, by unfold FunV; simp, rfl⟩
  | ⟨6, _⟩ => ⟨_, _, by unfold FunV; simp, by unfold FunV; simp, rfl⟩ | ⟨7, _⟩ => ⟨_, _, by unfold FunV; simp, by unfold FunV; simp, rfl⟩ | ⟨8, _⟩ => ⟨_, _, by unfold FunV; simp, by unfold FunV; simp, rfl⟩ | ⟨9, _⟩ => ⟨_, _, by unfold FunV; simp, by unfold FunV; simp, rfl⟩ | ⟨10, _⟩ => ⟨_, _, by unfold FunV; simp, by unfold FunV; simp, rfl⟩ | ⟨11, _⟩ => ⟨_, _, by unfold FunV; simp, by unfold FunV; simp, rfl⟩
  | ⟨12, _⟩ => ⟨_, _, by unfold FunV; simp, by unfold FunV; simp, rfl⟩ | ⟨13, _⟩ => ⟨_, _, by unfold FunV; simp, by unfold FunV; simp, rfl⟩ | ⟨14, _⟩ => ⟨_, _, by unfold FunV; simp, by unfold FunV; simp, rfl⟩ | ⟨15, _⟩ => ⟨_, _, by unfold FunV; simp, by unfold FunV; simp, rfl⟩ | ⟨16, _⟩ => ⟨_, _, by unfold FunV; simp, by unfold FunV; simp, rfl⟩ | ⟨17, _⟩ => ⟨_, _, by unfold FunV; simp, by unfold FunV; simp, rfl⟩
  | ⟨18, _⟩ => ⟨_, _, by unfold FunV; simp, by unfold FunV; simp, rfl⟩ | ⟨19, _⟩ => ⟨_, _, by unfold FunV; simp, by unfold FunV; simp, rfl⟩ | ⟨20, _⟩ => ⟨_, _, by unfold FunV; simp, by unfold FunV; simp, rfl⟩ | ⟨21, _⟩ => ⟨_, _, by unfold FunV; simp, by unfold FunV; simp, rfl⟩ | ⟨22, _⟩ => ⟨_, _, by unfold FunV; simp, by unfold FunV; simp, rfl⟩ | ⟨23, _⟩ => ⟨_, _, by unfold FunV; simp, by unfold FunV; simp, rfl⟩
  | ⟨24, _⟩ => ⟨_, _, by unfold FunV; simp, by unfold FunV; simp, rfl⟩ | ⟨25, _⟩ => ⟨_, _, by unfold FunV; simp, by unfold FunV; simp, rfl⟩ | ⟨26, _⟩ => ⟨_, _, by unfold FunV; simp, by unfold FunV; simp, rfl⟩ | ⟨27, _⟩ => ⟨_, _, by unfold FunV; simp, by unfold FunV; simp, rfl⟩ | ⟨28, _⟩ => ⟨_, _, by unfold FunV; simp, by unfold FunV; simp, rfl⟩
  | ⟨n + 29, h⟩ => absurd h (by omega)

/-- Which row a VR has; the first one is nobody's. -/
def vn (v : Int) : Nat := if 1 ≤ v ∧ v ≤ 28 then v.toNat else 0

theorem vn_lt (v : Int) : vn v < 29 := by unfold vn; split <;> omega

theorem rep_shape (v : Int) : ∃ cf ff, FunV cf ∧ FunV ff ∧ rowOf (vn v) = [.string (nm (vn v)), .int .u8 (pd (vn v)), .int .i64 (un (vn v)), .int .i64 (mo (vn v)), .bool (tx (vn v)), .bool (ch (vn v)), .bool (mu (vn v)), .bool (lo (vn v)), cf, ff] := row_shape ⟨vn v, vn_lt v⟩

set_option maxRecDepth 100000 in
set_option maxHeartbeats 1000000 in
theorem repOf_any (w : World) (v : Int) : Calls Tryz.prog 49 #[.int .i64 v] w fun e w' => e = .returned (.tuple #[.agg (rowOf (vn v)).toArray, .bool (decide (1 ≤ v ∧ v ≤ 28))]) ∧ Below w.heap.size w w' := by
  by_cases hv : 1 ≤ v ∧ v ≤ 28
  · obtain ⟨hv1, hv2⟩ := hv
    have hix := idx_at ⟨vn v, vn_lt v⟩
    have hvn : ((vn v : Nat) : Int) = v := by unfold vn; rw [if_pos ⟨hv1, hv2⟩]; omega
    have hdec : decide (1 ≤ v ∧ v ≤ 28) = true := by simp; omega
    rw [hdec]
    simp only at hix
    rw [hvn] at hix
    obtain ⟨cf, ff, hcf, hff, hrow⟩ := rep_shape v
    rw [hrow] at hix ⊢
    have c26 := reps_any (w.alloc (.cells #[.string ⟨#[]⟩, .int .u8 0, .int .i64 0, .int .i64 0, .bool false, .bool false, .bool false, .bool false, .nilFunc, .nilFunc] 74))
    generalize repsC = C at c26 hix
    generalize nm (vn v) = n at hix ⊢
    generalize pd (vn v) = p at hix ⊢
    generalize un (vn v) = u at hix ⊢
    generalize mo (vn v) = m at hix ⊢
    generalize tx (vn v) = t at hix ⊢
    generalize ch (vn v) = c at hix ⊢
    generalize mu (vn v) = q at hix ⊢
    generalize lo (vn v) = l at hix ⊢
    clear hrow hvn hdec
    rcases hcf with rfl | ⟨j, rfl⟩ <;> rcases hff with rfl | ⟨j2, rfl⟩
    all_goals go_enter Tryz.func49, Tryz.ntmps49
    all_goals go_wp2_with (first | (go_at_call 76; refine c26.mono ?_; rintro e w' ⟨rfl, rfl⟩) | fail)
    all_goals exact bodyPost_ret (by simp only [results, Tryz.results49]; simp [go_sem]) rfl ⟨rfl, ((Below.refl _ _).alloc (Nat.le_refl _) _).alloc (by simp) _⟩
  · have hdec : decide (1 ≤ v ∧ v ≤ 28) = false := by simp; omega
    have hvn : vn v = 0 := by unfold vn; rw [if_neg hv]
    rw [hdec, hvn, show rowOf 0 = [.string ⟨#[]⟩, .int .u8 0, .int .i64 0, .int .i64 0, .bool false, .bool false, .bool false, .bool false, .nilFunc, .nilFunc] from rfl]
    clear hdec hvn
    have hor : v ≤ 0 ∨ (0 < v ∧ 29 ≤ v) := by omega
    rcases hor with h1 | ⟨h0, h1⟩
    all_goals go_enter Tryz.func49, Tryz.ntmps49
    all_goals go_wp2
    all_goals exact bodyPost_ret (by simp only [results, Tryz.results49]; simp [go_sem]) rfl ⟨rfl, (Below.refl _ _).alloc (Nat.le_refl _) _⟩
end Go.Proofs.YtgdemlebohlolaaGreatDoor.Rp

/-
  DERIVED. What the program tells of a VR.
-/
namespace Go.Proofs.YtgdemlebohlolaaGreatDoor.Rp
open Go Go.Proofs Go.RowKit

theorem repOf_open (w : World) (v : Int) : ∃ cf ff, FunV cf ∧ FunV ff ∧ Calls Tryz.prog 49 #[.int .i64 v] w fun e w' => e = .returned (.tuple #[.agg #[.string (nm (vn v)), .int .u8 (pd (vn v)), .int .i64 (un (vn v)), .int .i64 (mo (vn v)), .bool (tx (vn v)), .bool (ch (vn v)), .bool (mu (vn v)), .bool (lo (vn v)), cf, ff], .bool (decide (1 ≤ v ∧ v ≤ 28))]) ∧ Below w.heap.size w w' := by
  obtain ⟨cf, ff, h1, h2, h3⟩ := rep_shape v
  have := repOf_any w v
  rw [h3] at this
  exact ⟨cf, ff, h1, h2, this⟩

/-- What there is to know of a VR, as a value. -/
def infoV (k : Nat) : Value := .agg #[.string (nm k), .int .u8 (pd k), .int .i64 (un k), .int .i64 (mo k), .bool (tx k), .bool (ch k), .bool (mu k), .bool (lo k)]

end Go.Proofs.YtgdemlebohlolaaGreatDoor.Rp
