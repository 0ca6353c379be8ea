import Derived.Test.YtpnmnjelppnfoaaGreatNobA
namespace Go.Proofs.YtpnmnjelppnfoaaGreat
open Go.RowKit

def In (w : World) (p : Option Addr) : Prop := ∀ b, p = some ⟨b, 0, none⟩ → b < w.heap.size

theorem Nob.alloc {w : World} {p : Option Addr} (h : Nob w p) (hp : In w p) (o : Obj) : Nob (w.alloc o) p :=
  h.below ((Below.refl _ _).alloc (Nat.le_refl _) _) hp

set_option maxHeartbeats 400000 in
theorem fuse_no (p : Option Addr) (n : Int) (w : World) (h : Nob w p) : Calls Tryz.prog 12 #[.pointer p, .int .i64 n] w fun e w' => (∃ v, e = .returned v) ∧ w = w' := by
  go_enter Tryz.func12, Tryz.ntmps12
  go_wp2_with (go_at_call 46; refine (made_no _ _ h).mono ?_; rintro e w' ⟨rfl, rfl⟩)
  refine bodyPost_ret (results_none rfl _ _ _) rfl ?_
  exact ⟨⟨_, rfl⟩, rfl⟩

set_option maxHeartbeats 400000 in
theorem cut_no (p : Option Addr) (v : Value) (n : Int) (w : World) (h : Nob w p) (hp : In w p) : Calls Tryz.prog 13 #[.pointer p, .agg #[v, .int .i64 n]] w fun e w' => (∃ v, e = .returned v) ∧ Below w.heap.size w w' := by
  have h1 := h.alloc hp
  go_enter Tryz.func13, Tryz.ntmps13
  go_wp2_with (go_at_call 46; refine (made_no _ _ (h1 _)).mono ?_; rintro e w' ⟨rfl, rfl⟩)
  refine bodyPost_ret (results_none rfl _ _ _) rfl ?_
  exact ⟨⟨_, rfl⟩, (Below.refl _ _).alloc (Nat.le_refl _) _⟩

set_option maxHeartbeats 400000 in
theorem create_no (p : Option Addr) (s : ByteArray) (w : World) (h : Nob w p) (hp : In w p) : Calls Tryz.prog 10 #[.pointer p, .string s] w fun e w' => e = .returned (.int .i64 3) ∧ Below w.heap.size w w' := by
  have h1 := h.alloc hp
  go_enter Tryz.func10, Tryz.ntmps10
  go_wp2_with (go_at_call 41; refine (refuse_no _ _ _ (h1 _)).mono ?_; rintro e w' ⟨rfl, rfl⟩)
  go_ret
  exact ⟨rfl, (Below.refl _ _).alloc (Nat.le_refl _) _⟩

set_option maxHeartbeats 400000 in
theorem append_no (p : Option Addr) (s : ByteArray) (v : Value) (w : World) (h : Nob w p) (hp : In w p) : Calls Tryz.prog 14 #[.pointer p, .string s, v] w fun e w' => e = .returned (.int .i64 3) ∧ Below w.heap.size w w' := by
  go_enter Tryz.func14, Tryz.ntmps14
  go_wp2_with (go_at_call 50; refine (find_no _ _ _ h hp).mono ?_; rintro e w' ⟨rfl, hb⟩)
  go_ret
  exact ⟨rfl, hb⟩

set_option maxHeartbeats 400000 in
theorem truncate_no (p : Option Addr) (s : ByteArray) (v : Value) (w : World) (h : Nob w p) (hp : In w p) : Calls Tryz.prog 15 #[.pointer p, .string s, v] w fun e w' => e = .returned (.int .i64 3) ∧ Below w.heap.size w w' := by
  go_enter Tryz.func15, Tryz.ntmps15
  go_wp2_with (go_at_call 50; refine (find_no _ _ _ h hp).mono ?_; rintro e w' ⟨rfl, hb⟩)
  go_ret
  exact ⟨rfl, hb⟩

set_option maxHeartbeats 400000 in
theorem sync_no (p : Option Addr) (s : ByteArray) (w : World) (h : Nob w p) (hp : In w p) : Calls Tryz.prog 16 #[.pointer p, .string s] w fun e w' => e = .returned (.int .i64 3) ∧ Below w.heap.size w w' := by
  go_enter Tryz.func16, Tryz.ntmps16
  go_wp2_with (go_at_call 50; refine (find_no _ _ _ h hp).mono ?_; rintro e w' ⟨rfl, hb⟩)
  go_ret
  exact ⟨rfl, hb⟩

set_option maxHeartbeats 400000 in
theorem rename_no (p : Option Addr) (s t : ByteArray) (w : World) (h : Nob w p) (hp : In w p) : Calls Tryz.prog 17 #[.pointer p, .string s, .string t] w fun e w' => e = .returned (.int .i64 3) ∧ Below w.heap.size w w' := by
  have h1 := h.alloc hp
  go_enter Tryz.func17, Tryz.ntmps17
  go_wp2_with (go_at_call 41; refine (refuse_no _ _ _ (h1 _)).mono ?_; rintro e w' ⟨rfl, rfl⟩)
  go_ret
  exact ⟨rfl, (Below.refl _ _).alloc (Nat.le_refl _) _⟩

set_option maxHeartbeats 400000 in
theorem remove_no (p : Option Addr) (s : ByteArray) (w : World) (h : Nob w p) (hp : In w p) : Calls Tryz.prog 18 #[.pointer p, .string s] w fun e w' => e = .returned (.int .i64 3) ∧ Below w.heap.size w w' := by
  go_enter Tryz.func18, Tryz.ntmps18
  go_wp2_with (go_at_call 50; refine (find_no _ _ _ h hp).mono ?_; rintro e w' ⟨rfl, hb⟩)
  go_ret
  exact ⟨rfl, hb⟩

set_option maxHeartbeats 400000 in
theorem syncDir_no (p : Option Addr) (w : World) (h : Nob w p) : Calls Tryz.prog 19 #[.pointer p] w fun e w' => e = .returned (.int .i64 3) ∧ w = w' := by
  go_enter Tryz.func19, Tryz.ntmps19
  go_wp2_with (go_at_call 41; refine (refuse_no _ _ _ h).mono ?_; rintro e w' ⟨rfl, rfl⟩)
  go_ret
  exact ⟨rfl, rfl⟩

set_option maxHeartbeats 400000 in
theorem read_no (p : Option Addr) (s : ByteArray) (v u : Value) (w : World) (h : Nob w p) (hp : In w p) : Calls Tryz.prog 20 #[.pointer p, .string s, v, u] w fun e w' => e = .returned (.tuple #[.slice none 0 0, .int .i64 3]) ∧ Below w.heap.size w w' := by
  go_enter Tryz.func20, Tryz.ntmps20
  go_wp2_with (go_at_call 50; refine (find_no _ _ _ h hp).mono ?_; rintro e w' ⟨rfl, hb⟩)
  go_ret2
  exact ⟨rfl, hb⟩

set_option maxHeartbeats 400000 in
theorem size_no (p : Option Addr) (s : ByteArray) (w : World) (h : Nob w p) (hp : In w p) : Calls Tryz.prog 21 #[.pointer p, .string s] w fun e w' => e = .returned (.tuple #[.int .i64 0, .int .i64 3]) ∧ Below w.heap.size w w' := by
  go_enter Tryz.func21, Tryz.ntmps21
  go_wp2_with (go_at_call 50; refine (find_no _ _ _ h hp).mono ?_; rintro e w' ⟨rfl, hb⟩)
  go_ret2
  exact ⟨rfl, hb⟩

set_option maxHeartbeats 400000 in
theorem used_no (p : Option Addr) (w : World) (h : Nob w p) : Calls Tryz.prog 22 #[.pointer p] w fun e w' => e = .returned (.int .i64 0) ∧ w = w' := by
  go_enter Tryz.func22, Tryz.ntmps22
  go_wp2_with (go_at_call 46; refine (made_no _ _ h).mono ?_; rintro e w' ⟨rfl, rfl⟩)
  go_ret
  exact ⟨rfl, rfl⟩

set_option maxHeartbeats 400000 in
theorem sizes_no (p : Option Addr) (w : World) (h : Nob w p) : Calls Tryz.prog 57 #[.pointer p] w fun e w' => e = .returned (.map none) ∧ w = w' := by
  go_enter Tryz.func57, Tryz.ntmps57
  go_wp2_with (go_at_call 41; refine (refuse_no _ _ _ h).mono ?_; rintro e w' ⟨rfl, rfl⟩)
  go_ret
  exact ⟨rfl, rfl⟩

set_option maxHeartbeats 400000 in
theorem list_any (p : Option Addr) (w : World) : Calls Tryz.prog 23 #[.pointer p] w fun e w' => e = .returned (.func (.func 55) #[] #[.pointer (some ⟨w.heap.size, 0, none⟩)]) ∧ w.alloc (.cells #[.pointer p] 23) = w' := by
  go_enter Tryz.func23, Tryz.ntmps23
  go_wp2
  go_ret
  exact ⟨rfl, rfl⟩

set_option maxHeartbeats 400000 in
theorem rising_any (m : Option Nat) (w : World) : Calls Tryz.prog 56 #[.map m] w fun e w' => e = .returned (.func (.func 78) #[] #[.pointer (some ⟨w.heap.size, 0, none⟩)]) ∧ w.alloc (.cells #[.map m] 117) = w' := by
  go_enter Tryz.func56, Tryz.ntmps56
  go_wp2
  go_ret
  exact ⟨rfl, rfl⟩

end Go.Proofs.YtpnmnjelppnfoaaGreat
