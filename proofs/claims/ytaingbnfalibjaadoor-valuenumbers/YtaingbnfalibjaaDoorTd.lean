import Derived.Test.YtaingbnfalibjaaDoorK
import Derived.Lib.Bytealg
/-
  DERIVED. One byte of these, if it stands ahead.
-/
namespace Go.Proofs.YtaingbnfalibjaaDoor
open Go Go.Proofs Go.RowKit

set_option maxRecDepth 100000 in
theorem idx95_any (w : World) (s : ByteArray) (c : Int) : Calls Tryd.prog 53 #[.string s, .int .u8 c] w fun e w' => e = .returned (.int .i64 (Lib.indexByte s.data.toList c.toNat.toUInt8)) ∧ w = w' := by
  go_enter Tryd.func53, Tryd.ntmps53
  go_wp2
  rw [run_callFunc_extern Tryd.func61 (by kernel_rfl) (by kernel_rfl) (by kernel_rfl) (e := Extern.BytealgIndexByte.indexByte) (by kernel_rfl), Lib.run_indexByteString]
  simp only [Result.andThen]
  rw [Oper.upon_value]
  go_wp2
  go_ret
  exact ⟨rfl, rfl⟩

theorem idx88_any (w : World) (s : ByteArray) (c : Int) : Calls Tryd.prog 41 #[.string s, .int .u8 c] w fun e w' => e = .returned (.int .i64 (Lib.indexByte s.data.toList c.toNat.toUInt8)) ∧ w = w' := by
  have h := idx95_any w s c
  go_enter Tryd.func41, Tryd.ntmps41
  go_wp2_with (go_at_call 53; refine h.mono ?_; rintro e w' ⟨rfl, rfl⟩)
  go_ret
  exact ⟨rfl, rfl⟩

theorem up_ne {f : Nat → Value} {i j : Nat} {v : Value} (h : j ≠ i) : up f i v j = f j := if_neg h
theorem up_eq {f : Nat → Value} {i : Nat} {v : Value} : up f i v i = v := if_pos rfl

theorem nx_lt (s : ByteArray) (a : Nat) (b : Bool) : nx s a b < 256 := by
  unfold nx
  split
  · omega
  · exact UInt8.toNat_lt _
theorem nx_pos {s : ByteArray} {a : Nat} {b : Bool} (h : nx s a b ≠ 0) : b = false ∧ a < s.size := by
  unfold nx at h
  split at h
  · exact absurd rfl h
  · rename_i hn
    simp at hn
    exact ⟨by cases b with | true => simp at hn | false => rfl, hn.2⟩

def PostT (w : World) (q : Nat) (f : Nat → Value) (s : ByteArray) (a : Nat) (b : Bool) (x : Nat) (e : Ending) (w' : World) : Prop := ∃ f', e = .returned (.int .u8 (x : Int)) ∧ Cur w' q f' s a b ∧ (∀ j, 3 ≤ j → f' j = f j) ∧ w.grownBy w' (some q)

set_option maxRecDepth 100000 in
set_option maxHeartbeats 1000000 in
theorem take_no (w : World) (q : Nat) (f : Nat → Value) (s : ByteArray) (a : Nat) (b : Bool) (h : Cur w q f s a b) (ha : a ≤ s.size) (u : ByteArray) (hI : Lib.indexByte u.data.toList (nx s a b).toUInt8 < 0) :
    Calls Tryd.prog 18 #[.pointer (some ⟨q, 0, none⟩), .string u] w (PostT w q f s a b 0) := by
  have c87 := next_any w q f s a b h ha
  have c88 := fun W => idx88_any W u (nx s a b : Nat)
  rw [Int.toNat_natCast] at c88
  generalize Lib.indexByte u.data.toList (nx s a b).toUInt8 = I at *
  generalize nx s a b = x at *
  have HC : Hid (Cur w q f s a b) := h
  clear h
  go_enter Tryd.func18, Tryd.ntmps18
  go_wp2_with (first | (go_at_call 40; refine c87.mono ?_; rintro e w' ⟨rfl, n, rfl⟩) | (go_at_call 41; refine (c88 _).mono ?_; rintro e w' ⟨rfl, rfl⟩))
  go_ret
  exact ⟨f, rfl, ⟨HC.out.row, HC.out.c0, HC.out.c1, HC.out.c2⟩, fun _ _ => rfl, grown_drewN (grown_refl _ _) n⟩

set_option maxRecDepth 100000 in
set_option maxHeartbeats 1000000 in
theorem take_yes (w : World) (q : Nat) (f : Nat → Value) (s : ByteArray) (a : Nat) (b : Bool) (h : Cur w q f s a b) (ha : a ≤ s.size) (hs : s.size ≤ 140737488351232) (u : ByteArray) (hI : 0 ≤ Lib.indexByte u.data.toList (nx s a b).toUInt8) :
    Calls Tryd.prog 18 #[.pointer (some ⟨q, 0, none⟩), .string u] w (PostT w q f s (a + 1) b (nx s a b)) := by
  have c87 := next_any w q f s a b h ha
  have c88 := fun W => idx88_any W u (nx s a b : Nat)
  rw [Int.toNat_natCast] at c88
  have hI' : decide (Lib.indexByte u.data.toList (nx s a b).toUInt8 < 0) = false := by simp; omega
  generalize Lib.indexByte u.data.toList (nx s a b).toUInt8 = I at *
  generalize nx s a b = x at *
  obtain ⟨q0, q1, q2⟩ := h.cells
  have qf : ∀ i, w.frozen? ⟨q, i, none⟩ = false := fun i => h.row.frozen i
  have hp63 : (a : Int) + 1 < 9223372036854775807 := by omega
  have HC : Hid (Cur w q f s a b) := h
  have HC2 : Hid (Cur (w.setCell ⟨q, 1, none⟩ (.int .i64 ((a : Int) + 1))) q (up f 1 (.int .i64 ((a : Int) + 1))) s (a + 1) b) := by
    refine ⟨HC.out.row.set 1 _, ?_, rfl, ?_⟩
    · show (if (0 : Nat) = 1 then _ else _) = _; rw [if_neg (by omega)]; exact HC.out.c0
    · show (if (2 : Nat) = 1 then _ else _) = _; rw [if_neg (by omega)]; exact HC.out.c2
  clear h hI
  go_enter Tryd.func18, Tryd.ntmps18
  go_wp2_with (first | (go_at_call 40; refine c87.mono ?_; rintro e w' ⟨rfl, n, rfl⟩) | (go_at_call 41; refine (c88 _).mono ?_; rintro e w' ⟨rfl, rfl⟩))
  go_ret
  exact ⟨_, rfl, ⟨HC2.out.row, HC2.out.c0, HC2.out.c1, HC2.out.c2⟩, fun j hj => up_ne (by omega), grown_set (grown_drewN (grown_refl _ _) n) 1 _⟩

set_option maxRecDepth 100000 in
theorem idx_dot (x : Nat) (h : x < 256) : (x = 46 ∧ 0 ≤ Lib.indexByte (⟨#[46]⟩ : ByteArray).data.toList x.toUInt8) ∨ (x ≠ 46 ∧ Lib.indexByte (⟨#[46]⟩ : ByteArray).data.toList x.toUInt8 < 0) := by
  revert x
  decide +kernel
set_option maxRecDepth 100000 in
theorem idx_sign (x : Nat) (h : x < 256) : ((x = 43 ∨ x = 45) ∧ 0 ≤ Lib.indexByte (⟨#[43, 45]⟩ : ByteArray).data.toList x.toUInt8) ∨ (¬ (x = 43 ∨ x = 45) ∧ Lib.indexByte (⟨#[43, 45]⟩ : ByteArray).data.toList x.toUInt8 < 0) := by
  revert x
  decide +kernel
end Go.Proofs.YtaingbnfalibjaaDoor
