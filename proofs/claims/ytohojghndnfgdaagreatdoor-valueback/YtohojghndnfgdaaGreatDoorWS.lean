import Derived.Test.YtohojghndnfgdaaGreatDoorWI
import Derived.Lib.Bytealg
section
/-
  DERIVED. A day's text, read.
-/
namespace Go.Proofs.YtohojghndnfgdaaGreatDoor.Wh
open Go Go.Proofs Go.RowKit

def PostE (w : World) (o : Option (Int × Int)) (e : Ending) (w' : World) : Prop := ∃ v, e = .returned v ∧ PErr w' v o ∧ Below w.heap.size w w'

set_option maxRecDepth 100000 in
set_option maxHeartbeats 1000000 in
theorem end78_any (w : World) (q : Nat) (f : Nat → Value) (s : ByteArray) (a : Nat) (b : Bool) (h : Cur w q f s a b) (o : Option (Int × Int)) (ho : (b = true ∨ a < s.size) ∧ o = some ((a : Int), 100) ∨ (b = false ∧ ¬ a < s.size) ∧ o = none) :
    Calls Tryz.prog 26 #[.pointer (some ⟨q, 0, none⟩)] w (PostE w o) := by
  obtain ⟨q0, q1, q2⟩ := h.cells
  clear h
  rcases ho with ⟨hb, rfl⟩ | ⟨⟨rfl, hb⟩, rfl⟩
  · have c24 := fun k => refusal_any (a : Int) 100 (w.drewN k)
    have hcase : b = true ∨ (b = false ∧ a < s.size) := by
      cases b with
      | true => exact .inl rfl
      | false => exact .inr ⟨rfl, by simpa using hb⟩
    clear hb
    rcases hcase with rfl | ⟨rfl, hl⟩
    · go_enter Tryz.func26, Tryz.ntmps26
      go_wp2
      go_quiet (fail)
      go_wp2_with (go_at_call 15; refine Stop.mk ?_)
      refine Stop.out ((c24 _).mono ?_)
      rintro e W1 ⟨v, rfl, hv, hb1⟩
      have HV : Hid (PErr W1 v (some ((a : Int), 100))) := hv
      have HB : Hid (Below w.heap.size w W1) := (below_drewN (Below.refl _ _) _).trans hb1
      clear hv hb1 c24
      go_wp2
      go_ret
      exact ⟨v, rfl, HV.out, HB.out⟩
    · have hlI : decide ((a : Int) < (s.size : Int)) = true := by simp; omega
      go_enter Tryz.func26, Tryz.ntmps26
      go_wp2
      go_quiet (fail)
      go_wp2_with (go_at_call 15; refine Stop.mk ?_)
      refine Stop.out ((c24 _).mono ?_)
      rintro e W1 ⟨v, rfl, hv, hb1⟩
      have HV : Hid (PErr W1 v (some ((a : Int), 100))) := hv
      have HB : Hid (Below w.heap.size w W1) := (below_drewN (Below.refl _ _) _).trans hb1
      clear hv hb1 c24
      go_wp2
      go_ret
      exact ⟨v, rfl, HV.out, HB.out⟩
  · have hlI : decide ((a : Int) < (s.size : Int)) = false := by simp; omega
    have hlN : decide (a < s.size) = false := by simp; omega
    go_enter Tryz.func26, Tryz.ntmps26
    go_wp2
    go_quiet (fail)
    go_wp2
    go_ret
    exact ⟨_, rfl, rfl, below_drewN (Below.refl _ _) _⟩

end Go.Proofs.YtohojghndnfgdaaGreatDoor.Wh
end

section
/-
  DERIVED. One byte of these, if it stands ahead.
-/
namespace Go.Proofs.YtohojghndnfgdaaGreatDoor.Wh
open Go Go.Proofs Go.RowKit

set_option maxRecDepth 100000 in
theorem idx95_any (w : World) (s : ByteArray) (c : Int) : Calls Tryz.prog 81 #[.string s, .int .u8 c] w fun e w' => e = .returned (.int .i64 (Lib.indexByte s.data.toList c.toNat.toUInt8)) ∧ w = w' := by
  go_enter Tryz.func81, Tryz.ntmps81
  go_wp2
  rw [run_callFunc_extern Tryz.func98 (by kernel_rfl) (by kernel_rfl) (by kernel_rfl) (e := Extern.BytealgIndexByte.indexByte) (by kernel_rfl), Lib.run_indexByteString]
  simp only [Result.andThen]
  rw [Oper.upon_value]
  go_wp2
  go_ret
  exact ⟨rfl, rfl⟩

theorem idx88_any (w : World) (s : ByteArray) (c : Int) : Calls Tryz.prog 70 #[.string s, .int .u8 c] w fun e w' => e = .returned (.int .i64 (Lib.indexByte s.data.toList c.toNat.toUInt8)) ∧ w = w' := by
  have h := idx95_any w s c
  go_enter Tryz.func70, Tryz.ntmps70
  go_wp2_with (go_at_call 81; refine h.mono ?_; rintro e w' ⟨rfl, rfl⟩)
  go_ret
  exact ⟨rfl, rfl⟩

theorem up_ne {f : Nat → Value} {i j : Nat} {v : Value} (h : j ≠ i) : up f i v j = f j := if_neg h
theorem up_eq {f : Nat → Value} {i : Nat} {v : Value} : up f i v i = v := if_pos rfl

theorem nx_lt (s : ByteArray) (a : Nat) (b : Bool) : nx s a b < 256 := by
  unfold nx
  split
  · omega
  · exact UInt8.toNat_lt _
theorem nx_pos {s : ByteArray} {a : Nat} {b : Bool} (h : nx s a b ≠ 0) : b = false ∧ a < s.size := by
  unfold nx at h
  split at h
  · exact absurd rfl h
  · rename_i hn
    simp at hn
    exact ⟨by cases b with | true => simp at hn | false => rfl, hn.2⟩

def PostT (w : World) (q : Nat) (f : Nat → Value) (s : ByteArray) (a : Nat) (b : Bool) (x : Nat) (e : Ending) (w' : World) : Prop := ∃ f', e = .returned (.int .u8 (x : Int)) ∧ Cur w' q f' s a b ∧ (∀ j, 3 ≤ j → f' j = f j) ∧ w.grownBy w' (some q)

set_option maxRecDepth 100000 in
set_option maxHeartbeats 1000000 in
theorem take_no (w : World) (q : Nat) (f : Nat → Value) (s : ByteArray) (a : Nat) (b : Bool) (h : Cur w q f s a b) (ha : a ≤ s.size) (u : ByteArray) (hI : Lib.indexByte u.data.toList (nx s a b).toUInt8 < 0) :
    Calls Tryz.prog 52 #[.pointer (some ⟨q, 0, none⟩), .string u] w (PostT w q f s a b 0) := by
  have c87 := next_any w q f s a b h ha
  have c88 := fun W => idx88_any W u (nx s a b : Nat)
  rw [Int.toNat_natCast] at c88
  generalize Lib.indexByte u.data.toList (nx s a b).toUInt8 = I at *
  generalize nx s a b = x at *
  have HC : Hid (Cur w q f s a b) := h
  clear h
  go_enter Tryz.func52, Tryz.ntmps52
  go_wp2_with (first | (go_at_call 69; refine c87.mono ?_; rintro e w' ⟨rfl, n, rfl⟩) | (go_at_call 70; refine (c88 _).mono ?_; rintro e w' ⟨rfl, rfl⟩))
  go_ret
  exact ⟨f, rfl, ⟨HC.out.row, HC.out.c0, HC.out.c1, HC.out.c2⟩, fun _ _ => rfl, grown_drewN (grown_refl _ _) n⟩

set_option maxRecDepth 100000 in
set_option maxHeartbeats 1000000 in
theorem take_yes (w : World) (q : Nat) (f : Nat → Value) (s : ByteArray) (a : Nat) (b : Bool) (h : Cur w q f s a b) (ha : a ≤ s.size) (hs : s.size ≤ 140737488351232) (u : ByteArray) (hI : 0 ≤ Lib.indexByte u.data.toList (nx s a b).toUInt8) :
    Calls Tryz.prog 52 #[.pointer (some ⟨q, 0, none⟩), .string u] w (PostT w q f s (a + 1) b (nx s a b)) := by
  have c87 := next_any w q f s a b h ha
  have c88 := fun W => idx88_any W u (nx s a b : Nat)
  rw [Int.toNat_natCast] at c88
  have hI' : decide (Lib.indexByte u.data.toList (nx s a b).toUInt8 < 0) = false := by simp; omega
  generalize Lib.indexByte u.data.toList (nx s a b).toUInt8 = I at *
  generalize nx s a b = x at *
  obtain ⟨q0, q1, q2⟩ := h.cells
  have qf : ∀ i, w.frozen? ⟨q, i, none⟩ = false := fun i => h.row.frozen i
  have hp63 : (a : Int) + 1 < 9223372036854775807 := by omega
  have HC : Hid (Cur w q f s a b) := h
  have HC2 : Hid (Cur (w.setCell ⟨q, 1, none⟩ (.int .i64 ((a : Int) + 1))) q (up f 1 (.int .i64 ((a : Int) + 1))) s (a + 1) b) := by
    refine ⟨HC.out.row.set 1 _, ?_, rfl, ?_⟩
    · show (if (0 : Nat) = 1 then _ else _) = _; rw [if_neg (by omega)]; exact HC.out.c0
    · show (if (2 : Nat) = 1 then _ else _) = _; rw [if_neg (by omega)]; exact HC.out.c2
  clear h hI
  go_enter Tryz.func52, Tryz.ntmps52
  go_wp2_with (first | (go_at_call 69; refine c87.mono ?_; rintro e w' ⟨rfl, n, rfl⟩) | (go_at_call 70; refine (c88 _).mono ?_; rintro e w' ⟨rfl, rfl⟩))
  go_ret
  exact ⟨_, rfl, ⟨HC2.out.row, HC2.out.c0, HC2.out.c1, HC2.out.c2⟩, fun j hj => up_ne (by omega), grown_set (grown_drewN (grown_refl _ _) n) 1 _⟩

set_option maxRecDepth 100000 in
theorem idx_dot (x : Nat) (h : x < 256) : (x = 46 ∧ 0 ≤ Lib.indexByte (⟨#[46]⟩ : ByteArray).data.toList x.toUInt8) ∨ (x ≠ 46 ∧ Lib.indexByte (⟨#[46]⟩ : ByteArray).data.toList x.toUInt8 < 0) := by
  revert x
  decide +kernel
set_option maxRecDepth 100000 in
theorem idx_sign (x : Nat) (h : x < 256) : ((x = 43 ∨ x = 45) ∧ 0 ≤ Lib.indexByte (⟨#[43, 45]⟩ : ByteArray).data.toList x.toUInt8) ∨ (¬ (x = 43 ∨ x = 45) ∧ Lib.indexByte (⟨#[43, 45]⟩ : ByteArray).data.toList x.toUInt8 < 0) := by
  revert x
  decide +kernel
end Go.Proofs.YtohojghndnfgdaaGreatDoor.Wh
end

section
/-
  DERIVED. Digits with perhaps a point among them.
-/
namespace Go.Proofs.YtohojghndnfgdaaGreatDoor.Wh
open Go Go.Proofs Go.RowKit

/-- Behind a point, if there is one. -/
def dP (s : ByteArray) (a : Nat) : Nat := if nx s a false = 46 then a + 1 else a
theorem dP_le {s : ByteArray} {a : Nat} (h : a ≤ s.size) : dP s a ≤ s.size := by
  unfold dP
  split
  · rename_i h2
    have := (nx_pos (s := s) (a := a) (b := false) (by omega)).2
    omega
  · exact h
theorem grown_trans {w w1 w2 : World} {q : Nat} (h : w.grownBy w1 (some q)) (k : w1.grownBy w2 (some q)) : w.grownBy w2 (some q) :=
  ⟨k.os.trans h.os, k.tape.trans h.tape, k.output.trans h.output, Nat.le_trans h.size k.size, fun i hi hne => (k.block i (Nat.lt_of_lt_of_le hi h.size) hne).trans (h.block i hi hne)⟩
theorem Cur.lt {w : World} {q : Nat} {f : Nat → Value} {s : ByteArray} {a : Nat} {b : Bool} (h : Cur w q f s a b) : q < w.heap.size := h.row.lt

end Go.Proofs.YtohojghndnfgdaaGreatDoor.Wh
end
