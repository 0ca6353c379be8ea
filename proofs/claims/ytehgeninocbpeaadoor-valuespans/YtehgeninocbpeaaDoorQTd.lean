import Derived.Test.YtehgeninocbpeaaDoorQTc
import Derived.Lib.Bytealg
/-
  DERIVED. One byte of these, if it stands ahead.
-/
namespace Go.Proofs.YtehgeninocbpeaaDoor.Tm
open Go Go.Proofs Go.RowKit

set_option maxRecDepth 100000 in
theorem idx95_any (w : World) (s : ByteArray) (c : Int) : Calls Tryd.prog 59 #[.string s, .int .u8 c] w fun e w' => e = .returned (.int .i64 (Lib.indexByte s.data.toList c.toNat.toUInt8)) ∧ w = w' := by
  go_enter Tryd.func59, Tryd.ntmps59
  go_wp2
  rw [run_callFunc_extern Tryd.func72 (by kernel_rfl) (by kernel_rfl) (by kernel_rfl) (e := Extern.BytealgIndexByte.indexByte) (by kernel_rfl), Lib.run_indexByteString]
  simp only [Result.andThen]
  rw [Oper.upon_value]
  go_wp2
  go_ret
  exact ⟨rfl, rfl⟩

theorem idx88_any (w : World) (s : ByteArray) (c : Int) : Calls Tryd.prog 42 #[.string s, .int .u8 c] w fun e w' => e = .returned (.int .i64 (Lib.indexByte s.data.toList c.toNat.toUInt8)) ∧ w = w' := by
  have h := idx95_any w s c
  go_enter Tryd.func42, Tryd.ntmps42
  go_wp2_with (go_at_call 59; refine h.mono ?_; rintro e w' ⟨rfl, rfl⟩)
  go_ret
  exact ⟨rfl, rfl⟩

theorem nx_lt (s : ByteArray) (a : Nat) (b : Bool) : nx s a b < 256 := by
  unfold nx
  split
  · omega
  · exact UInt8.toNat_lt _
theorem nx_pos {s : ByteArray} {a : Nat} {b : Bool} (h : nx s a b ≠ 0) : b = false ∧ a < s.size := by
  unfold nx at h
  split at h
  · exact absurd rfl h
  · rename_i hn
    simp at hn
    exact ⟨by cases b with | true => simp at hn | false => rfl, hn.2⟩

def PostT (w : World) (q : Nat) (f : Nat → Value) (s : ByteArray) (a : Nat) (b : Bool) (x : Nat) (e : Ending) (w' : World) : Prop := ∃ f', e = .returned (.int .u8 (x : Int)) ∧ Cur w' q f' s a b ∧ (∀ j, 3 ≤ j → f' j = f j) ∧ w.grownBy w' (some q)

set_option maxRecDepth 100000 in
set_option maxHeartbeats 1000000 in
theorem take_no (w : World) (q : Nat) (f : Nat → Value) (s : ByteArray) (a : Nat) (b : Bool) (h : Cur w q f s a b) (ha : a ≤ s.size) (u : ByteArray) (hI : Lib.indexByte u.data.toList (nx s a b).toUInt8 < 0) :
    Calls Tryd.prog 63 #[.pointer (some ⟨q, 0, none⟩), .string u] w (PostT w q f s a b 0) := by
  have c87 := next_any w q f s a b h ha
  have c88 := fun W => idx88_any W u (nx s a b : Nat)
  rw [Int.toNat_natCast] at c88
  generalize Lib.indexByte u.data.toList (nx s a b).toUInt8 = I at *
  generalize nx s a b = x at *
  have HC : Hid (Cur w q f s a b) := h
  clear h
  go_enter Tryd.func63, Tryd.ntmps63
  go_wp2_with (first | (go_at_call 60; refine c87.mono ?_; rintro e w' ⟨rfl, n, rfl⟩) | (go_at_call 42; refine (c88 _).mono ?_; rintro e w' ⟨rfl, rfl⟩))
  go_ret
  exact ⟨f, rfl, ⟨HC.out.row, HC.out.c0, HC.out.c1, HC.out.c2⟩, fun _ _ => rfl, grown_drewN (grown_refl _ _) n⟩

set_option maxRecDepth 100000 in
set_option maxHeartbeats 1000000 in
theorem take_yes (w : World) (q : Nat) (f : Nat → Value) (s : ByteArray) (a : Nat) (b : Bool) (h : Cur w q f s a b) (ha : a ≤ s.size) (hs : s.size ≤ 140737488351232) (u : ByteArray) (hI : 0 ≤ Lib.indexByte u.data.toList (nx s a b).toUInt8) :
    Calls Tryd.prog 63 #[.pointer (some ⟨q, 0, none⟩), .string u] w (PostT w q f s (a + 1) b (nx s a b)) := by
  have c87 := next_any w q f s a b h ha
  have c88 := fun W => idx88_any W u (nx s a b : Nat)
  rw [Int.toNat_natCast] at c88
  have hI' : decide (Lib.indexByte u.data.toList (nx s a b).toUInt8 < 0) = false := by simp; omega
  generalize Lib.indexByte u.data.toList (nx s a b).toUInt8 = I at *
  generalize nx s a b = x at *
  obtain ⟨q0, q1, q2⟩ := h.cells
  have qf : ∀ i, w.frozen? ⟨q, i, none⟩ = false := fun i => h.row.frozen i
  have hp63 : (a : Int) + 1 < 9223372036854775807 := by omega
  have HC : Hid (Cur w q f s a b) := h
  have HC2 : Hid (Cur (w.setCell ⟨q, 1, none⟩ (.int .i64 ((a : Int) + 1))) q (up f 1 (.int .i64 ((a : Int) + 1))) s (a + 1) b) := by
    refine ⟨HC.out.row.set 1 _, ?_, rfl, ?_⟩
    · show (if (0 : Nat) = 1 then _ else _) = _; rw [if_neg (by omega)]; exact HC.out.c0
    · show (if (2 : Nat) = 1 then _ else _) = _; rw [if_neg (by omega)]; exact HC.out.c2
  clear h hI
  go_enter Tryd.func63, Tryd.ntmps63
  go_wp2_with (first | (go_at_call 60; refine c87.mono ?_; rintro e w' ⟨rfl, n, rfl⟩) | (go_at_call 42; refine (c88 _).mono ?_; rintro e w' ⟨rfl, rfl⟩))
  go_ret
  exact ⟨_, rfl, ⟨HC2.out.row, HC2.out.c0, HC2.out.c1, HC2.out.c2⟩, fun j hj => up_ne (by omega), grown_set (grown_drewN (grown_refl _ _) n) 1 _⟩

set_option maxRecDepth 100000 in
theorem idx_dot (x : Nat) (h : x < 256) : (x = 46 ∧ 0 ≤ Lib.indexByte (⟨#[46]⟩ : ByteArray).data.toList x.toUInt8) ∨ (x ≠ 46 ∧ Lib.indexByte (⟨#[46]⟩ : ByteArray).data.toList x.toUInt8 < 0) := by
  revert x
  decide +kernel
set_option maxRecDepth 100000 in
theorem idx_sign (x : Nat) (h : x < 256) : ((x = 43 ∨ x = 45) ∧ 0 ≤ Lib.indexByte (⟨#[43, 45]⟩ : ByteArray).data.toList x.toUInt8) ∨ (¬ (x = 43 ∨ x = 45) ∧ Lib.indexByte (⟨#[43, 45]⟩ : ByteArray).data.toList x.toUInt8 < 0) := by
  revert x
  decide +kernel
theorem CkF.next {w w' : World} {q : Nat} {f f' : Nat → Value} {s : ByteArray} {S : Mst} {a : Nat} {b : Bool} (h : CkF w q f s S) (hc : Cur w' q f' s a b) (ha : a ≤ s.size) (hk : ∀ j, 3 ≤ j → f' j = f j) (hg : w.grownBy w' (some q)) : CkF w' q f' s { S with a := a, b := b } :=
  { cur := hc, le := ha, dbt := by rw [hk 3 (by omega)]; exact h.dbt.grown hg, v4 := (hk 4 (by omega)).trans h.v4, v5 := (hk 5 (by omega)).trans h.v5, v6 := (hk 6 (by omega)).trans h.v6, v7 := (hk 7 (by omega)).trans h.v7, v8 := (hk 8 (by omega)).trans h.v8, v9 := (hk 9 (by omega)).trans h.v9, v10 := (hk 10 (by omega)).trans h.v10, v11 := (hk 11 (by omega)).trans h.v11, v12 := (hk 12 (by omega)).trans h.v12, v13 := (hk 13 (by omega)).trans h.v13, v14 := (hk 14 (by omega)).trans h.v14, tab := h.tab.grown hg h.q0, q0 := h.q0 }

theorem CkF.set11 {w : World} {q : Nat} {f : Nat → Value} {s : ByteArray} {S : Mst} (h : CkF w q f s S) (x : Nat) : CkF (w.setCell ⟨q, 11, none⟩ (.int .i64 (x : Int))) q (up f 11 (.int .i64 (x : Int))) s { S with mc := x } :=
  have hg := grown_set (grown_refl w (some q)) 11 (.int .i64 (x : Int))
  { cur := h.cur.set 11 (by omega) _, le := h.le, dbt := by rw [up_ne (by omega)]; exact h.dbt.grown hg, v4 := (up_ne (by omega)).trans h.v4, v5 := (up_ne (by omega)).trans h.v5, v6 := (up_ne (by omega)).trans h.v6, v7 := (up_ne (by omega)).trans h.v7, v8 := (up_ne (by omega)).trans h.v8, v9 := (up_ne (by omega)).trans h.v9, v10 := (up_ne (by omega)).trans h.v10, v11 := up_eq, v12 := (up_ne (by omega)).trans h.v12, v13 := (up_ne (by omega)).trans h.v13, v14 := (up_ne (by omega)).trans h.v14, tab := h.tab.grown hg h.q0, q0 := h.q0 }
theorem CkF.set12 {w : World} {q : Nat} {f : Nat → Value} {s : ByteArray} {S : Mst} (h : CkF w q f s S) (x : Nat) : CkF (w.setCell ⟨q, 12, none⟩ (.int .i64 (x : Int))) q (up f 12 (.int .i64 (x : Int))) s { S with p := x } :=
  have hg := grown_set (grown_refl w (some q)) 12 (.int .i64 (x : Int))
  { cur := h.cur.set 12 (by omega) _, le := h.le, dbt := by rw [up_ne (by omega)]; exact h.dbt.grown hg, v4 := (up_ne (by omega)).trans h.v4, v5 := (up_ne (by omega)).trans h.v5, v6 := (up_ne (by omega)).trans h.v6, v7 := (up_ne (by omega)).trans h.v7, v8 := (up_ne (by omega)).trans h.v8, v9 := (up_ne (by omega)).trans h.v9, v10 := (up_ne (by omega)).trans h.v10, v11 := (up_ne (by omega)).trans h.v11, v12 := up_eq, v13 := (up_ne (by omega)).trans h.v13, v14 := (up_ne (by omega)).trans h.v14, tab := h.tab.grown hg h.q0, q0 := h.q0 }
theorem CkF.set13 {w : World} {q : Nat} {f : Nat → Value} {s : ByteArray} {S : Mst} (h : CkF w q f s S) (x : Bool) : CkF (w.setCell ⟨q, 13, none⟩ (.bool x)) q (up f 13 (.bool x)) s { S with zd := x } :=
  have hg := grown_set (grown_refl w (some q)) 13 (.bool x)
  { cur := h.cur.set 13 (by omega) _, le := h.le, dbt := by rw [up_ne (by omega)]; exact h.dbt.grown hg, v4 := (up_ne (by omega)).trans h.v4, v5 := (up_ne (by omega)).trans h.v5, v6 := (up_ne (by omega)).trans h.v6, v7 := (up_ne (by omega)).trans h.v7, v8 := (up_ne (by omega)).trans h.v8, v9 := (up_ne (by omega)).trans h.v9, v10 := (up_ne (by omega)).trans h.v10, v11 := (up_ne (by omega)).trans h.v11, v12 := (up_ne (by omega)).trans h.v12, v13 := up_eq, v14 := (up_ne (by omega)).trans h.v14, tab := h.tab.grown hg h.q0, q0 := h.q0 }
theorem CkF.set14 {w : World} {q : Nat} {f : Nat → Value} {s : ByteArray} {S : Mst} (h : CkF w q f s S) (x : Int) : CkF (w.setCell ⟨q, 14, none⟩ (.int .i64 x)) q (up f 14 (.int .i64 x)) s { S with z := x } :=
  have hg := grown_set (grown_refl w (some q)) 14 (.int .i64 x)
  { cur := h.cur.set 14 (by omega) _, le := h.le, dbt := by rw [up_ne (by omega)]; exact h.dbt.grown hg, v4 := (up_ne (by omega)).trans h.v4, v5 := (up_ne (by omega)).trans h.v5, v6 := (up_ne (by omega)).trans h.v6, v7 := (up_ne (by omega)).trans h.v7, v8 := (up_ne (by omega)).trans h.v8, v9 := (up_ne (by omega)).trans h.v9, v10 := (up_ne (by omega)).trans h.v10, v11 := (up_ne (by omega)).trans h.v11, v12 := (up_ne (by omega)).trans h.v12, v13 := (up_ne (by omega)).trans h.v13, v14 := up_eq, tab := h.tab.grown hg h.q0, q0 := h.q0 }
theorem CkF.doubt {w w' : World} {q : Nat} {f f' : Nat → Value} {s : ByteArray} {S : Mst} {o : Option (Int × Int)} (h : CkF w q f s S) (hc : Cur w' q f' s S.a S.b) (hk : ∀ j, 4 ≤ j → f' j = f j) (hd : Dbt w' q (f' 3) o) (hg : w.grownBy w' (some q)) : CkF w' q f' s { S with o := o } :=
  { cur := hc, le := h.le, dbt := hd, v4 := (hk 4 (by omega)).trans h.v4, v5 := (hk 5 (by omega)).trans h.v5, v6 := (hk 6 (by omega)).trans h.v6, v7 := (hk 7 (by omega)).trans h.v7, v8 := (hk 8 (by omega)).trans h.v8, v9 := (hk 9 (by omega)).trans h.v9, v10 := (hk 10 (by omega)).trans h.v10, v11 := (hk 11 (by omega)).trans h.v11, v12 := (hk 12 (by omega)).trans h.v12, v13 := (hk 13 (by omega)).trans h.v13, v14 := (hk 14 (by omega)).trans h.v14, tab := h.tab.grown hg h.q0, q0 := h.q0 }
end Go.Proofs.YtehgeninocbpeaaDoor.Tm
