import Derived.Test.YtmhjjpdfjilobaaDoorPc
import Derived.LoopTactic
/-
  DERIVED. Whether a text of ASCII has a rune: every rune.
-/
namespace Go.Proofs.YtmhjjpdfjilobaaDoor
open Go Go.Proofs Go.RowKit

set_option maxRecDepth 100000 in
set_option maxHeartbeats 1000000 in
/-- The rune that stands for what is no rune is in no text of ASCII. -/
theorem rune_none (w : World) (s : ByteArray) (hs : ∀ b ∈ s.data.toList, b.toNat < 128) : Calls Tryd.prog 87 #[.string s, .int .i32 65533] w fun e w' => e = .returned (.int .i64 (-1)) ∧ Below w.heap.size w w' := by
  have HS : Hid (∀ b ∈ s.data.toList, b.toNat < 128) := hs
  clear hs
  go_enter Tryd.func87, Tryd.ntmps87
  go_wp2
  go_loopw [4] (fun x wr => x = .int .i64 0 ∧ ∃ pos : Nat, wr = w.iter s pos) (fun _ wr => s.size - wr.iterPos w.heap.size)
  case atStart => exact ⟨rfl, 0, rfl⟩
  case round =>
    obtain ⟨rfl, pos, rfl⟩ := hrel
    by_cases hp : pos < s.size
    · have ha := HS.out (s[pos]'hp) (Array.getElem_mem_toList (xs := s.data) hp)
      have hne : (((s[pos]'hp).toNat : Int) == 65533) = false := by simp; omega
      have hnx : ∀ ty, (Instr.next (.pointer (some ⟨w.heap.size, 0, none⟩)) true ty).run Tryd.prog (w.iter s pos) = _ := fun ty => run_next_ascii w s pos ty hp ha
      go_wp2
      go_roundw
      case rel => exact ⟨rfl, pos + 1, rfl⟩
      case measure => simp; omega
    · have hnx : ∀ ty, (Instr.next (.pointer (some ⟨w.heap.size, 0, none⟩)) true ty).run Tryd.prog (w.iter s pos) = _ := fun ty => run_next_end w s pos ty hp
      go_wp2
      go_ret
      exact ⟨rfl, (Below.refl _ _).alloc (Nat.le_refl _) _⟩

/-- Whether a text has a rune of ASCII. -/
def hasR (s : ByteArray) (r : Int) : Bool := decide (0 ≤ r ∧ r < 128) && s.data.toList.any (· == r.toNat.toUInt8)

theorem indexByte_some (l : List UInt8) (c : UInt8) : decide (0 ≤ Lib.indexByte l c) = l.any (· == c) := by
  induction l with
  | nil => rfl
  | cons b l ih =>
    unfold Lib.indexByte
    by_cases hb : b = c
    · simp [hb]
    · have := Lib.indexByte_ge l c
      rw [List.any_cons, ← ih]
      have e : (b == c) = false := by simpa using hb
      rw [e, Bool.false_or]
      apply decide_eq_decide.2
      simp only [beq_iff_eq, if_false, Bool.false_eq_true]
      split <;> omega

theorem index_any (w : World) (s : ByteArray) (hz : s.size < 100) (hs : ∀ b ∈ s.data.toList, b.toNat < 128) (r : Int) : Calls Tryd.prog 87 #[.string s, .int .i32 r] w fun e w' => ∃ x, e = .returned (.int .i64 x) ∧ decide (0 ≤ x) = hasR s r ∧ Below w.heap.size w w' := by
  by_cases h : 0 ≤ r ∧ r < 128
  · refine (rune_ascii w s r h.1 h.2).mono ?_
    rintro e w' ⟨rfl, rfl⟩
    refine ⟨_, rfl, ?_, Below.refl _ _⟩
    rw [indexByte_some]
    simp [hasR, h]
  · have hf : hasR s r = false := by simp [hasR]; intro a b; omega
    rw [hf]
    have hr : r < 0 ∨ 128 ≤ r := by omega
    cases hv : val r with
    | false =>
      refine (rune_bad w s r hr hv).mono ?_
      rintro e w' ⟨rfl, rfl⟩
      exact ⟨_, rfl, rfl, Below.refl _ _⟩
    | true =>
      by_cases hn : r = 65533
      · subst hn
        refine (rune_none w s hs).mono ?_
        rintro e w' ⟨rfl, hb⟩
        exact ⟨_, rfl, rfl, hb⟩
      · have : 128 ≤ r := by
          rcases val_cases r with ⟨_, h⟩ | ⟨h, _⟩
          · omega
          · rw [h] at hv; exact absurd hv (by decide)
        refine (rune_high w s hz hs r this hv hn).mono ?_
        rintro e w' ⟨rfl, hb⟩
        exact ⟨_, rfl, rfl, hb⟩

set_option maxRecDepth 100000 in
theorem contains_any (w : World) (s : ByteArray) (hz : s.size < 100) (hs : ∀ b ∈ s.data.toList, b.toNat < 128) (r : Int) : Calls Tryd.prog 72 #[.string s, .int .i32 r] w fun e w' => e = .returned (.bool (hasR s r)) ∧ Below w.heap.size w w' := by
  have c := index_any w s hz hs r
  clear hs hz
  go_enter Tryd.func72, Tryd.ntmps72
  go_wp2_with (go_at_call 87; refine c.mono ?_; rintro e w' ⟨x, rfl, hx, hb⟩)
  go_wp2
  go_ret
  exact ⟨rfl, hb⟩

end Go.Proofs.YtmhjjpdfjilobaaDoor
