import Derived.Test.YtfjcmniicbppdaaC
/-
  DERIVED. The law on framers that NewFramer did not give.
-/
namespace Go.Proofs.Ytfjcmniicbppdaa
open Go Go.Proofs Go.RowKit

def Stop (p : Prop) : Prop := p
theorem Stop.mk {p : Prop} (h : Stop p) : p := h
theorem Stop.out {p : Prop} (h : p) : Stop p := h

/-- A framer that nobody made. -/
structure Bare (w : World) (q : Nat) : Prop where
  c0 : w.cell? ⟨q, 0, none⟩ = some (.int .i64 0)
  c1 : w.cell? ⟨q, 1, none⟩ = some (.slice none 0 0)
  lt : q < w.heap.size
theorem Bare.on {w w' : World} {q : Nat} (h : Bare w q) (hb : Below w.heap.size w w') : Bare w' q :=
  ⟨(hb.cell (p := ⟨q, 0, none⟩) h.lt).trans h.c0, (hb.cell (p := ⟨q, 1, none⟩) h.lt).trans h.c1, Nat.lt_of_lt_of_le h.lt hb.size⟩
theorem Bare.new (w : World) : Bare (w.alloc (.cells #[.int .i64 0, .slice none 0 0, .bool false] 25)) w.heap.size := ⟨by simp [go_sem], by simp [go_sem], by simp⟩

set_option maxRecDepth 100000 in
set_option maxHeartbeats 2000000 in
theorem nobody_any (v : Value) (w : World) : Calls Try.prog 3 #[v] w fun e w' => e = .returned (.bool true) ∧ Below w.heap.size w w' := by
  have kt := fun W => take_nil W v
  have kh := held_nil
  have kf : ∀ W, Calls Try.prog 8 #[.string ⟨#[120]⟩] W fun e w' => e = .returned (.slice (some ⟨W.heap.size, 0, none⟩) 4 4) ∧ Below W.heap.size W w' := fun W => (frame_any W ⟨#[120]⟩ (by decide)).mono fun e w' h => ⟨h.1, h.2.2⟩
  have HB0 : Hid (Below w.heap.size w (w.alloc (.cells #[.int .i64 0, .slice none 0 0, .bool false] 25))) := (Below.refl _ _).alloc (Nat.le_refl _) _
  have HR0 : Hid (Bare (w.alloc (.cells #[.int .i64 0, .slice none 0 0, .bool false] 25)) w.heap.size) := Bare.new w
  go_enter Try.func3, Try.ntmps3
  go_wp2_with (go_at_call 7; refine Stop.mk ?_)
  refine Stop.out ((kt _).mono ?_)
  rintro e w' ⟨rfl, rfl⟩
  clear kt
  generalize w.alloc (.cells #[.int .i64 0, .slice none 0 0, .bool false] 25) = W1 at *
  have kb := take_bare W1 w.heap.size v HR0.out.c0
  go_wp2_with (go_at_call 7; refine Stop.mk ?_)
  refine Stop.out (kb.mono ?_)
  rintro e w' ⟨rfl, rfl⟩
  clear kb
  go_wp2_with (go_at_call 8; refine Stop.mk ?_)
  refine Stop.out ((kf _).mono ?_)
  rintro e W2 ⟨rfl, hb⟩
  have HB2 : Hid (Below w.heap.size w W2) := HB0.out.trans (hb.mono HB0.out.size)
  have HR2 : Hid (Bare W2 w.heap.size) := HR0.out.on hb
  clear hb
  have kb := take_bare W2 w.heap.size (.slice (some ⟨W1.heap.size, 0, none⟩) 4 4) HR2.out.c0
  clear HB0 HR0
  go_wp2_with (go_at_call 7; refine Stop.mk ?_)
  refine Stop.out (kb.mono ?_)
  rintro e w' ⟨rfl, rfl⟩
  clear kb
  have kb := held_bare W2 w.heap.size HR2.out.c0 HR2.out.c1
  go_wp2_with (go_at_call 9; refine Stop.mk ?_)
  refine Stop.out ((kh _).mono ?_)
  rintro e w' ⟨rfl, rfl⟩
  go_wp2_with (go_at_call 9; refine Stop.mk ?_)
  refine Stop.out (kb.mono ?_)
  rintro e w' ⟨rfl, rfl⟩
  clear kb kh
  go_wp2_with (go_at_call 8; refine Stop.mk ?_)
  refine Stop.out ((kf _).mono ?_)
  rintro e W3 ⟨rfl, hb⟩
  have HB3 : Hid (Below w.heap.size w W3) := HB2.out.trans (hb.mono HB2.out.size)
  clear hb
  go_wp2
  go_ret
  exact ⟨rfl, HB3.out⟩
end Go.Proofs.Ytfjcmniicbppdaa
