import Derived.Test.YtidcjobokfgeoaaD
/-
  DERIVED. The items of a step's sequence that names nothing.
-/
namespace Go.Proofs.Ytidcjobokfgeoaa
open Go Go.Proofs Go.RowKit

theorem sel1 : (sel 1 21).length = 10 := by decide
theorem sel0 : (sel 0 21).length = 11 := by decide
def itm : List Value := nd 4294893568 29 10 ⟨#[]⟩ ++ bk 1 21
theorem bk_one (p : Int) : ∀ u ∈ bk p 21, u.oneCell' = true := by
  intro u hu
  unfold bk at hu
  rw [List.mem_flatMap] at hu
  obtain ⟨j, -, h⟩ := hu
  exact nd_one _ _ _ _ u h
theorem own_alloc1 (w : World) (t v n : Int) (s : ByteArray) : (w.alloc (.cells #[.int .u32 t, .int .i64 v, .int .i64 n, .string s] 41)).ownsRow w.heap.size 41 4 (.slice (some ⟨w.heap.size, 0, none⟩) 1 1) 1 (nd t v n s) :=
  ⟨rfl, .inr ⟨w.heap.size, 1, _, rfl, Nat.le_refl _, heap_new _ _, Nat.le_refl _, by decide, rfl, rfl⟩⟩

set_option maxRecDepth 100000 in
set_option maxHeartbeats 1000000 in
theorem named_any (w : World) (ao : Option Addr) (c : Nat) : Calls Try.prog 17 #[.slice ao 0 c] w fun e w' => ∃ g cap, e = .returned (.slice (some ⟨g, 0, none⟩) 11 cap) ∧ w'.ownsRow w.heap.size 41 4 (.slice (some ⟨g, 0, none⟩) 11 cap) 11 itm ∧ Below w.heap.size w w' := by
  have HA : Hid _ := blank_any w 1
  go_enter Try.func17, Try.ntmps17
  go_wp2_with (first | (go_at_call 9; refine Calls.mono HA.out ?_; rintro e W ⟨v, rfl, ho, hb⟩; rw [sel1] at ho; obtain ⟨gb, cb, hv⟩ := owns_succ ho; subst hv; have HO : Hid _ := ho; have HB : Hid _ := hb; clear ho hb) | (at_builtin; refine Stop.mk ?_))
  refine Stop.out ?_
  have hsz := HB.out.size
  refine app24 rfl (.tmp 19) (.tmp 20) rfl w.heap.size _ 1 (nd 4294893568 29 10 ⟨#[]⟩) rfl (own_base (own_alloc1 W _ _ _ _) hsz) ⟨gb, 0, none⟩ 10 cb (bk 1 21) rfl HO.out.1 (World.ownsRow.cells (World.ownsRow.alloc HO.out _) rfl) (bk_one 1) (by decide) (by decide) (by rw [size_alloc]; omega) ?_
  intro g cap W9 ho hg _ _
  have HO9 : Hid (W9.ownsRow w.heap.size 41 4 (.slice (some ⟨g, 0, none⟩) 11 cap) 11 itm) := ho
  have HB9 : Hid (Below w.heap.size w W9) := (HB.out.trans (((Below.refl _ _).alloc (Nat.le_refl _) _).mono HB.out.size)).grown hg (by rw [size_alloc]; omega) (fun k hk => by cases hk; exact hsz)
  clear ho hg
  go_wp2
  go_ret
  exact ⟨g, cap, rfl, HO9.out, HB9.out⟩
end Go.Proofs.Ytidcjobokfgeoaa
