
import Derived.Test.YtmocofmlehmneaaGreatDoorTD
/-
  DERIVED. A line of the document's dictionary, as an entry.
-/
namespace Go.Proofs.YtmocofmlehmneaaGreatDoor.Tb
open Go Go.Proofs Go.RowKit

/-- A line's word. -/
def wd (S : ByteArray) (j : Nat) : ByteArray := S.extract (wordL (bts S) (S.size + 2) j 0 0).1 (wordL (bts S) (S.size + 2) j 0 0).2

/-- An entry, still empty, as it lies in memory. -/
structure E6 (W : World) (g : Nat) : Prop where
  c0 : W.cell? ⟨g, 0, none⟩ = some (.int .u32 0)
  c1 : W.cell? ⟨g, 1, none⟩ = some (.int .u32 0)
  c2 : W.cell? ⟨g, 2, none⟩ = some (.int .i64 0)
  c3 : W.cell? ⟨g, 3, none⟩ = some (.string ⟨#[]⟩)
  c4 : W.cell? ⟨g, 4, none⟩ = some (.int .i64 0)
  c5 : W.cell? ⟨g, 5, none⟩ = some (.int .i64 0)
  cf : ∀ i, W.frozen? ⟨g, i, none⟩ = false

theorem E6.next {W W' : World} {g : Nat} (h : E6 W g) (hb : Below W.heap.size W W') : E6 W' g :=
  ⟨(hb.cell (cell_lt h.c0)).trans h.c0, (hb.cell (cell_lt h.c1)).trans h.c1, (hb.cell (cell_lt h.c2)).trans h.c2, (hb.cell (cell_lt h.c3)).trans h.c3, (hb.cell (cell_lt h.c4)).trans h.c4, (hb.cell (cell_lt h.c5)).trans h.c5, fun i => (hb.frozen (p := ⟨g, i, none⟩) (show g < _ from cell_lt h.c0)).trans (h.cf i)⟩

theorem E6.sets {W : World} {g : Nat} (h : E6 W g) (x0 x1 x2 x3 x4 x5 : Value) :
    let U := (((((W.setCell ⟨g, 0, none⟩ x0).setCell ⟨g, 1, none⟩ x1).setCell ⟨g, 2, none⟩ x2).setCell ⟨g, 3, none⟩ x3).setCell ⟨g, 4, none⟩ x4).setCell ⟨g, 5, none⟩ x5
    U.cell? ⟨g, 0, none⟩ = some x0 ∧ U.cell? ⟨g, 1, none⟩ = some x1 ∧ U.cell? ⟨g, 2, none⟩ = some x2 ∧ U.cell? ⟨g, 3, none⟩ = some x3 ∧ U.cell? ⟨g, 4, none⟩ = some x4 ∧ U.cell? ⟨g, 5, none⟩ = some x5 := by
  refine ⟨?_, ?_, ?_, ?_, ?_, ?_⟩
  · exact (cell_set_ne (by decide)).trans ((cell_set_ne (by decide)).trans ((cell_set_ne (by decide)).trans ((cell_set_ne (by decide)).trans ((cell_set_ne (by decide)).trans (cell_set_eq h.c0)))))
  · exact (cell_set_ne (by decide)).trans ((cell_set_ne (by decide)).trans ((cell_set_ne (by decide)).trans ((cell_set_ne (by decide)).trans (cell_set_eq ((cell_set_ne (by decide)).trans h.c1)))))
  · exact (cell_set_ne (by decide)).trans ((cell_set_ne (by decide)).trans ((cell_set_ne (by decide)).trans (cell_set_eq ((cell_set_ne (by decide)).trans ((cell_set_ne (by decide)).trans h.c2)))))
  · exact (cell_set_ne (by decide)).trans ((cell_set_ne (by decide)).trans (cell_set_eq ((cell_set_ne (by decide)).trans ((cell_set_ne (by decide)).trans ((cell_set_ne (by decide)).trans h.c3)))))
  · exact (cell_set_ne (by decide)).trans (cell_set_eq ((cell_set_ne (by decide)).trans ((cell_set_ne (by decide)).trans ((cell_set_ne (by decide)).trans ((cell_set_ne (by decide)).trans h.c4)))))
  · exact cell_set_eq ((cell_set_ne (by decide)).trans ((cell_set_ne (by decide)).trans ((cell_set_ne (by decide)).trans ((cell_set_ne (by decide)).trans ((cell_set_ne (by decide)).trans h.c5)))))

/-- A line's entry, as a value. -/
def entV (S : ByteArray) : Value := .agg #[.int .u32 (tagL (bts S) 9 : Nat), .int .u32 (maskL (bts S) : Nat), .int .i64 (fndW (wd S 1) 28 1 : Nat), .string (wd S 3), .int .i64 ((numL (wd S 2)).1 : Nat), .int .i64 ((numL (wd S 2)).2 : Nat)]

set_option maxRecDepth 100000 in
set_option maxHeartbeats 1000000 in
theorem entry_any (w : World) (S : ByteArray) (hs : 9 ≤ S.size) (hl : S.size ≤ 1000) (h1 : tagOk (bts S) = true) (h2 : numOk (wd S 2) = true) : Calls Tryz.prog 43 #[.string S] w fun e w' => e = .returned (entV S) ∧ Below w.heap.size w w' := by
  have c27 := fun W => tag_any W S hs hl h1
  obtain ⟨WF, hWF⟩ : ∃ WF : Int → ByteArray, ∀ i, WF i = wd S i.toNat := ⟨fun i => wd S i.toNat, fun _ => rfl⟩
  have w1 : WF 1 = wd S 1 := hWF 1
  have w2 : WF 2 = wd S 2 := hWF 2
  have w3 : WF 3 = wd S 3 := hWF 3
  have cw : ∀ (i : Int) W, 0 ≤ i ∧ i ≤ 100 → Calls Tryz.prog 61 #[.string S, .int .i64 i] W fun e w' => e = .returned (.string (WF i)) ∧ W = w' := by
    intro i W hi
    have := word_any W S i.toNat (by omega) (by omega)
    rw [show ((i.toNat : Nat) : Int) = i by omega] at this
    rw [hWF]
    exact this
  have c28 := fun W => vrof_any W (wd S 1)
  have c30 := fun W => counts_any W (wd S 2) h2
  unfold entV
  rw [← w1, ← w2, ← w3]
  rw [← w1] at c28
  rw [← w2] at c30
  generalize tagL (bts S) 9 = T at c27 ⊢
  generalize maskL (bts S) = M at c27 ⊢
  generalize fndW (WF 1) 28 1 = V at c28 ⊢
  generalize (numL (WF 2)).1 = L1 at c30 ⊢
  generalize (numL (WF 2)).2 = L2 at c30 ⊢
  clear hWF w1 w2 w3 h1 h2
  obtain ⟨W1, hW1⟩ : ∃ W1, w.alloc (.cells #[.int .u32 0, .int .u32 0, .int .i64 0, .string ⟨#[]⟩, .int .i64 0, .int .i64 0] 54) = W1 := ⟨_, rfl⟩
  have HB1 : Hid (Below w.heap.size w W1) := hW1 ▸ (Below.refl _ _).alloc (Nat.le_refl _) _
  have HE1 : Hid (E6 W1 w.heap.size) := by
    rw [← hW1]
    exact ⟨by simp, by simp, by simp, by simp, by simp, by simp, fun i => by simp⟩
  go_enter Tryz.func43, Tryz.ntmps43
  go_wp2_with (first | (go_at_call 42; refine (c27 _).mono ?_; rintro e w' ⟨rfl, rfl⟩) | (go_at_call 61; refine (cw _ _ ?_).mono ?_; (focus omega); rintro e w' ⟨rfl, rfl⟩) | (go_at_call 60; fail))
  refine (c28 W1).mono ?_
  rintro e W2 ⟨fa, fn, fc, fe, rfl, hb2⟩
  have HB2 : Hid (Below w.heap.size w W2) := HB1.out.trans (hb2.mono HB1.out.size)
  have HE2 : Hid (E6 W2 w.heap.size) := HE1.out.next hb2
  clear hb2 c28 c27 HE1 HB1 hW1
  go_wp2_with (first | (go_at_call 61; refine (cw _ _ ?_).mono ?_; (focus omega); rintro e w' ⟨rfl, rfl⟩) | (go_at_call 62; fail))
  obtain ⟨W3, hW3⟩ : ∃ W3, W2.alloc (.cells #[.slice fa fn fc, .int .i64 fe] 30) = W3 := ⟨_, rfl⟩
  have hb3 : Below W2.heap.size W2 W3 := hW3 ▸ (Below.refl _ _).alloc (Nat.le_refl _) _
  rw [hW3]
  have HB3 : Hid (Below w.heap.size w W3) := HB2.out.trans (hb3.mono HB2.out.size)
  have HE3 : Hid (E6 W3 w.heap.size) := HE2.out.next hb3
  clear hb3 hW3 HE2 HB2
  refine (c30 W3).mono ?_
  rintro e W4 ⟨rfl, hb4⟩
  have HB4 : Hid (Below w.heap.size w W4) := HB3.out.trans (hb4.mono HB3.out.size)
  have HE4 : Hid (E6 W4 w.heap.size) := HE3.out.next hb4
  obtain ⟨e0, e1, e2, e3, e4, e5, ef⟩ := HE4.out
  clear hb4 c30 HE3 HB3
  go_wp2_with (first | (go_at_call 61; refine (cw _ _ ?_).mono ?_; (focus omega); rintro e w' ⟨rfl, rfl⟩) | fail)
  have hU := HE4.out.sets (.int .u32 (T : Int)) (.int .u32 (M : Int)) (.int .i64 (V : Int)) (.string (WF 3)) (.int .i64 (L1 : Int)) (.int .i64 (L2 : Int))
  simp only at hU
  obtain ⟨u0, u1, u2, u3, u4, u5⟩ := hU
  refine bodyPost_ret (v := .agg #[.int .u32 (T : Int), .int .u32 (M : Int), .int .i64 (V : Int), .string (WF 3), .int .i64 (L1 : Int), .int .i64 (L2 : Int)]) (by simp only [results, Tryz.results43]; simp [go_sem, u0, u1, u2, u3, u4, u5]) rfl ⟨rfl, ?_⟩
  exact (((((HB4.out.setCell (p := ⟨w.heap.size, 0, none⟩) (Nat.le_refl _) _).setCell (p := ⟨w.heap.size, 1, none⟩) (Nat.le_refl _) _).setCell (p := ⟨w.heap.size, 2, none⟩) (Nat.le_refl _) _).setCell (p := ⟨w.heap.size, 3, none⟩) (Nat.le_refl _) _).setCell (p := ⟨w.heap.size, 4, none⟩) (Nat.le_refl _) _).setCell (p := ⟨w.heap.size, 5, none⟩) (Nat.le_refl _) _
end Go.Proofs.YtmocofmlehmneaaGreatDoor.Tb
