import Derived.Test.YteglammdigmmfaaGreatDoorTB
/-
  DERIVED. A VR's letters, read, as the document has them.
-/
namespace Go.Proofs.YteglammdigmmfaaGreatDoor.Tb
open Go Go.Proofs Go.RowKit

theorem cell_lt {w : World} {a : Addr} {v : Value} (h : w.cell? a = some v) : a.block < w.heap.size := World.block_lt_of_cell? w a h
theorem cell_set_ne {W : World} {b i j : Nat} {v : Value} (h : i ≠ j) : (W.setCell ⟨b, i, none⟩ v).cell? ⟨b, j, none⟩ = W.cell? ⟨b, j, none⟩ := by
  apply World.cell?_setCell_other; simp
theorem cell_set_eq {W : World} {b i : Nat} {v u : Value} (h : W.cell? ⟨b, i, none⟩ = some u) : (W.setCell ⟨b, i, none⟩ v).cell? ⟨b, i, none⟩ = some v := by
  apply World.cell?_setCell_same; exact h

/-- The two letters of a VR. -/
def vrw (v : Int) : ByteArray := if 1 ≤ v ∧ v ≤ 28 then (lineB v).extract 0 2 else ⟨#[]⟩

theorem line_two : ∀ k : Fin 29, k.val = 0 ∨ 2 ≤ (lineB (k.val : Int)).size := by decide +kernel

set_option maxRecDepth 100000 in
theorem vrw_any (w : World) (v : Int) : Calls Tryz.prog 103 #[.int .i64 v] w fun e w' => e = .returned (.string (vrw v)) ∧ w = w' := by
  have c33 := fun W => rep_any W v
  by_cases hv : 1 ≤ v ∧ v ≤ 28
  · have h2 := (line_two ⟨v.toNat, by omega⟩).resolve_left (by simp only; omega)
    simp only at h2
    rw [show ((v.toNat : Nat) : Int) = v by omega] at h2
    have hr : vrw v = (lineB v).extract 0 2 := by unfold vrw; rw [if_pos hv]
    rw [hr]
    generalize lineB v = S at h2 c33
    have hne : (S.toList == []) = false := by
      rw [ByteArray.toList_eq]
      cases hd : S.data.toList with
      | nil =>
        have : S.size = 0 := by
          show S.data.size = 0
          rw [← Array.length_toList, hd]
          rfl
        omega
      | cons a l => rfl
    have h2i : (2 : Int) ≤ (S.size : Int) := by omega
    clear hr h2
    go_enter Tryz.func103, Tryz.ntmps103
    go_wp2_with (first | (go_at_call 35; refine (c33 _).mono ?_; rintro e w' ⟨rfl, rfl⟩) | fail)
    go_ret
    exact ⟨rfl, rfl⟩
  · have hL : lineB v = ⟨#[]⟩ := by unfold lineB; rw [if_neg hv]
    have hr : vrw v = ⟨#[]⟩ := by unfold vrw; rw [if_neg hv]
    rw [hr]
    rw [hL] at c33
    clear hr hL
    go_enter Tryz.func103, Tryz.ntmps103
    go_wp2_with (first | (go_at_call 35; refine (c33 _).mono ?_; rintro e w' ⟨rfl, rfl⟩) | fail)
    go_ret
    exact ⟨rfl, rfl⟩

/-- The first VR from k on whose letters these are; 0, if there is none. -/
def fndW (s : ByteArray) : Nat → Nat → Nat
  | 0, _ => 0
  | n + 1, k => if (vrw (k : Int)).toList == s.toList then k else fndW s n (k + 1)

theorem none_any (w : World) : Calls Tryz.prog 19 #[] w fun e w' => e = .returned (.agg #[.slice none 0 0, .int .i64 0]) ∧ Below w.heap.size w w' := by
  go_enter Tryz.func19, Tryz.ntmps19
  go_wp2
  exact bodyPost_ret (v := .agg #[.slice none 0 0, .int .i64 0]) (by simp [results, Tryz.results19, go_sem]) rfl ⟨rfl, (Below.refl _ _).alloc (Nat.le_refl _) _⟩

theorem new_any (L : ByteArray) (c at' : Int) (w : World) : Calls Tryz.prog 18 #[.string L, .int .i64 at', .int .i64 c] w fun e w' => e = .returned (.agg #[.slice (some ⟨w.heap.size + 1, 0, none⟩) 1 1, .int .i64 c]) ∧ Below w.heap.size w w' := by
  go_enter Tryz.func18, Tryz.ntmps18
  go_wp2
  exact bodyPost_ret (v := .agg #[.slice (some ⟨w.heap.size + 1, 0, none⟩) 1 1, .int .i64 c]) (by simp [results, Tryz.results18, go_sem]) rfl ⟨rfl, ((Below.refl _ _).alloc (Nat.le_refl _) _).alloc (by simp) _⟩

/-- A fault, still empty, as it lies in memory. -/
structure Fc (W : World) (g : Nat) : Prop where
  c0 : W.cell? ⟨g, 0, none⟩ = some (.slice none 0 0)
  c1 : W.cell? ⟨g, 1, none⟩ = some (.int .i64 0)
  cf : ∀ i, W.frozen? ⟨g, i, none⟩ = false

theorem Fc.next {W W' : World} {g : Nat} (h : Fc W g) (hb : Below W.heap.size W W') : Fc W' g :=
  ⟨(hb.cell (cell_lt h.c0)).trans h.c0, (hb.cell (cell_lt h.c1)).trans h.c1, fun i => (hb.frozen (p := ⟨g, i, none⟩) (show g < _ from cell_lt h.c0)).trans (h.cf i)⟩

theorem Fc.sets {W : World} {g : Nat} (h : Fc W g) (x0 x1 : Value) : ((W.setCell ⟨g, 0, none⟩ x0).setCell ⟨g, 1, none⟩ x1).cell? ⟨g, 0, none⟩ = some x0 ∧ ((W.setCell ⟨g, 0, none⟩ x0).setCell ⟨g, 1, none⟩ x1).cell? ⟨g, 1, none⟩ = some x1 :=
  ⟨(cell_set_ne (by decide)).trans (cell_set_eq h.c0), cell_set_eq ((cell_set_ne (by decide)).trans h.c1)⟩

set_option maxRecDepth 100000 in
set_option maxHeartbeats 1000000 in
theorem vrof_any (w : World) (s : ByteArray) : Calls Tryz.prog 68 #[.string s] w fun e w' => ∃ fa fn fc fe, e = .returned (.tuple #[.int .i64 ((fndW s 28 1 : Nat) : Int), .agg #[.slice fa fn fc, .int .i64 fe]]) ∧ Below w.heap.size w w' := by
  obtain ⟨R, hR⟩ : ∃ R, fndW s 28 1 = R := ⟨_, rfl⟩
  rw [hR]
  have HR : Hid (fndW s 28 1 = R) := hR
  clear hR
  obtain ⟨W1, hW1⟩ : ∃ W1, w.alloc (.cells #[.slice none 0 0, .int .i64 0] 31) = W1 := ⟨_, rfl⟩
  have HB1 : Hid (Below w.heap.size w W1) := hW1 ▸ (Below.refl _ _).alloc (Nat.le_refl _) _
  have HF1 : Hid (Fc W1 w.heap.size) := by
    rw [← hW1]
    exact ⟨by simp, by simp, fun i => by simp⟩
  go_enter Tryz.func68, Tryz.ntmps68
  go_wp2
  clear hW1
  go_loopw [4] (fun x wr => ∃ k : Nat, x = .int .i64 (k : Int) ∧ 1 ≤ k ∧ k ≤ 29 ∧ Hid (fndW s (29 - k) k = R) ∧ Hid (Fc wr w.heap.size) ∧ Hid (Below w.heap.size w wr)) (fun x _ => 100 - (intOf x).toNat)
  case atStart => exact ⟨1, rfl, by omega, by omega, HR, HF1, HB1⟩
  case round =>
    obtain ⟨k, rfl, hk1, hk, HK, HFr, HBr⟩ := hrel
    by_cases hk29 : k < 29
    · have c10 := vrw_any wr (k : Int)
      obtain ⟨h, hh⟩ : ∃ h, ((vrw (k : Int)).toList == s.toList) = h := ⟨_, rfl⟩
      have HN1 : Hid (h = true → R = k) := by
        intro h1
        have := HK.out
        rw [show 29 - k = (28 - k) + 1 by omega, fndW, if_pos (by rw [hh]; exact h1)] at this
        exact this.symm
      have HN2 : Hid (h = false → fndW s (29 - (k + 1)) (k + 1) = R) := by
        intro h1
        have := HK.out
        rw [show 29 - k = (28 - k) + 1 by omega, fndW, if_neg (by rw [hh, h1]; decide)] at this
        rw [show 29 - (k + 1) = 28 - k by omega]
        exact this
      generalize vrw (k : Int) = n at c10 hh
      obtain ⟨f0, f1, ff⟩ := HFr.out
      cases h with
      | true =>
        have HRk : Hid (R = k) := HN1.out rfl
        go_wp2_with (first | (go_at_call 103; refine c10.mono ?_; rintro e w' ⟨rfl, rfl⟩) | (go_at_call 19; refine (none_any _).mono ?_; rintro e W2 ⟨rfl, hb2⟩; obtain ⟨g0, g1, gf⟩ := HFr.out.next hb2))
        obtain ⟨u0, u1⟩ := Fc.sets ⟨g0, g1, gf⟩ (.slice none 0 0) (.int .i64 0)
        exact bodyPost_ret (v := .tuple #[.int .i64 (R : Int), .agg #[.slice none 0 0, .int .i64 0]]) (by simp only [results, Tryz.results68]; simp [go_sem, HRk.out, u0, u1]) rfl ⟨_, _, _, _, rfl, ((HBr.out.trans (hb2.mono HBr.out.size)).setCell (p := ⟨w.heap.size, 0, none⟩) (Nat.le_refl _) _).setCell (p := ⟨w.heap.size, 1, none⟩) (Nat.le_refl _) _⟩
      | false =>
        have HRk : Hid (fndW s (29 - (k + 1)) (k + 1) = R) := HN2.out rfl
        go_wp2_with (first | (go_at_call 103; refine c10.mono ?_; rintro e w' ⟨rfl, rfl⟩) | fail)
        exact ⟨⟨k + 1, by simp, by omega, by omega, HRk.out, HFr, HBr⟩, by simp [intOf]; omega⟩
    · obtain rfl : k = 29 := by omega
      have HR0 : Hid (R = 0) := HK.out.symm
      obtain ⟨f0, f1, ff⟩ := HFr.out
      go_wp2_with (first | (go_at_call 18; refine (new_any _ _ _ _).mono ?_; rintro e W2 ⟨rfl, hb2⟩; obtain ⟨g0, g1, gf⟩ := HFr.out.next hb2) | fail)
      obtain ⟨u0, u1⟩ := Fc.sets ⟨g0, g1, gf⟩ (.slice (some ⟨wr.heap.size + 1, 0, none⟩) 1 1) (.int .i64 62)
      exact bodyPost_ret (v := .tuple #[.int .i64 (R : Int), .agg #[.slice (some ⟨wr.heap.size + 1, 0, none⟩) 1 1, .int .i64 62]]) (by simp only [results, Tryz.results68]; simp [go_sem, HR0.out, u0, u1]) rfl ⟨_, _, _, _, rfl, ((HBr.out.trans (hb2.mono HBr.out.size)).setCell (p := ⟨w.heap.size, 0, none⟩) (Nat.le_refl _) _).setCell (p := ⟨w.heap.size, 1, none⟩) (Nat.le_refl _) _⟩
end Go.Proofs.YteglammdigmmfaaGreatDoor.Tb
