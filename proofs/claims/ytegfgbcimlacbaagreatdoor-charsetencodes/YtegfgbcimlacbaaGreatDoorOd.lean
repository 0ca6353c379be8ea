
import Derived.Test.YtegfgbcimlacbaaGreatDoorOc
/-
  DERIVED. Which byte stands for a rune: asked for the first time, and again.
-/
namespace Go.Proofs.YtegfgbcimlacbaaGreatDoor
open Go Go.Proofs Go.RowKit Go.Maps

/-- A way back that was asked. -/
structure Filled (w : World) (B k : Nat) : Prop where
  b0 : w.cell? ⟨B, 0, none⟩ = some (.func (.func (mfN k)) #[] #[])
  o : OnceAt w (B + 1) 1 0
  m : ∃ M, w.cell? ⟨B + 1, 3, none⟩ = some (.map (some M)) ∧ w.ownsMap Tryz.prog 21 (plainElem (H := Unit) Tryz.prog 5) M 96 (Mp k 96)
  b2 : w.cell? ⟨B + 1 + 1, 0, none⟩ = some (.pointer (some ⟨B + 1, 0, none⟩))
  b3 : w.cell? ⟨B + 1 + 1 + 1, 0, none⟩ = some (.func (.func 73) #[] #[.pointer (some ⟨B + 1 + 1, 0, none⟩), .pointer (some ⟨B, 0, none⟩)])

set_option maxRecDepth 100000 in
set_option maxHeartbeats 1000000 in
theorem byte_filled (w : World) (B k : Nat) (r : Int) (hr0 : -2147483648 ≤ r) (hr1 : r < 2147483648) (h : Filled w B k) :
    Calls Tryz.prog 75 #[.int .i32 r, .pointer (some ⟨B + 1 + 1, 0, none⟩), .pointer (some ⟨B + 1 + 1 + 1, 0, none⟩)] w fun e w' => e = .returned (.int .u8 (byteOf k r : Nat)) ∧ w.drew = w' := by
  obtain ⟨_, ho, ⟨M, hm, hown⟩, b2, b3⟩ := h
  have hkey : keyOf Tryz.prog 21 (.int .i32 r) = some (.int .i32 r) := keyOf_int_mk Tryz.underlying21 (wf_i32 _ hr0 hr1)
  have cD := do_done (B + 1) (.func (.func 73) #[] #[.pointer (some ⟨B + 1 + 1, 0, none⟩), .pointer (some ⟨B, 0, none⟩)]) w.drew ho.c0
  have HO : Hid (w.ownsMap Tryz.prog 21 (plainElem (H := Unit) Tryz.prog 5) M 96 (Mp k 96)) := hown
  have HAT : Hid ((Mp k 96).atKey (.int .i32 r) (.lit (.int .u8 0)) = .lit (.int .u8 (byteOf k r : Nat))) := Mp_at k r 96
  obtain ⟨C, hC⟩ : ∃ C, B + 1 = C := ⟨_, rfl⟩
  rw [hC] at b2 b3 hm cD ⊢
  clear ho hown
  go_enter Tryz.func75, Tryz.ntmps75
  go_wp2
  go_region_with (first | (go_at_call 76; refine cD.mono ?_; rintro e w' ⟨rfl, rfl⟩))
  all_goals go_wp2_with (first | (at_lookup; refine wpList_lookup_own_int _ rfl _ _ 133 rfl 21 5 .u8 law21 Tryz.underlying133 Tryz.underlying5 (zero5 _) M 96 _ rfl HO.out _ _ rfl hkey ?_; intro c hat hwc) | go_in)
  all_goals go_ret
  all_goals (
    have hcb := HAT.out.symm.trans hat
    simp only [DataW.lit.injEq, Lit.int.injEq, true_and] at hcb
    exact ⟨by rw [hcb]; rfl, rfl⟩)

set_option maxRecDepth 100000 in
/-- The closure that fills. -/
theorem filler_any (w : World) (B k : Nat) (hk : k < 7) (x3 : Value) (b0 : w.cell? ⟨B, 0, none⟩ = some (.func (.func (mfN k)) #[] #[])) (b2 : w.cell? ⟨B + 1 + 1, 0, none⟩ = some (.pointer (some ⟨B + 1, 0, none⟩)))
    (hc : w.cell? ⟨B + 1, 3, none⟩ = some x3) (hf : ∀ i, w.frozen? ⟨B + 1, i, none⟩ = false) (hT : Tabs w) (hB5 : 5 < B + 1) :
    Calls Tryz.prog 73 #[.pointer (some ⟨B + 1 + 1, 0, none⟩), .pointer (some ⟨B, 0, none⟩)] w fun e w' => e = .returned (.tuple #[]) ∧ Below w.heap.size ((w.alloc (.map #[] 0)).setCell ⟨B + 1, 3, none⟩ (.map (some w.heap.size))) w' ∧ w'.ownsMap Tryz.prog 21 (plainElem (H := Unit) Tryz.prog 5) w.heap.size 96 (Mp k 96) := by
  have c80 := fill_any w (B + 1) k hk x3 hc hf hT hB5
  generalize mfN k = j at b0 c80
  clear hc hf hT hB5
  go_enter Tryz.func73, Tryz.ntmps73
  go_wp2_with (go_at_call 74; refine c80.mono ?_; rintro e W1 ⟨rfl, hb, hm⟩)
  go_end0
  exact ⟨rfl, hb, hm⟩

theorem Fresh.cells {w : World} {B j : Nat} (h : Fresh w B j) : w.cell? ⟨B, 0, none⟩ = some (.func (.func j) #[] #[]) ∧ OnceAt w (B + 1) 0 0 ∧ w.cell? ⟨B + 1, 3, none⟩ = some (.map none) ∧ w.cell? ⟨B + 1 + 1, 0, none⟩ = some (.pointer (some ⟨B + 1, 0, none⟩)) ∧ w.cell? ⟨B + 1 + 1 + 1, 0, none⟩ = some (.func (.func 73) #[] #[.pointer (some ⟨B + 1 + 1, 0, none⟩), .pointer (some ⟨B, 0, none⟩)]) :=
  ⟨cell_of_row w B 0 _ _ _ h.b0, ⟨cell_of_row w (B + 1) 0 _ _ _ h.b1, cell_of_row w (B + 1) 1 _ _ _ h.b1, fun i => frozen_of_row w (B + 1) i _ _ h.b1⟩, cell_of_row w (B + 1) 3 _ _ _ h.b1, cell_of_row w (B + 1 + 1) 0 _ _ _ h.b2, cell_of_row w (B + 1 + 1 + 1) 0 _ _ _ h.b3⟩

/-- What the first question leaves behind. -/
structure Asked (w w' : World) (B k : Nat) : Prop where
  full : Filled w' B k
  grow : w.grownBy w' (some (B + 1))

set_option maxRecDepth 100000 in
theorem once_first (w : World) (B k : Nat) (hk : k < 7) (h : Fresh w B (mfN k)) (hT : Tabs w) (hB5 : 5 < B) :
    Calls Tryz.prog 76 #[.pointer (some ⟨B + 1, 0, none⟩), .func (.func 73) #[] #[.pointer (some ⟨B + 1 + 1, 0, none⟩), .pointer (some ⟨B, 0, none⟩)]] w fun e w' => e = .returned (.tuple #[]) ∧ Asked w w' B k := by
  obtain ⟨b0, ho, hc3, b2, b3⟩ := h.cells
  have hl := h.lt
  obtain ⟨W1, hW1⟩ : ∃ W1, w.setCell ⟨B + 1, 1, none⟩ (.int .i32 1) = W1 := ⟨_, rfl⟩
  have s1 : W1.heap.size = w.heap.size := by rw [← hW1]; simp
  have hT1 : Tabs W1 := ⟨fun i hi => by rw [← hW1]; exact (cell_set_off (by omega)).trans (hT.p1 i hi), fun i hi => by rw [← hW1]; exact (cell_set_off (by omega)).trans (hT.p2 i hi)⟩
  have d0 : W1.cell? ⟨B, 0, none⟩ = some (.func (.func (mfN k)) #[] #[]) := by rw [← hW1]; exact (cell_set_off (by omega)).trans b0
  have d2 : W1.cell? ⟨B + 1 + 1, 0, none⟩ = some (.pointer (some ⟨B + 1, 0, none⟩)) := by rw [← hW1]; exact (cell_set_off (by omega)).trans b2
  have d3 : W1.cell? ⟨B + 1 + 1 + 1, 0, none⟩ = some (.func (.func 73) #[] #[.pointer (some ⟨B + 1 + 1, 0, none⟩), .pointer (some ⟨B, 0, none⟩)]) := by rw [← hW1]; exact (cell_set_off (by omega)).trans b3
  have e0 : W1.cell? ⟨B + 1, 0, none⟩ = some (.int .u32 0) := by rw [← hW1]; exact (cell_set_ne (by decide)).trans ho.c0
  have e1 : W1.cell? ⟨B + 1, 1, none⟩ = some (.int .i32 1) := by rw [← hW1]; exact cell_set_eq ho.c1
  have e3 : W1.cell? ⟨B + 1, 3, none⟩ = some (.map none) := by rw [← hW1]; exact (cell_set_ne (by decide)).trans hc3
  have ef : ∀ i, W1.frozen? ⟨B + 1, i, none⟩ = false := fun i => by rw [← hW1, World.frozen?_setCell]; exact ho.cf i
  have cF := filler_any W1 B k hk (.map none) d0 d2 e3 ef hT1 (by omega)
  -- what the filling leaves
  have hF : Calls Tryz.prog 73 #[.pointer (some ⟨B + 1 + 1, 0, none⟩), .pointer (some ⟨B, 0, none⟩)] (w.setCell ⟨B + 1, 1, none⟩ (.int .i32 1)) fun e w' => e = .returned (.tuple #[]) ∧ OnceAt w' (B + 1) 0 1 ∧
      (w'.cell? ⟨B, 0, none⟩ = some (.func (.func (mfN k)) #[] #[]) ∧ w'.cell? ⟨B + 1 + 1, 0, none⟩ = some (.pointer (some ⟨B + 1, 0, none⟩)) ∧ w'.cell? ⟨B + 1 + 1 + 1, 0, none⟩ = some (.func (.func 73) #[] #[.pointer (some ⟨B + 1 + 1, 0, none⟩), .pointer (some ⟨B, 0, none⟩)]) ∧
        (∃ M, B + 1 < M ∧ w'.cell? ⟨B + 1, 3, none⟩ = some (.map (some M)) ∧ w'.ownsMap Tryz.prog 21 (plainElem (H := Unit) Tryz.prog 5) M 96 (Mp k 96)) ∧ w.grownBy w' (some (B + 1))) := by
    rw [hW1]
    refine cF.mono ?_
    rintro e w' ⟨rfl, hb, hm⟩
    have hba : Below W1.heap.size W1 (W1.alloc (.map #[] 0)) := (Below.refl _ _).alloc (Nat.le_refl _) _
    have hlt : B + 1 + 1 + 1 < W1.heap.size := by omega
    have q0 : ∀ (b i : Nat) (v : Value), b ≠ B + 1 → b < W1.heap.size → W1.cell? ⟨b, i, none⟩ = some v → w'.cell? ⟨b, i, none⟩ = some v := fun b i v hne hlt hv =>
      (hb.cell (p := ⟨b, i, none⟩) hlt).trans ((cell_set_off (Ne.symm hne)).trans ((hba.cell (p := ⟨b, i, none⟩) hlt).trans hv))
    have q1 : ∀ (i : Nat) (v : Value), i ≠ 3 → W1.cell? ⟨B + 1, i, none⟩ = some v → w'.cell? ⟨B + 1, i, none⟩ = some v := fun i v hne hv =>
      (hb.cell (p := ⟨B + 1, i, none⟩) (show B + 1 < W1.heap.size by omega)).trans ((cell_set_ne (Ne.symm hne)).trans ((hba.cell (p := ⟨B + 1, i, none⟩) (show B + 1 < W1.heap.size by omega)).trans hv))
    have q3 : w'.cell? ⟨B + 1, 3, none⟩ = some (.map (some W1.heap.size)) :=
      (hb.cell (p := ⟨B + 1, 3, none⟩) (show B + 1 < W1.heap.size by omega)).trans (cell_set_eq ((hba.cell (p := ⟨B + 1, 3, none⟩) (show B + 1 < W1.heap.size by omega)).trans e3))
    have qf : ∀ i, w'.frozen? ⟨B + 1, i, none⟩ = false := fun i =>
      (hb.frozen (p := ⟨B + 1, i, none⟩) (show B + 1 < W1.heap.size by omega)).trans ((World.frozen?_setCell _ _ _ _).trans ((hba.frozen (p := ⟨B + 1, i, none⟩) (show B + 1 < W1.heap.size by omega)).trans (ef i)))
    refine ⟨rfl, ⟨q1 0 _ (by decide) e0, q1 1 _ (by decide) e1, qf⟩, q0 B 0 _ (by omega) (by omega) d0, q0 _ 0 _ (by omega) (by omega) d2, q0 _ 0 _ (by omega) (by omega) d3, ⟨W1.heap.size, by omega, q3, hm⟩, ?_⟩
    refine ⟨hb.os.trans (by rw [← hW1]; rfl), hb.tape.trans (by rw [← hW1]; rfl), hb.output.trans (by rw [← hW1]; rfl), ?_, fun j hj hne => ?_⟩
    · have := hb.size
      simp at this
      omega
    · have hne' : B + 1 ≠ j := fun e => hne (by rw [e])
      rw [hb.block j (by omega), heap_set_off (by simpa using hne'), hba.block j (by omega), ← hW1, heap_set_off (by simpa using hne')]
  refine (do_first (B + 1) _ _ w _ ho hF).mono ?_
  rintro e w' ⟨rfl, W, ⟨g0, g2, g3, ⟨M, hMB, g4, gm⟩, gg⟩, hO, rfl⟩
  refine ⟨rfl, ⟨?_, ⟨?_, ?_, ?_⟩, ⟨M, ?_, ?_⟩, ?_, ?_⟩, ?_⟩
  · exact (cell_set_off (by omega)).trans ((cell_set_off (by omega)).trans g0)
  · exact (cell_set_ne (by decide)).trans (cell_set_eq hO.c0)
  · exact cell_set_eq ((cell_set_ne (by decide)).trans hO.c1)
  · intro i; rw [World.frozen?_setCell, World.frozen?_setCell]; exact hO.cf i
  · exact (cell_set_ne (by decide)).trans ((cell_set_ne (by decide)).trans g4)
  · obtain ⟨es, cl, hh, r⟩ := gm
    exact ⟨es, cl, (heap_set_off (by simp; omega)).trans ((heap_set_off (by simp; omega)).trans hh), r⟩
  · exact (cell_set_off (by omega)).trans ((cell_set_off (by omega)).trans g2)
  · exact (cell_set_off (by omega)).trans ((cell_set_off (by omega)).trans g3)
  · refine ⟨gg.os, gg.tape, gg.output, ?_, fun j hj hne => ?_⟩
    · have := gg.size
      simp
      exact this
    · have hne' : B + 1 ≠ j := fun e => hne (by rw [e])
      rw [heap_set_off (by simpa using hne'), heap_set_off (by simpa using hne')]
      exact gg.block j hj hne

theorem Fresh.drewn {w : World} {B j : Nat} (h : Fresh w B j) : Fresh w.drew B j := ⟨h.b0, h.b1, h.b2, h.b3⟩
theorem Tabs.drewn {w : World} (h : Tabs w) : Tabs w.drew := ⟨fun i hi => h.p1 i hi, fun i hi => h.p2 i hi⟩
theorem Asked.undrew {w w' : World} {B k : Nat} (h : Asked w.drew w' B k) : Asked w w' B k := ⟨h.full, ⟨h.grow.os, h.grow.tape, h.grow.output, h.grow.size, h.grow.block⟩⟩

set_option maxRecDepth 100000 in
set_option maxHeartbeats 1000000 in
theorem byte_fresh (w : World) (B k : Nat) (hk : k < 7) (r : Int) (hr0 : -2147483648 ≤ r) (hr1 : r < 2147483648) (h : Fresh w B (mfN k)) (hT : Tabs w) (hB5 : 5 < B) :
    Calls Tryz.prog 75 #[.int .i32 r, .pointer (some ⟨B + 1 + 1, 0, none⟩), .pointer (some ⟨B + 1 + 1 + 1, 0, none⟩)] w fun e w' => e = .returned (.int .u8 (byteOf k r : Nat)) ∧ Asked w w' B k := by
  obtain ⟨_, _, _, b2, b3⟩ := h.cells
  have hkey : keyOf Tryz.prog 21 (.int .i32 r) = some (.int .i32 r) := keyOf_int_mk Tryz.underlying21 (wf_i32 _ hr0 hr1)
  have cD := once_first w.drew B k hk h.drewn hT.drewn hB5
  have HAT : Hid ((Mp k 96).atKey (.int .i32 r) (.lit (.int .u8 0)) = .lit (.int .u8 (byteOf k r : Nat))) := Mp_at k r 96
  obtain ⟨C, hC⟩ : ∃ C, B + 1 = C := ⟨_, rfl⟩
  rw [hC] at b2 b3 cD ⊢
  have HC : Hid (B + 1 = C) := hC
  clear h hT hB5 hC
  go_enter Tryz.func75, Tryz.ntmps75
  go_wp2
  go_region_with (first | (go_at_call 76; refine cD.mono ?_; rintro e W ⟨rfl, hA⟩; have hfull := hA.full; obtain ⟨-, -, hmm, f2, f3⟩ := hfull; obtain ⟨M, hm, hown⟩ := hmm; have HO : Hid (W.ownsMap Tryz.prog 21 (plainElem (H := Unit) Tryz.prog 5) M 96 (Mp k 96)) := hown; rw [HC.out] at hm f2 f3; have HA : Hid (Asked w W B k) := hA.undrew; clear hA hown))
  all_goals go_wp2_with (first | (at_lookup; refine wpList_lookup_own_int _ rfl _ _ 133 rfl 21 5 .u8 law21 Tryz.underlying133 Tryz.underlying5 (zero5 _) M 96 _ rfl HO.out _ _ rfl hkey ?_; intro c hat hwc) | go_in)
  all_goals go_ret
  all_goals (
    have hcb := HAT.out.symm.trans hat
    simp only [DataW.lit.injEq, Lit.int.injEq, true_and] at hcb
    exact ⟨by rw [hcb]; rfl, HA.out⟩)
end Go.Proofs.YtegfgbcimlacbaaGreatDoor
