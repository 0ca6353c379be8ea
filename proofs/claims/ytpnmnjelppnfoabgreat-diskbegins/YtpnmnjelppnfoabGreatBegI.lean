import Derived.Test.YtpnmnjelppnfoabGreatBegH
namespace Go.Proofs.YtpnmnjelppnfoabGreat
open Go.RowKit Go.Shelf
attribute [local go_sem] Oper.semAt_some

/-- Inside of 'lists': the boxes of its variables; T is the turn's. -/
structure Lst (w : World) (b k m m2 : Nat) (bl nm : Int) (ds : List Deferred) (T : Nat) (t : Int) (V : World) : Prop where
  bel : Below w.heap.size w V
  bk : Bk V b m m2 bl nm
  kk : Kk V k bl nm
  mks : Marks (w.heap.size + 5) ds V
  lt : w.heap.size + 4 < V.heap.size
  c0 : V.cell? ⟨w.heap.size, 0, none⟩ = some (.pointer (some ⟨b, 0, none⟩))
  c1 : V.cell? ⟨w.heap.size + 1, 0, none⟩ = some (.pointer (some ⟨k, 0, none⟩))
  c2 : V.cell? ⟨w.heap.size + 1 + 1, 0, none⟩ = some (.int .i64 0)
  c3 : V.cell? ⟨w.heap.size + 1 + 1 + 1, 0, none⟩ = some (.bool false)
  f3 : V.frozen? ⟨w.heap.size + 1 + 1 + 1, 0, none⟩ = false
  c4 : V.cell? ⟨w.heap.size + 1 + 1 + 1 + 1, 0, none⟩ = some (.pointer (some ⟨b, 0, none⟩))
  ct : V.cell? ⟨T, 0, none⟩ = some (.int .i64 t)
  ft : V.frozen? ⟨T, 0, none⟩ = false
  tl : T < V.heap.size

theorem Lst.next {w : World} {b k m m2 : Nat} {bl nm : Int} {ds : List Deferred} {T : Nat} {t : Int} {V V' : World} (h : Lst w b k m m2 bl nm ds T t V) (hb : Below V.heap.size V V') : Lst w b k m m2 bl nm ds T t V' where
  bel := h.bel.trans (hb.mono h.bel.size)
  bk := h.bk.next hb
  kk := h.kk.next hb
  mks := h.mks.below hb
  lt := Nat.lt_of_lt_of_le h.lt hb.size
  c0 := (hb.cell (p := ⟨w.heap.size, 0, none⟩) (show w.heap.size < V.heap.size by have := h.lt; omega)).trans h.c0
  c1 := (hb.cell (p := ⟨w.heap.size + 1, 0, none⟩) (show w.heap.size + 1 < V.heap.size by have := h.lt; omega)).trans h.c1
  c2 := (hb.cell (p := ⟨w.heap.size + 1 + 1, 0, none⟩) (show w.heap.size + 1 + 1 < V.heap.size by have := h.lt; omega)).trans h.c2
  c3 := (hb.cell (p := ⟨w.heap.size + 1 + 1 + 1, 0, none⟩) (show w.heap.size + 1 + 1 + 1 < V.heap.size by have := h.lt; omega)).trans h.c3
  f3 := (hb.frozen (p := ⟨w.heap.size + 1 + 1 + 1, 0, none⟩) (show w.heap.size + 1 + 1 + 1 < V.heap.size by have := h.lt; omega)).trans h.f3
  c4 := (hb.cell (p := ⟨w.heap.size + 1 + 1 + 1 + 1, 0, none⟩) (show w.heap.size + 1 + 1 + 1 + 1 < V.heap.size by have := h.lt; omega)).trans h.c4
  ct := (hb.cell (p := ⟨T, 0, none⟩) h.tl).trans h.ct
  ft := (hb.frozen (p := ⟨T, 0, none⟩) h.tl).trans h.ft
  tl := Nat.lt_of_lt_of_le h.tl hb.size

/-- The next round's turn has a box of its own. -/
theorem Lst.turn {w : World} {b k m m2 : Nat} {bl nm : Int} {ds : List Deferred} {T : Nat} {t : Int} {V : World} (h : Lst w b k m m2 bl nm ds T t V) (t' : Int) : Lst w b k m m2 bl nm ds V.heap.size t' (V.alloc (.cells #[.int .i64 t'] 3)) :=
  let g := h.next ((Below.refl _ V).alloc (Nat.le_refl _) (.cells #[.int .i64 t'] 3))
  { bel := g.bel, bk := g.bk, kk := g.kk, mks := g.mks, lt := g.lt, c0 := g.c0, c1 := g.c1, c2 := g.c2, c3 := g.c3, f3 := g.f3, c4 := g.c4, ct := by simp, ft := by simp, tl := by simp }

theorem lst_start (b m m2 k : Nat) (bl nm : Int) (w : World) (h : Bk w b m m2 bl nm) (hk : Kk w k bl nm) :
    Lst w b k m m2 bl nm [] (w.heap.size + 1 + 1 + 1 + 1 + 1) 0 ((((((w.alloc (.cells #[.pointer (some ⟨b, 0, none⟩)] 31)).alloc (.cells #[.pointer (some ⟨k, 0, none⟩)] 32)).alloc (.cells #[.int .i64 0] 3)).alloc (.cells #[.bool false] 4)).alloc (.cells #[.pointer (some ⟨b, 0, none⟩)] 31)).alloc (.cells #[.int .i64 0] 3)) := by
  have hb0 : Below w.heap.size w ((((((w.alloc (.cells #[.pointer (some ⟨b, 0, none⟩)] 31)).alloc (.cells #[.pointer (some ⟨k, 0, none⟩)] 32)).alloc (.cells #[.int .i64 0] 3)).alloc (.cells #[.bool false] 4)).alloc (.cells #[.pointer (some ⟨b, 0, none⟩)] 31)).alloc (.cells #[.int .i64 0] 3)) :=
    ((((((Below.refl _ _).alloc (Nat.le_refl _) _).alloc (by simp) _).alloc (by simp; omega) _).alloc (by simp; omega) _).alloc (by simp; omega) _).alloc (by simp; omega) _
  have k1 := h.next hb0
  have k2 := hk.next hb0
  clear h hk
  exact ⟨hb0, k1, k2, trivial, by simp, by go_simp, by go_simp, by go_simp, by go_simp, by go_simp, by go_simp, by go_simp, by go_simp, by simp⟩

set_option maxRecDepth 100000 in
set_option maxHeartbeats 2000000 in
theorem lists_blank (b m m2 k : Nat) (bl nm : Int) (w : World) (h : Bk w b m m2 bl nm) (hk : Kk w k bl nm) : Calls Tryz.prog 26 #[.pointer (some ⟨b, 0, none⟩), .pointer (some ⟨k, 0, none⟩), .int .i64 0] w fun e w' => e = .returned (.bool true) ∧ Below w.heap.size w w' := by
  refine (callsIn_wide (n := 6)).1 ?_
  refine callsIn_of_wp_marks Tryz.func26 rfl trivial ?_ rfl
  simp only [Tryz.ntmps26, List.size_toArray, List.length_cons, List.length_nil, Nat.reduceAdd, Nat.reduceSub, Array.replicate_succ, Array.replicate_zero, List.push_toArray, List.append_toArray, List.nil_append, List.cons_append]
  gi_wp2_with (refine ⟨trivial, ?_⟩; gi_at_call 62; refine (callsIn_wide.2 (list_any _ _)).mono ?_; rintro e w' ⟨rfl, rfl⟩)
  refine wpIn_loop_rounds 3 ?_
  obtain ⟨V0, hV0⟩ : ∃ V0, (((((w.alloc (.cells #[.pointer (some ⟨b, 0, none⟩)] 31)).alloc (.cells #[.pointer (some ⟨k, 0, none⟩)] 32)).alloc (.cells #[.int .i64 0] 3)).alloc (.cells #[.bool false] 4)).alloc (.cells #[.pointer (some ⟨b, 0, none⟩)] 31)).alloc (.cells #[.int .i64 0] 3) = V0 := ⟨_, rfl⟩
  have hl0 := lst_start b m m2 k bl nm w h hk
  rw [hV0] at hl0 ⊢
  clear hV0 h hk
  have d0 := hl0.c0; have d1 := hl0.c1; have d2 := hl0.c2; have d3 := hl0.c3; have d4 := hl0.c4; have dt := hl0.ct; have ht := hl0.tl; have hlt := hl0.lt
  rw [roundsIn_succ]
  gi_wp2_with fail
  refine ⟨trivial, ?_⟩
  refine (callsIn_wide.2 (refList_nil _ _ _ _ hl0.kk)).mono ?_
  rintro e A0 ⟨rfl, hbA0⟩
  have ha0 := hl0.next hbA0
  clear d0 d1 d2 d3 d4 dt ht hlt
  have d0 := ha0.c0; have d1 := ha0.c1; have d2 := ha0.c2; have d3 := ha0.c3; have d4 := ha0.c4; have dt := ha0.ct; have ht := ha0.tl; have hlt := ha0.lt
  gi_wp2_with fail
  obtain ⟨B0, hB0⟩ : ∃ B0, (A0.alloc (.cells #[.slice none 0 0] 136)).alloc (.cells #[.int .i64 0] 3) = B0 := ⟨_, rfl⟩
  have hbB0 : Below A0.heap.size A0 B0 := by rw [← hB0]; exact ((Below.refl _ _).alloc (Nat.le_refl _) _).alloc (by simp) _
  have i90 : B0.cell? ⟨A0.heap.size, 0, none⟩ = some (.slice none 0 0) := by rw [← hB0]; simp
  have i100 : B0.cell? ⟨A0.heap.size + 1, 0, none⟩ = some (.int .i64 0) := by rw [← hB0]; simp
  have HZ0 : Hid (B0.heap.size = A0.heap.size + 2) := by rw [← hB0]; show _ = _; simp
  have hq0 := ha0.next hbB0
  rw [hB0]
  clear hB0
  refine wpIn_rangeFunc_never rfl (by decide) (gf := 117) (lb := #[.pointer (some ⟨w.heap.size + 1 + 1 + 1 + 1, 0, none⟩)]) rfl trivial enters117
    (fun l W hW => callsIn_wide.2 (list1_blank l _ b m m2 bl nm W ((hq0.next hW).c4) ((hq0.next hW).bk))) ?_
  intro D0 W0 hW0 hD0 hK0
  have hr0 : Lst w b k m m2 bl nm ({ target := .collected D0, args := #[] } :: _) _ 0 W0 := { hq0.next hW0 with mks := hq0.mks.cons hW0 hD0 (by have := hq0.lt; omega) hK0 }
  have j90 := (hW0.cell (p := ⟨A0.heap.size, 0, none⟩) (show A0.heap.size < B0.heap.size by rw [HZ0.out]; omega)).trans i90
  have j100 := (hW0.cell (p := ⟨A0.heap.size + 1, 0, none⟩) (show A0.heap.size + 1 < B0.heap.size by rw [HZ0.out]; omega)).trans i100
  clear d0 d1 d2 d3 d4 dt ht hlt
  have d0 := hr0.c0; have d1 := hr0.c1; have d2 := hr0.c2; have d3 := hr0.c3; have d4 := hr0.c4; have dt := hr0.ct; have ht := hr0.tl; have hlt := hr0.lt
  clear hW0 hD0 hK0 i90 i100
  gi_wp2
  have hl1 := hr0.turn 1
  obtain ⟨V1, hV1⟩ : ∃ V1, W0.alloc (.cells #[.int .i64 1] 3) = V1 := ⟨_, rfl⟩
  rw [hV1] at hl1 ⊢
  clear hV1 j90 j100
  clear d0 d1 d2 d3 d4 dt ht hlt
  have d0 := hl1.c0; have d1 := hl1.c1; have d2 := hl1.c2; have d3 := hl1.c3; have d4 := hl1.c4; have dt := hl1.ct; have ht := hl1.tl; have hlt := hl1.lt
  rw [roundsIn_succ]
  gi_wp2_with fail
  refine ⟨trivial, ?_⟩
  refine (callsIn_wide.2 (refList_nil _ _ _ _ hl1.kk)).mono ?_
  rintro e A1 ⟨rfl, hbA1⟩
  have ha1 := hl1.next hbA1
  clear d0 d1 d2 d3 d4 dt ht hlt
  have d0 := ha1.c0; have d1 := ha1.c1; have d2 := ha1.c2; have d3 := ha1.c3; have d4 := ha1.c4; have dt := ha1.ct; have ht := ha1.tl; have hlt := ha1.lt
  gi_wp2_with fail
  obtain ⟨B1, hB1⟩ : ∃ B1, (A1.alloc (.cells #[.slice none 0 0] 136)).alloc (.cells #[.int .i64 0] 3) = B1 := ⟨_, rfl⟩
  have hbB1 : Below A1.heap.size A1 B1 := by rw [← hB1]; exact ((Below.refl _ _).alloc (Nat.le_refl _) _).alloc (by simp) _
  have i91 : B1.cell? ⟨A1.heap.size, 0, none⟩ = some (.slice none 0 0) := by rw [← hB1]; simp
  have i101 : B1.cell? ⟨A1.heap.size + 1, 0, none⟩ = some (.int .i64 0) := by rw [← hB1]; simp
  have HZ1 : Hid (B1.heap.size = A1.heap.size + 2) := by rw [← hB1]; show _ = _; simp
  have hq1 := ha1.next hbB1
  rw [hB1]
  clear hB1
  refine wpIn_rangeFunc_never rfl (by decide) (gf := 117) (lb := #[.pointer (some ⟨w.heap.size + 1 + 1 + 1 + 1, 0, none⟩)]) rfl trivial enters117
    (fun l W hW => callsIn_wide.2 (list1_blank l _ b m m2 bl nm W ((hq1.next hW).c4) ((hq1.next hW).bk))) ?_
  intro D1 W1 hW1 hD1 hK1
  have hr1 : Lst w b k m m2 bl nm ({ target := .collected D1, args := #[] } :: _) _ 1 W1 := { hq1.next hW1 with mks := hq1.mks.cons hW1 hD1 (by have := hq1.lt; omega) hK1 }
  have j91 := (hW1.cell (p := ⟨A1.heap.size, 0, none⟩) (show A1.heap.size < B1.heap.size by rw [HZ1.out]; omega)).trans i91
  have j101 := (hW1.cell (p := ⟨A1.heap.size + 1, 0, none⟩) (show A1.heap.size + 1 < B1.heap.size by rw [HZ1.out]; omega)).trans i101
  clear d0 d1 d2 d3 d4 dt ht hlt
  have d0 := hr1.c0; have d1 := hr1.c1; have d2 := hr1.c2; have d3 := hr1.c3; have d4 := hr1.c4; have dt := hr1.ct; have ht := hr1.tl; have hlt := hr1.lt
  clear hW1 hD1 hK1 i91 i101
  gi_wp2
  have hl2 := hr1.turn 2
  obtain ⟨V2, hV2⟩ : ∃ V2, W1.alloc (.cells #[.int .i64 2] 3) = V2 := ⟨_, rfl⟩
  rw [hV2] at hl2 ⊢
  clear hV2 j91 j101
  clear d0 d1 d2 d3 d4 dt ht hlt
  have d0 := hl2.c0; have d1 := hl2.c1; have d2 := hl2.c2; have d3 := hl2.c3; have d4 := hl2.c4; have dt := hl2.ct; have ht := hl2.tl; have hlt := hl2.lt; have f3 := hl2.f3
  rw [roundsIn_succ]
  gi_wp2
  have hmk : Marks (w.heap.size + 5) [{ target := .collected D1, args := #[] }, { target := .collected D0, args := #[] }] (V2.setCell ⟨w.heap.size + 1 + 1 + 1, 0, none⟩ (.bool true)) := hl2.mks.keep fun d hd D e => by
    obtain ⟨D', e', hge, _⟩ := hl2.mks.mem d hd
    obtain rfl : D' = D := by rw [e] at e'; simpa using e'.symm
    exact Below.heap_setCell _ _ _ _ (by show D' ≠ w.heap.size + 1 + 1 + 1; omega)
  have hfin : Below w.heap.size w (V2.setCell ⟨w.heap.size + 1 + 1 + 1, 0, none⟩ (.bool true)) := hl2.bel.setCell (p := ⟨w.heap.size + 1 + 1 + 1, 0, none⟩) (by show w.heap.size ≤ w.heap.size + 1 + 1 + 1; omega) _
  refine leavesM_marks _ _ hmk ?_
  intro W' hb
  have hres' : W'.cell? ⟨w.heap.size + 1 + 1 + 1, 0, none⟩ = some (.bool true) := (hb.cell (p := ⟨w.heap.size + 1 + 1 + 1, 0, none⟩) (show w.heap.size + 1 + 1 + 1 < w.heap.size + 5 by omega)).trans (cell_set_eq d3)
  exact ⟨.bool true, by simp [results, Tryz.results26, go_sem, hres'], rfl, hfin.trans (hb.mono (by omega))⟩

end Go.Proofs.YtpnmnjelppnfoabGreat
