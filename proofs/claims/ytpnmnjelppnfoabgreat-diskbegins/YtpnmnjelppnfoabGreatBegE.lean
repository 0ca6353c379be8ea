import Derived.Test.YtpnmnjelppnfoabGreatBegD
namespace Go.Proofs.YtpnmnjelppnfoabGreat
open Go.RowKit

/-- A disk without files. -/
structure Bk (W : World) (b m m2 : Nat) (bl nm : Int) : Prop where
  c0 : W.cell? ⟨b, 0, none⟩ = some (.int .i64 bl)
  c1 : W.cell? ⟨b, 1, none⟩ = some (.int .i64 nm)
  c2 : W.cell? ⟨b, 2, none⟩ = some (.int .i64 0)
  c3 : W.cell? ⟨b, 3, none⟩ = some (.int .u64 1)
  c4 : W.cell? ⟨b, 4, none⟩ = some (.int .i64 (-1))
  c5 : W.cell? ⟨b, 5, none⟩ = some (.slice none 0 0)
  c6 : W.cell? ⟨b, 6, none⟩ = some (.map (some m))
  c7 : W.cell? ⟨b, 7, none⟩ = some (.map (some m2))
  c8 : W.cell? ⟨b, 8, none⟩ = some (.slice none 0 0)
  hm : W.heap[m]? = some (.map #[] 0)
  hm2 : W.heap[m2]? = some (.map #[] 0)
  bn : b < W.heap.size
  mn : m < W.heap.size
  mn2 : m2 < W.heap.size

theorem Bk.next {W W' : World} {b m m2 : Nat} {bl nm : Int} (h : Bk W b m m2 bl nm) (hb : Below W.heap.size W W') : Bk W' b m m2 bl nm where
  c0 := (hb.cell (p := ⟨b, 0, none⟩) h.bn).trans h.c0
  c1 := (hb.cell (p := ⟨b, 1, none⟩) h.bn).trans h.c1
  c2 := (hb.cell (p := ⟨b, 2, none⟩) h.bn).trans h.c2
  c3 := (hb.cell (p := ⟨b, 3, none⟩) h.bn).trans h.c3
  c4 := (hb.cell (p := ⟨b, 4, none⟩) h.bn).trans h.c4
  c5 := (hb.cell (p := ⟨b, 5, none⟩) h.bn).trans h.c5
  c6 := (hb.cell (p := ⟨b, 6, none⟩) h.bn).trans h.c6
  c7 := (hb.cell (p := ⟨b, 7, none⟩) h.bn).trans h.c7
  c8 := (hb.cell (p := ⟨b, 8, none⟩) h.bn).trans h.c8
  hm := (hb.block m h.mn).trans h.hm
  hm2 := (hb.block m2 h.mn2).trans h.hm2
  bn := Nat.lt_of_lt_of_le h.bn hb.size
  mn := Nat.lt_of_lt_of_le h.mn hb.size
  mn2 := Nat.lt_of_lt_of_le h.mn2 hb.size

theorem bk_new (V : World) (b m m2 : Nat) (bl nm : Int) (hb : b = V.heap.size) (hm : V.heap[m]? = some (.map #[] 0)) (hm2 : V.heap[m2]? = some (.map #[] 0)) : Bk (V.alloc (.cells #[.int .i64 bl, .int .i64 nm, .int .i64 0, .int .u64 1, .int .i64 (-1), .slice none 0 0, .map (some m), .map (some m2), .slice none 0 0] 84)) b m m2 bl nm := by
  subst hb
  have hlt : m < V.heap.size := (Array.getElem?_eq_some_iff.1 hm).1
  have hlt2 : m2 < V.heap.size := (Array.getElem?_eq_some_iff.1 hm2).1
  exact ⟨by simp, by simp, by simp, by simp, by simp, by simp, by simp, by simp, by simp, (Below.heap_alloc V _ m hlt).trans hm, (Below.heap_alloc V _ m2 hlt2).trans hm2, by simp, by simp; omega, by simp; omega⟩

set_option maxHeartbeats 800000 in
theorem new_ok (bl nm : Int) (w : World) (h1 : ¬ bl < 1) (h2 : ¬ 65536 < bl) (h3 : ¬ nm < 1) (h4 : ¬ 64 < nm) : Calls Tryz.prog 23 #[.agg #[.int .i64 bl, .int .i64 nm]] w fun e w' => ∃ b, e = .returned (.tuple #[.pointer (some ⟨b, 0, none⟩), .nilIface]) ∧ Below w.heap.size w w' ∧ w.heap.size ≤ b ∧ ∃ m m2, Bk w' b m m2 bl nm := by
  have hmm := @run_makeMap Tryz.prog
  go_enter Tryz.func23, Tryz.ntmps23
  go_wp2
  go_ret2
  refine ⟨w.heap.size + 1 + 1 + 1 + 1 + 1, rfl, ?_, by omega, w.heap.size + 1 + 1 + 1, w.heap.size + 1 + 1 + 1 + 1, ?_⟩
  · exact ((((((Below.refl _ _).alloc (Nat.le_refl _) _).alloc (by simp) _).alloc (by simp; omega) _).alloc (by simp; omega) _).alloc (by simp; omega) _).alloc (by simp; omega) _
  · refine bk_new _ _ _ _ _ _ (by simp) ?_ ?_
    · exact (Below.heap_alloc _ _ _ (by simp)).trans (by rw [show w.heap.size + 1 + 1 + 1 = (((w.alloc (Obj.cells #[Value.int IntKind.i64 bl, Value.int IntKind.i64 nm] 23)).alloc (Obj.cells #[Value.int IntKind.i64 bl, Value.int IntKind.i64 nm] 23)).alloc (Obj.cells #[Value.int IntKind.i64 bl, Value.int IntKind.i64 nm] 23)).heap.size by simp]; exact World.alloc_heap_new _ _)
    · rw [show w.heap.size + 1 + 1 + 1 + 1 = ((((w.alloc (Obj.cells #[Value.int IntKind.i64 bl, Value.int IntKind.i64 nm] 23)).alloc (Obj.cells #[Value.int IntKind.i64 bl, Value.int IntKind.i64 nm] 23)).alloc (Obj.cells #[Value.int IntKind.i64 bl, Value.int IntKind.i64 nm] 23)).alloc (Obj.map #[] 0)).heap.size by simp]
      exact World.alloc_heap_new _ _

/-- The document's disk without files. -/
structure Kk (W : World) (k : Nat) (bl nm : Int) : Prop where
  c0 : W.cell? ⟨k, 0, none⟩ = some (.int .i64 bl)
  c1 : W.cell? ⟨k, 1, none⟩ = some (.int .i64 nm)
  c2 : W.cell? ⟨k, 2, none⟩ = some (.slice none 0 0)
  c3 : W.cell? ⟨k, 3, none⟩ = some (.slice none 0 0)
  c4 : W.cell? ⟨k, 4, none⟩ = some (.slice none 0 0)
  c5 : W.cell? ⟨k, 5, none⟩ = some (.int .u64 1)
  c6 : W.cell? ⟨k, 6, none⟩ = some (.int .i64 (-1))
  kn : k < W.heap.size

theorem Kk.below {W W' : World} {k n : Nat} {bl nm : Int} (h : Kk W k bl nm) (hb : Below n W W') (hn : k < n) : Kk W' k bl nm where
  c0 := (hb.cell (p := ⟨k, 0, none⟩) hn).trans h.c0
  c1 := (hb.cell (p := ⟨k, 1, none⟩) hn).trans h.c1
  c2 := (hb.cell (p := ⟨k, 2, none⟩) hn).trans h.c2
  c3 := (hb.cell (p := ⟨k, 3, none⟩) hn).trans h.c3
  c4 := (hb.cell (p := ⟨k, 4, none⟩) hn).trans h.c4
  c5 := (hb.cell (p := ⟨k, 5, none⟩) hn).trans h.c5
  c6 := (hb.cell (p := ⟨k, 6, none⟩) hn).trans h.c6
  kn := Nat.lt_of_lt_of_le h.kn hb.size

theorem Kk.next {W W' : World} {k : Nat} {bl nm : Int} (h : Kk W k bl nm) (hb : Below W.heap.size W W') : Kk W' k bl nm := h.below hb h.kn

theorem kk_new (V : World) (k : Nat) (bl nm : Int) (hk : k = V.heap.size) : Kk (V.alloc (.cells #[.int .i64 bl, .int .i64 nm, .slice none 0 0, .slice none 0 0, .slice none 0 0, .int .u64 1, .int .i64 (-1)] 77)) k bl nm := by
  subst hk
  exact ⟨by simp, by simp, by simp, by simp, by simp, by simp, by simp, by simp⟩

theorem Kk.off {W : World} {k b i : Nat} {bl nm : Int} {v : Value} (h : Kk W k bl nm) (hb : b ≠ k) : Kk (W.setCell ⟨b, i, none⟩ v) k bl nm where
  c0 := (cell_set_off hb).trans h.c0
  c1 := (cell_set_off hb).trans h.c1
  c2 := (cell_set_off hb).trans h.c2
  c3 := (cell_set_off hb).trans h.c3
  c4 := (cell_set_off hb).trans h.c4
  c5 := (cell_set_off hb).trans h.c5
  c6 := (cell_set_off hb).trans h.c6
  kn := by simpa using h.kn

set_option maxHeartbeats 400000 in
theorem none_any (w : World) : Calls Tryz.prog 69 #[] w fun e w' => e = .returned (.agg #[.slice none 0 0, .int .i64 0]) ∧ Below w.heap.size w w' := by
  go_enter Tryz.func69, Tryz.ntmps69
  go_wp2
  exact bodyPost_ret (v := .agg #[.slice none 0 0, .int .i64 0]) (by simp [results, Tryz.results69, go_sem]) rfl ⟨rfl, (Below.refl _ _).alloc (Nat.le_refl _) _⟩

set_option maxRecDepth 100000 in
set_option maxHeartbeats 800000 in
theorem refNew_ok (bl nm : Int) (w : World) (h1 : ¬ bl < 1) (h2 : ¬ 65536 < bl) (h3 : ¬ nm < 1) (h4 : ¬ 64 < nm) : Calls Tryz.prog 24 #[.agg #[.int .i64 bl, .int .i64 nm]] w fun e w' => ∃ k, e = .returned (.tuple #[.pointer (some ⟨k, 0, none⟩), .agg #[.slice none 0 0, .int .i64 0]]) ∧ Below w.heap.size w w' ∧ Kk w' k bl nm := by
  obtain ⟨W1, hW1⟩ : ∃ W1, (w.alloc (.cells #[.int .i64 bl, .int .i64 nm] 23)).alloc (.cells #[.slice none 0 0, .int .i64 0] 62) = W1 := ⟨_, rfl⟩
  have hb1 : Below w.heap.size w W1 := hW1 ▸ ((Below.refl _ _).alloc (Nat.le_refl _) _).alloc (by simp) _
  have HS : Hid (W1.heap.size = w.heap.size + 2) := by rw [← hW1]; show _ = _; simp
  have hs1 : w.heap.size + 1 < W1.heap.size := by rw [HS.out]; omega
  have hs0 : w.heap.size < W1.heap.size := by omega
  have c0 : W1.cell? ⟨w.heap.size, 0, none⟩ = some (.int .i64 bl) := by rw [← hW1]; simp
  have c1 : W1.cell? ⟨w.heap.size, 1, none⟩ = some (.int .i64 nm) := by rw [← hW1]; simp
  have a0 : W1.cell? ⟨w.heap.size + 1, 0, none⟩ = some (.slice none 0 0) := by rw [← hW1]; simp
  have a1 : W1.cell? ⟨w.heap.size + 1, 1, none⟩ = some (.int .i64 0) := by rw [← hW1]; simp
  have af : ∀ i, W1.frozen? ⟨w.heap.size + 1, i, none⟩ = false := fun i => by rw [← hW1]; simp
  go_enter Tryz.func24, Tryz.ntmps24
  go_wp2
  go_region_with (go_at_call 69; refine (none_any _).mono ?_; rintro e W2 ⟨rfl, hb2⟩; have hb12 : Below W1.heap.size W1 W2 := (by first | exact ((Below.refl _ _).drew.trans hb2) | exact (((Below.refl _ _).alloc (Nat.le_refl _) _).drew.trans (hb2.mono (by simp)))); have b0 := (hb12.cell (p := ⟨w.heap.size + 1, 0, none⟩) hs1).trans a0; have b1 := (hb12.cell (p := ⟨w.heap.size + 1, 1, none⟩) hs1).trans a1; have bf := fun i => (hb12.frozen (p := ⟨w.heap.size + 1, i, none⟩) hs1).trans (af i); have d0 := (hb12.cell (p := ⟨w.heap.size, 0, none⟩) hs0).trans c0; have d1 := (hb12.cell (p := ⟨w.heap.size, 1, none⟩) hs0).trans c1; have hs2 : w.heap.size + 1 < W2.heap.size := Nat.lt_of_lt_of_le hs1 hb12.size; have hs3 : w.heap.size < W2.heap.size := Nat.lt_of_lt_of_le hs0 hb12.size)
  all_goals go_wp2
  all_goals
    have hbw : Below w.heap.size w ((W2.setCell ⟨w.heap.size + 1, 0, none⟩ (.slice none 0 0)).setCell ⟨w.heap.size + 1, 1, none⟩ (.int .i64 0)) :=
      ((hb1.trans (hb12.mono hb1.size)).setCell (p := ⟨w.heap.size + 1, 0, none⟩) (by simp) _).setCell (p := ⟨w.heap.size + 1, 1, none⟩) (by simp) _
    first
    | exact bodyPost_ret (v := .tuple #[.pointer (some ⟨W1.heap.size, 0, none⟩), .agg #[.slice none 0 0, .int .i64 0]]) (by simp [results, Tryz.results24, go_sem, b0, b1]) rfl ⟨W1.heap.size, rfl, hbw, ((((kk_new W1 _ bl nm rfl).next ((Below.refl _ _).drew)).next hb2).off (by omega)).off (by omega)⟩
    | exact bodyPost_ret (v := .tuple #[.pointer (some ⟨W2.heap.size, 0, none⟩), .agg #[.slice none 0 0, .int .i64 0]]) (by simp [results, Tryz.results24, go_sem, b0, b1, hs2]) rfl ⟨W2.heap.size, rfl, hbw.alloc (by simp; omega) _, kk_new _ _ bl nm (by simp)⟩

end Go.Proofs.YtpnmnjelppnfoabGreat
