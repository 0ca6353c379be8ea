import Derived.Test.YtpnmnjelppnfoaaGreatNobD
namespace Go.Proofs.YtpnmnjelppnfoaaGreat
open Go.RowKit

def setMap (w : World) (r : Nat) (o : Obj) : World := { w with heap := w.heap.setIfInBounds r o }

theorem grownBy_setMap (w : World) (r : Nat) (o : Obj) : w.grownBy (setMap w r o) (some r) :=
  ⟨rfl, rfl, rfl, by simp [setMap], fun k _ hne => Array.getElem?_setIfInBounds_ne (fun e => hne (by rw [e]))⟩

set_option maxHeartbeats 400000 in
theorem apply_a (m f : Nat) (w : World) (hm : w.heap[m]? = some (.map #[] 0)) :
    Calls Tryz.prog 73 #[.map (some m), .agg #[.int .i64 1, .string { data := #[97] }, .string { data := #[] }, .pointer (some ⟨f, 0, none⟩)]] w fun e w' => (∃ v, e = .returned v) ∧ w.grownBy w' (some m) := by
  have hlt : m < w.heap.size := (Array.getElem?_eq_some_iff.1 hm).1
  have hup := run_mapUpdate_first (P := Tryz.prog) (w.alloc (.cells #[.int .i64 1, .string { data := #[97] }, .string { data := #[] }, .pointer (some ⟨f, 0, none⟩)] 102)) 27 9 98 m 0 { data := #[97] } (.pointer (some ⟨f, 0, none⟩)) Tryz.underlying27 Tryz.underlying9 ((Below.heap_alloc w _ m hlt).trans hm)
  obtain ⟨W2, hW2⟩ : ∃ W2, W2 = setMap (w.alloc (.cells #[.int .i64 1, .string { data := #[97] }, .string { data := #[] }, .pointer (some ⟨f, 0, none⟩)] 102)) m (.map #[{ key := .string { data := #[97] }, val := .pointer (some ⟨f, 0, none⟩), born := 0 }] (0 + 1)) := ⟨_, rfl⟩
  have hup2 : (Instr.mapUpdate 27 (.map (some m)) (.string { data := #[97] }) (.pointer (some ⟨f, 0, none⟩))).run Tryz.prog (w.alloc (.cells #[.int .i64 1, .string { data := #[97] }, .string { data := #[] }, .pointer (some ⟨f, 0, none⟩)] 102)) = .ok () W2 := by rw [hW2]; exact hup
  have hg : w.grownBy W2 (some m) := by
    rw [hW2]
    have h1 := World.grownBy_alloc w (.cells #[.int .i64 1, .string { data := #[97] }, .string { data := #[] }, .pointer (some ⟨f, 0, none⟩)] 102) (some m)
    have h2 := grownBy_setMap (w.alloc (.cells #[.int .i64 1, .string { data := #[97] }, .string { data := #[] }, .pointer (some ⟨f, 0, none⟩)] 102)) m (.map #[{ key := .string { data := #[97] }, val := .pointer (some ⟨f, 0, none⟩), born := 0 }] (0 + 1))
    exact ⟨h2.os.trans h1.os, h2.tape.trans h1.tape, h2.output.trans h1.output, Nat.le_trans h1.size h2.size, fun k hk hne => (h2.block k (Nat.lt_of_lt_of_le hk h1.size) hne).trans (h1.block k hk hne)⟩
  have HG : Hid (w.grownBy W2 (some m)) := hg
  clear hW2 hup hg
  go_enter Tryz.func73, Tryz.ntmps73
  go_wp2
  refine bodyPost_end (results_none rfl _ _ _) rfl ?_
  exact ⟨⟨_, rfl⟩, HG.out⟩


theorem cell_four_at {w : World} {x0 x1 x2 x3 : Value} {t : TypeId} {B : Nat} (h : B = w.heap.size) : ∀ j u, [x0, x1, x2, x3][j]? = some u → (w.alloc (.cells #[x0, x1, x2, x3] t)).cell? ((⟨B, 0, none⟩ : Addr).add j) = some u := by
  subst h
  intro j u hj
  match j, hj with
  | 0, hj => simp at hj; subst hj; simp [Addr.add]
  | 1, hj => simp at hj; subst hj; simp [Addr.add]
  | 2, hj => simp at hj; subst hj; simp [Addr.add]
  | 3, hj => simp at hj; subst hj; simp [Addr.add]
  | n + 4, hj => simp at hj

theorem info102 : (Tryz.prog.info? 102).map (fun i => (i.zero, i.size, i.bytes)) = some (some (.agg #[.int .i64 0, .string { data := #[] }, .string { data := #[] }, .pointer none]), 4, 48) := by kernel_rfl

set_option maxRecDepth 100000 in
set_option maxHeartbeats 400000 in
theorem turn_a (b m f : Nat) (w : World) (he : Ek w b m) :
    Calls Tryz.prog 44 #[.pointer (some ⟨b, 0, none⟩), .agg #[.int .i64 1, .string { data := #[97] }, .string { data := #[] }, .pointer (some ⟨f, 0, none⟩)]] w fun e w' => (∃ v, e = .returned v) ∧ Below (min b m) w w' ∧ w'.cell? ⟨b, 4, none⟩ = some (.int .i64 (-1)) := by
  obtain ⟨i0, hi, hz0, hz1, hz2⟩ := info_parts info102
  obtain ⟨W1, hW1⟩ : ∃ W1, w.alloc (.cells #[.int .i64 1, .string { data := #[97] }, .string { data := #[] }, .pointer (some ⟨f, 0, none⟩)] 102) = W1 := ⟨_, rfl⟩
  have hs1 : W1.heap.size = w.heap.size + 1 := by rw [← hW1]; simp
  have hb1 : Below w.heap.size w W1 := hW1 ▸ (Below.refl _ _).alloc (Nat.le_refl _) _
  have e1 := he.next hb1
  have t0 : W1.cell? ⟨w.heap.size, 0, none⟩ = some (.int .i64 1) := by rw [← hW1]; simp
  have t1 : W1.cell? ⟨w.heap.size, 1, none⟩ = some (.string { data := #[97] }) := by rw [← hW1]; simp
  have t2 : W1.cell? ⟨w.heap.size, 2, none⟩ = some (.string { data := #[] }) := by rw [← hW1]; simp
  have t3 : W1.cell? ⟨w.heap.size, 3, none⟩ = some (.pointer (some ⟨f, 0, none⟩)) := by rw [← hW1]; simp
  have k6 := e1.c6
  have HS : Hid (W1.heap.size = w.heap.size + 1) := hs1
  clear hs1
  go_enter Tryz.func44, Tryz.ntmps44
  go_wp2
  go_region_with (go_at_call 73; refine (apply_a _ _ _ (by exact e1.hm)).mono ?_; rintro e W2 ⟨⟨v, rfl⟩, hg2⟩)
  all_goals
    have hg2' : W1.grownBy W2 (some m) := ⟨hg2.os, hg2.tape, hg2.output, hg2.size, hg2.block⟩
    have hbm := he.bm
    have hmw : m < w.heap.size := he.mn
    have h2c : ∀ k j, k ≠ m → k < W1.heap.size → W2.cell? ⟨k, j, none⟩ = W1.cell? ⟨k, j, none⟩ := fun k j hk hl => World.cell?_of_block (w := W1) (a := ⟨k, j, none⟩) (hg2'.block k hl (by simpa using hk))
    have h2f : ∀ k j, k ≠ m → k < W1.heap.size → W2.frozen? ⟨k, j, none⟩ = W1.frozen? ⟨k, j, none⟩ := fun k j hk hl => World.frozen?_of_block (w := W1) (a := ⟨k, j, none⟩) (hg2'.block k hl (by simpa using hk))
    have hsw : w.heap.size < W1.heap.size := by rw [HS.out]; omega
    have s0 := (h2c w.heap.size 0 (by omega) hsw).trans t0
    have s1 := (h2c w.heap.size 1 (by omega) hsw).trans t1
    have s2 := (h2c w.heap.size 2 (by omega) hsw).trans t2
    have s3 := (h2c w.heap.size 3 (by omega) hsw).trans t3
    have q8 := (h2c b 8 hbm e1.bn).trans e1.c8
    have q4 := (h2c b 4 hbm e1.bn).trans e1.c4
    have qf := fun j => (h2f b j hbm e1.bn).trans (e1.fz j)
    have hbz : b < W2.heap.size := Nat.lt_of_lt_of_le e1.bn hg2'.size
    clear t0 t1 t2 t3 k6 h2c h2f
    go_wp2
    go_region_law (refine step_append_grows rfl (.tmp 14) (.tmp 16) 28 rfl 102 i0 _ 4 48 Tryz.underlying28 hi hz0 hz1 hz2 rfl (by decide) none 0 0 [] (by simp [Act.eval]) (by simp) rfl (by simp) ⟨W2.heap.size, 0, none⟩ 1 1 [.int .i64 1, .string { data := #[97] }, .string { data := #[] }, .pointer (some ⟨f, 0, none⟩)] (by simp [Act.eval]) rfl (by exact cell_four_at (by simp)) (by simp [Value.oneCell']) (by decide) (by decide) (by decide) ?_; intro v4 W4 hown4 hgrow4; have hb4 : Below W2.heap.size W2 W4 := ⟨hgrow4.os, hgrow4.tape, hgrow4.output, Nat.le_trans (by simp) hgrow4.size, fun k hk => (hgrow4.block k (by simp; omega) (by simp)).trans (Below.heap_alloc W2 _ k hk)⟩; obtain ⟨g4, cap4, rfl⟩ := ownsRow_succ hown4; have z8 := (hb4.cell (p := ⟨b, 8, none⟩) hbz).trans q8; have zf := fun j => (hb4.frozen (p := ⟨b, j, none⟩) hbz).trans (qf j))
    all_goals
      have hfin : Below (min b m) w W4 := ((hb1.mono (by omega)).trans ⟨hg2'.os, hg2'.tape, hg2'.output, hg2'.size, fun k hk => hg2'.block k (by omega) (by simp; omega)⟩).trans (hb4.mono (by omega))
      have z4 := (hb4.cell (p := ⟨b, 4, none⟩) hbz).trans q4
      have HF : Hid (Below (min b m) w W4) := hfin
      clear hfin
      refine bodyPost_end (results_none rfl _ _ _) rfl ?_
      exact ⟨⟨_, rfl⟩, HF.out.setCell (p := ⟨b, 8, none⟩) (Nat.min_le_left _ _) _, (cell_set_ne (by omega)).trans z4⟩

end Go.Proofs.YtpnmnjelppnfoaaGreat
