import Derived.Test.YtpnmnjelppnfoabGreatBegF
import Derived.RegionIn
import Derived.Deep.RegionHeld3
namespace Go.Proofs.YtpnmnjelppnfoabGreat
open Go.RowKit Go.Shelf
attribute [local go_sem] Oper.semAt_some

set_option maxHeartbeats 400000 in
theorem made_yes (b m : Nat) (w : World) (h : w.cell? ⟨b, 6, none⟩ = some (.map (some m))) : Calls Tryz.prog 32 #[.pointer (some ⟨b, 0, none⟩)] w fun e w' => e = .returned (.bool true) ∧ w = w' := by
  have hn := fun (w : World) (r : Option Nat) => run_neq_map_nil w 81 9 89 r Tryz.underlying81
  go_enter Tryz.func32, Tryz.ntmps32
  go_wp2
  go_ret
  exact ⟨rfl, rfl⟩

set_option maxHeartbeats 400000 in
theorem used_zero (b m : Nat) (w : World) (h2 : w.cell? ⟨b, 2, none⟩ = some (.int .i64 0)) (h : w.cell? ⟨b, 6, none⟩ = some (.map (some m))) : Calls Tryz.prog 12 #[.pointer (some ⟨b, 0, none⟩)] w fun e w' => e = .returned (.int .i64 0) ∧ w = w' := by
  go_enter Tryz.func12, Tryz.ntmps12
  go_wp2_with (go_at_call 32; refine (made_yes _ _ _ h).mono ?_; rintro e w' ⟨rfl, rfl⟩)
  go_ret
  exact ⟨rfl, rfl⟩

set_option maxRecDepth 100000 in
set_option maxHeartbeats 400000 in
theorem freeBytes_nil (w : World) : Calls Tryz.prog 67 #[.slice none 0 0] w fun e w' => e = .returned (.bool true) ∧ w = w' := by
  go_enter Tryz.func67, Tryz.ntmps67
  go_wp2
  refine wp_loop_rounds 1 ?_
  rw [rounds_succ]
  go_wp2
  refine wp_loop_rounds 1 ?_
  rw [rounds_succ]
  go_wp2
  refine wp_loop_rounds 1 ?_
  rw [rounds_succ]
  go_wp2
  go_ret
  exact ⟨rfl, rfl⟩

set_option maxRecDepth 100000 in
set_option maxHeartbeats 800000 in
theorem spoil_nil (bl nm : Int) (w : World) : Calls Tryz.prog 31 #[.agg #[.int .i64 bl, .int .i64 nm, .slice none 0 0, .slice none 0 0, .slice none 0 0, .int .u64 1, .int .i64 (-1)]] w fun e w' => e = .returned (.bool true) ∧ Below w.heap.size w w' := by
  go_enter Tryz.func31, Tryz.ntmps31
  go_wp2
  refine wp_loop_rounds 1 ?_
  rw [rounds_succ]
  go_wp2_with (go_at_call 67; refine (freeBytes_nil _).mono ?_; rintro e w' ⟨rfl, rfl⟩)
  refine wp_loop_rounds 1 ?_
  rw [rounds_succ]
  go_wp2
  refine wp_loop_rounds 1 ?_
  rw [rounds_succ]
  go_wp2
  refine wp_loop_rounds 1 ?_
  rw [rounds_succ]
  go_wp2
  go_ret
  exact ⟨rfl, (Below.refl _ _).alloc (Nat.le_refl _) _⟩

set_option maxRecDepth 100000 in
set_option maxHeartbeats 1000000 in
theorem same_blank (bl nm : Int) (w : World) : Calls Tryz.prog 21 #[.agg #[.int .i64 bl, .int .i64 nm, .slice none 0 0, .slice none 0 0, .slice none 0 0, .int .u64 1, .int .i64 (-1)], .agg #[.int .i64 bl, .int .i64 nm, .slice none 0 0, .slice none 0 0, .slice none 0 0, .int .u64 1, .int .i64 (-1)]] w fun e w' => e = .returned (.bool true) ∧ Below w.heap.size w w' := by
  go_enter Tryz.func21, Tryz.ntmps21
  go_wp2
  refine wp_loop_rounds 1 ?_
  rw [rounds_succ]
  go_wp2
  refine wp_loop_rounds 1 ?_
  rw [rounds_succ]
  go_wp2
  refine wp_loop_rounds 1 ?_
  rw [rounds_succ]
  go_wp2
  go_ret
  exact ⟨rfl, ((Below.refl _ _).alloc (Nat.le_refl _) _).alloc (by simp) _⟩

set_option maxRecDepth 100000 in
set_option maxHeartbeats 1000000 in
theorem image_blank (b m m2 : Nat) (bl nm : Int) (w : World) (h : Bk w b m m2 bl nm) : Calls Tryz.prog 18 #[.pointer (some ⟨b, 0, none⟩)] w fun e w' => e = .returned (.agg #[.int .i64 bl, .int .i64 nm, .slice none 0 0, .slice none 0 0, .slice none 0 0, .int .u64 1, .int .i64 (-1)]) ∧ Below w.heap.size w w' := by
  obtain ⟨W1, hW1⟩ : ∃ W1, w.alloc (.cells #[.int .i64 0, .int .i64 0, .slice none 0 0, .slice none 0 0, .slice none 0 0, .int .u64 0, .int .i64 0] 29) = W1 := ⟨_, rfl⟩
  have hb1 : Below w.heap.size w W1 := hW1 ▸ (Below.refl _ _).alloc (Nat.le_refl _) _
  have hs1 : w.heap.size < W1.heap.size := by rw [← hW1]; simp
  have h1 := h.next hb1
  have k0 := h1.c0; have k1 := h1.c1; have k3 := h1.c3; have k4 := h1.c4; have k5 := h1.c5; have k7 := h1.c7; have k8 := h1.c8
  have hbn := h1.bn
  refine (callsIn_wide (n := 6)).1 ?_
  refine callsIn_of_wp_marks Tryz.func18 rfl trivial ?_ rfl
  simp only [Tryz.ntmps18, List.size_toArray, List.length_cons, List.length_nil, Nat.reduceAdd, Nat.reduceSub, Array.replicate_succ, Array.replicate_zero, List.push_toArray, List.append_toArray, List.nil_append, List.cons_append]
  gi_wp2_with (refine ⟨trivial, ?_⟩; gi_at_call 32; refine (callsIn_wide.2 (made_yes _ _ _ h1.c6)).mono ?_; rintro e w' ⟨rfl, rfl⟩)
  refine wpIn_wide.2 (wp_region_noPanic ?_)
  have hnn := Nat.ne_of_lt hbn
  go_region_held3 (fun w' => w'.cell? ⟨b, 0, none⟩ = some (.int .i64 bl) ∧ w'.cell? ⟨b, 1, none⟩ = some (.int .i64 nm) ∧ w'.cell? ⟨b, 3, none⟩ = some (.int .u64 1) ∧ w'.cell? ⟨b, 4, none⟩ = some (.int .i64 (-1))) (go_keep) (fail)
  refine NoPanic.normal ?_
  obtain ⟨W2, hW2⟩ : ∃ W2, (W1.alloc (.cells #[.int .i64 bl, .int .i64 nm, .slice none 0 0, .slice none 0 0, .slice none 0 0, .int .u64 1, .int .i64 (-1)] 29)).drew = W2 := ⟨_, rfl⟩
  have hb2 : Below W1.heap.size W1 W2 := hW2 ▸ ((Below.refl _ _).alloc (Nat.le_refl _) _).drew
  have hs2 : W1.heap.size < W2.heap.size := by rw [← hW2]; simp
  have h2 := h1.next hb2
  have n0 : W2.cell? ⟨W1.heap.size, 0, none⟩ = some (.int .i64 bl) := by rw [← hW2]; simp
  have n1 : W2.cell? ⟨W1.heap.size, 1, none⟩ = some (.int .i64 nm) := by rw [← hW2]; simp
  have n2 : W2.cell? ⟨W1.heap.size, 2, none⟩ = some (.slice none 0 0) := by rw [← hW2]; simp
  have n3 : W2.cell? ⟨W1.heap.size, 3, none⟩ = some (.slice none 0 0) := by rw [← hW2]; simp
  have n4 : W2.cell? ⟨W1.heap.size, 4, none⟩ = some (.slice none 0 0) := by rw [← hW2]; simp
  have n5 : W2.cell? ⟨W1.heap.size, 5, none⟩ = some (.int .u64 1) := by rw [← hW2]; simp
  have n6 : W2.cell? ⟨W1.heap.size, 6, none⟩ = some (.int .i64 (-1)) := by rw [← hW2]; simp
  have r0 : ∀ i, W2.frozen? ⟨w.heap.size, i, none⟩ = false := fun i => (hb2.frozen (p := ⟨w.heap.size, i, none⟩) hs1).trans (by rw [← hW1]; simp)
  have rc : ∀ i, i < 7 → ∃ v, W2.cell? ⟨w.heap.size, i, none⟩ = some v := fun i hi => by
    rw [hb2.cell (p := ⟨w.heap.size, i, none⟩) hs1, ← hW1]
    match i, hi with
    | 0, _ => exact ⟨_, by simp; rfl⟩
    | 1, _ => exact ⟨_, by simp; rfl⟩
    | 2, _ => exact ⟨_, by simp; rfl⟩
    | 3, _ => exact ⟨_, by simp; rfl⟩
    | 4, _ => exact ⟨_, by simp; rfl⟩
    | 5, _ => exact ⟨_, by simp; rfl⟩
    | 6, _ => exact ⟨_, by simp; rfl⟩
  rw [hW2]
  clear hW2 k0 k1 k3 k4 k5 k7 k8
  have k5 := h2.c5; have k7 := h2.c7; have k8 := h2.c8
  have hbn2 := h2.bn
  gi_wp2
  refine wpIn_loop_rounds 1 ?_
  rw [roundsIn_succ]
  gi_wp2_with (refine ⟨trivial, ?_⟩; gi_at_call 52; refine (callsIn_wide.2 (risingF_any _ _)).mono ?_; rintro e w' ⟨rfl, rfl⟩)
  have hb3 : Below W2.heap.size W2 (W2.alloc (.cells #[.map (some m2)] 80)) := (Below.refl _ _).alloc (Nat.le_refl _) _
  have hcb : (W2.alloc (.cells #[.map (some m2)] 80)).cell? ⟨W2.heap.size, 0, none⟩ = some (.map (some m2)) := by simp
  have hlv : W2.heap.size < (W2.alloc (.cells #[.map (some m2)] 80)).heap.size := by simp
  have h3 := h2.next hb3
  refine wpIn_rangeFunc_never rfl (by decide) (gf := 110) (lb := #[.pointer (some ⟨W2.heap.size, 0, none⟩)]) rfl trivial enters110
    (fun l W hW => callsIn_wide.2 (risingF1_empty l _ m2 W ((hW.cell (p := ⟨W2.heap.size, 0, none⟩) hlv).trans hcb) ((hW.block m2 h3.mn2).trans h3.hm2))) ?_
  intro D W hW hD hK
  have hb4 : Below W2.heap.size W2 W := hb3.trans (hW.mono (by simp))
  have hDg : W2.heap.size ≤ D := by simp at hD; omega
  have p0 := (hb4.cell (p := ⟨W1.heap.size, 0, none⟩) hs2).trans n0
  have p1 := (hb4.cell (p := ⟨W1.heap.size, 1, none⟩) hs2).trans n1
  have p2 := (hb4.cell (p := ⟨W1.heap.size, 2, none⟩) hs2).trans n2
  have p3 := (hb4.cell (p := ⟨W1.heap.size, 3, none⟩) hs2).trans n3
  have p4 := (hb4.cell (p := ⟨W1.heap.size, 4, none⟩) hs2).trans n4
  have p5 := (hb4.cell (p := ⟨W1.heap.size, 5, none⟩) hs2).trans n5
  have p6 := (hb4.cell (p := ⟨W1.heap.size, 6, none⟩) hs2).trans n6
  have hs3 : w.heap.size < W2.heap.size := by omega
  have hs4 : w.heap.size < W.heap.size := Nat.lt_of_lt_of_le hs3 hb4.size
  have rf : ∀ i, W.frozen? ⟨w.heap.size, i, none⟩ = false := fun i => (hb4.frozen (p := ⟨w.heap.size, i, none⟩) hs3).trans (r0 i)
  have rc' : ∀ i, i < 7 → ∃ v, W.cell? ⟨w.heap.size, i, none⟩ = some v := fun i hi => by rw [hb4.cell (p := ⟨w.heap.size, i, none⟩) hs3]; exact rc i hi
  obtain ⟨y0, g0⟩ := rc' 0 (by omega)
  obtain ⟨y1, g1⟩ := rc' 1 (by omega)
  obtain ⟨y2, g2⟩ := rc' 2 (by omega)
  obtain ⟨y3, g3⟩ := rc' 3 (by omega)
  obtain ⟨y4, g4⟩ := rc' 4 (by omega)
  obtain ⟨y5, g5⟩ := rc' 5 (by omega)
  obtain ⟨y6, g6⟩ := rc' 6 (by omega)
  have q8 := (hb4.cell (p := ⟨b, 8, none⟩) h2.bn).trans h2.c8
  have HBW : Hid (Below w.heap.size w W) := (hb1.trans (hb2.mono hb1.size)).trans (hb4.mono (by omega))
  have HK : Hid (W.heap[D]? = some (.deferred (some []))) := hK
  clear n0 n1 n2 n3 n4 n5 n6 k5 k7 k8 r0 rc rc' hcb hlv hK hW hb4 hb3
  gi_wp2
  refine wpIn_loop_rounds 1 ?_
  rw [roundsIn_succ]
  gi_wp2
  have HU : Hid (Below w.heap.size w (((((((W.setCell ⟨w.heap.size, 0, none⟩ (.int .i64 bl)).setCell ⟨w.heap.size, 1, none⟩ (.int .i64 nm)).setCell ⟨w.heap.size, 2, none⟩ (.slice none 0 0)).setCell ⟨w.heap.size, 3, none⟩ (.slice none 0 0)).setCell ⟨w.heap.size, 4, none⟩ (.slice none 0 0)).setCell ⟨w.heap.size, 5, none⟩ (.int .u64 1)).setCell ⟨w.heap.size, 6, none⟩ (.int .i64 (-1)))) := (((((((HBW.out.setCell (p := ⟨w.heap.size, 0, none⟩) (Nat.le_refl _) _).setCell (p := ⟨w.heap.size, 1, none⟩) (Nat.le_refl _) _).setCell (p := ⟨w.heap.size, 2, none⟩) (Nat.le_refl _) _).setCell (p := ⟨w.heap.size, 3, none⟩) (Nat.le_refl _) _).setCell (p := ⟨w.heap.size, 4, none⟩) (Nat.le_refl _) _).setCell (p := ⟨w.heap.size, 5, none⟩) (Nat.le_refl _) _).setCell (p := ⟨w.heap.size, 6, none⟩) (Nat.le_refl _) _)
  have HKU : Hid ((((((((W.setCell ⟨w.heap.size, 0, none⟩ (.int .i64 bl)).setCell ⟨w.heap.size, 1, none⟩ (.int .i64 nm)).setCell ⟨w.heap.size, 2, none⟩ (.slice none 0 0)).setCell ⟨w.heap.size, 3, none⟩ (.slice none 0 0)).setCell ⟨w.heap.size, 4, none⟩ (.slice none 0 0)).setCell ⟨w.heap.size, 5, none⟩ (.int .u64 1)).setCell ⟨w.heap.size, 6, none⟩ (.int .i64 (-1))).heap[D]? = some (.deferred (some []))) := by
    show (((((((W.setCell ⟨w.heap.size, 0, none⟩ (.int .i64 bl)).setCell ⟨w.heap.size, 1, none⟩ (.int .i64 nm)).setCell ⟨w.heap.size, 2, none⟩ (.slice none 0 0)).setCell ⟨w.heap.size, 3, none⟩ (.slice none 0 0)).setCell ⟨w.heap.size, 4, none⟩ (.slice none 0 0)).setCell ⟨w.heap.size, 5, none⟩ (.int .u64 1)).setCell ⟨w.heap.size, 6, none⟩ (.int .i64 (-1))).heap[D]? = some (.deferred (some []))
    rw [Below.heap_setCell _ _ _ _ (by simp; omega), Below.heap_setCell _ _ _ _ (by simp; omega), Below.heap_setCell _ _ _ _ (by simp; omega), Below.heap_setCell _ _ _ _ (by simp; omega), Below.heap_setCell _ _ _ _ (by simp; omega), Below.heap_setCell _ _ _ _ (by simp; omega), Below.heap_setCell _ _ _ _ (by simp; omega)]
    exact HK.out
  obtain ⟨U, hU⟩ : ∃ U, (((((((W.setCell ⟨w.heap.size, 0, none⟩ (.int .i64 bl)).setCell ⟨w.heap.size, 1, none⟩ (.int .i64 nm)).setCell ⟨w.heap.size, 2, none⟩ (.slice none 0 0)).setCell ⟨w.heap.size, 3, none⟩ (.slice none 0 0)).setCell ⟨w.heap.size, 4, none⟩ (.slice none 0 0)).setCell ⟨w.heap.size, 5, none⟩ (.int .u64 1)).setCell ⟨w.heap.size, 6, none⟩ (.int .i64 (-1))) = U := ⟨_, rfl⟩
  have u0 : U.cell? ⟨w.heap.size, 0, none⟩ = some (.int .i64 bl) := by rw [← hU]; exact ((cell_set_ne (by omega)).trans ((cell_set_ne (by omega)).trans ((cell_set_ne (by omega)).trans ((cell_set_ne (by omega)).trans ((cell_set_ne (by omega)).trans ((cell_set_ne (by omega)).trans (cell_set_eq g0)))))))
  have u1 : U.cell? ⟨w.heap.size, 1, none⟩ = some (.int .i64 nm) := by rw [← hU]; exact ((cell_set_ne (by omega)).trans ((cell_set_ne (by omega)).trans ((cell_set_ne (by omega)).trans ((cell_set_ne (by omega)).trans ((cell_set_ne (by omega)).trans (cell_set_eq ((cell_set_ne (by omega)).trans g1)))))))
  have u2 : U.cell? ⟨w.heap.size, 2, none⟩ = some (.slice none 0 0) := by rw [← hU]; exact ((cell_set_ne (by omega)).trans ((cell_set_ne (by omega)).trans ((cell_set_ne (by omega)).trans ((cell_set_ne (by omega)).trans (cell_set_eq ((cell_set_ne (by omega)).trans ((cell_set_ne (by omega)).trans g2)))))))
  have u3 : U.cell? ⟨w.heap.size, 3, none⟩ = some (.slice none 0 0) := by rw [← hU]; exact ((cell_set_ne (by omega)).trans ((cell_set_ne (by omega)).trans ((cell_set_ne (by omega)).trans (cell_set_eq ((cell_set_ne (by omega)).trans ((cell_set_ne (by omega)).trans ((cell_set_ne (by omega)).trans g3)))))))
  have u4 : U.cell? ⟨w.heap.size, 4, none⟩ = some (.slice none 0 0) := by rw [← hU]; exact ((cell_set_ne (by omega)).trans ((cell_set_ne (by omega)).trans (cell_set_eq ((cell_set_ne (by omega)).trans ((cell_set_ne (by omega)).trans ((cell_set_ne (by omega)).trans ((cell_set_ne (by omega)).trans g4)))))))
  have u5 : U.cell? ⟨w.heap.size, 5, none⟩ = some (.int .u64 1) := by rw [← hU]; exact ((cell_set_ne (by omega)).trans (cell_set_eq ((cell_set_ne (by omega)).trans ((cell_set_ne (by omega)).trans ((cell_set_ne (by omega)).trans ((cell_set_ne (by omega)).trans ((cell_set_ne (by omega)).trans g5)))))))
  have u6 : U.cell? ⟨w.heap.size, 6, none⟩ = some (.int .i64 (-1)) := by rw [← hU]; exact (cell_set_eq ((cell_set_ne (by omega)).trans ((cell_set_ne (by omega)).trans ((cell_set_ne (by omega)).trans ((cell_set_ne (by omega)).trans ((cell_set_ne (by omega)).trans ((cell_set_ne (by omega)).trans g6)))))))
  rw [hU] at HU HKU ⊢
  clear hU g0 g1 g2 g3 g4 g5 g6
  refine leavesM_marks (n₀ := w.heap.size + 1) _ U ⟨D, rfl, by omega, HKU.out, by simp, trivial⟩ ?_
  intro W' hb
  have c0 := (hb.cell (p := ⟨w.heap.size, 0, none⟩) (Nat.lt_succ_self _)).trans u0
  have c1 := (hb.cell (p := ⟨w.heap.size, 1, none⟩) (Nat.lt_succ_self _)).trans u1
  have c2 := (hb.cell (p := ⟨w.heap.size, 2, none⟩) (Nat.lt_succ_self _)).trans u2
  have c3 := (hb.cell (p := ⟨w.heap.size, 3, none⟩) (Nat.lt_succ_self _)).trans u3
  have c4 := (hb.cell (p := ⟨w.heap.size, 4, none⟩) (Nat.lt_succ_self _)).trans u4
  have c5 := (hb.cell (p := ⟨w.heap.size, 5, none⟩) (Nat.lt_succ_self _)).trans u5
  have c6 := (hb.cell (p := ⟨w.heap.size, 6, none⟩) (Nat.lt_succ_self _)).trans u6
  exact ⟨.agg #[.int .i64 bl, .int .i64 nm, .slice none 0 0, .slice none 0 0, .slice none 0 0, .int .u64 1, .int .i64 (-1)], by simp [results, Tryz.results18, go_sem, c0, c1, c2, c3, c4, c5, c6], rfl, HU.out.trans (hb.mono (by omega))⟩

end Go.Proofs.YtpnmnjelppnfoabGreat
