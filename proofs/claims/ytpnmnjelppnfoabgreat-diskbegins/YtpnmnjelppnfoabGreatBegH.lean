import Derived.Test.YtpnmnjelppnfoabGreatBegG
namespace Go.Proofs.YtpnmnjelppnfoabGreat
open Go.RowKit Go.Shelf
attribute [local go_sem] Oper.semAt_some

set_option maxRecDepth 100000 in
set_option maxHeartbeats 1000000 in
theorem like_blank (b m m2 k : Nat) (bl nm : Int) (w : World) (h : Bk w b m m2 bl nm) (hk : Kk w k bl nm) : Calls Tryz.prog 11 #[.pointer (some ⟨b, 0, none⟩), .pointer (some ⟨k, 0, none⟩)] w fun e w' => e = .returned (.bool true) ∧ Below w.heap.size w w' := by
  go_enter Tryz.func11, Tryz.ntmps11
  go_wp2_with (go_at_call 18; refine (image_blank _ _ _ _ _ _ h).mono ?_; rintro e V1 ⟨rfl, hb1⟩)
  obtain ⟨V2, hV2⟩ : ∃ V2, V1.alloc (.cells #[.int .i64 bl, .int .i64 nm, .slice none 0 0, .slice none 0 0, .slice none 0 0, .int .u64 1, .int .i64 (-1)] 29) = V2 := ⟨_, rfl⟩
  have hb2 : Below V1.heap.size V1 V2 := hV2 ▸ (Below.refl _ _).alloc (Nat.le_refl _) _
  have hs2 : V1.heap.size < V2.heap.size := by rw [← hV2]; simp
  have kk2 := (hk.next hb1).next hb2
  have n0 : V2.cell? ⟨V1.heap.size, 0, none⟩ = some (.int .i64 bl) := by rw [← hV2]; simp
  have n1 : V2.cell? ⟨V1.heap.size, 1, none⟩ = some (.int .i64 nm) := by rw [← hV2]; simp
  have n2 : V2.cell? ⟨V1.heap.size, 2, none⟩ = some (.slice none 0 0) := by rw [← hV2]; simp
  have n3 : V2.cell? ⟨V1.heap.size, 3, none⟩ = some (.slice none 0 0) := by rw [← hV2]; simp
  have n4 : V2.cell? ⟨V1.heap.size, 4, none⟩ = some (.slice none 0 0) := by rw [← hV2]; simp
  have n5 : V2.cell? ⟨V1.heap.size, 5, none⟩ = some (.int .u64 1) := by rw [← hV2]; simp
  have n6 : V2.cell? ⟨V1.heap.size, 6, none⟩ = some (.int .i64 (-1)) := by rw [← hV2]; simp
  have k0 := kk2.c0; have k1 := kk2.c1; have k2 := kk2.c2; have k3 := kk2.c3; have k4 := kk2.c4; have k5 := kk2.c5; have k6 := kk2.c6
  have hkn := kk2.kn
  rw [hV2]
  clear hV2
  go_region_with (first | (go_at_call 21; refine (same_blank bl nm _).mono ?_; rintro e W3 ⟨rfl, hb3⟩; have o0 := (hb3.cell (p := ⟨V1.heap.size, 0, none⟩) (by simp; omega)).trans (by exact n0); have o1 := (hb3.cell (p := ⟨V1.heap.size, 1, none⟩) (by simp; omega)).trans (by exact n1); have o2 := (hb3.cell (p := ⟨V1.heap.size, 2, none⟩) (by simp; omega)).trans (by exact n2); have o3 := (hb3.cell (p := ⟨V1.heap.size, 3, none⟩) (by simp; omega)).trans (by exact n3); have o4 := (hb3.cell (p := ⟨V1.heap.size, 4, none⟩) (by simp; omega)).trans (by exact n4); have o5 := (hb3.cell (p := ⟨V1.heap.size, 5, none⟩) (by simp; omega)).trans (by exact n5); have o6 := (hb3.cell (p := ⟨V1.heap.size, 6, none⟩) (by simp; omega)).trans (by exact n6)) | (go_at_call 31; refine (spoil_nil bl nm _).mono ?_; rintro e W4 ⟨rfl, hb4⟩))
  all_goals
    have hbf : Below w.heap.size w W4 := ((hb1.trans (hb2.mono hb1.size)).drew.trans (hb3.mono (by simp; have := hb1.size; omega))).trans (hb4.mono (by have := hb1.size; have := hb3.size; simp at this; omega))
    have HF : Hid (Below w.heap.size w W4) := hbf
    clear hbf
    go_wp2
    go_ret
    exact ⟨rfl, HF.out⟩

set_option maxHeartbeats 400000 in
theorem refuse_ok (b m : Nat) (w : World) (h4 : w.cell? ⟨b, 4, none⟩ = some (.int .i64 (-1))) (h6 : w.cell? ⟨b, 6, none⟩ = some (.map (some m))) : Calls Tryz.prog 35 #[.pointer (some ⟨b, 0, none⟩), .slice none 0 0] w fun e w' => e = .returned (.int .i64 0) ∧ w = w' := by
  go_enter Tryz.func35, Tryz.ntmps35
  go_wp2_with (go_at_call 32; refine (made_yes _ _ _ h6).mono ?_; rintro e w' ⟨rfl, rfl⟩)
  refine wp_loop_rounds 1 ?_
  rw [rounds_succ]
  go_wp2
  go_ret
  exact ⟨rfl, rfl⟩

set_option maxRecDepth 100000 in
set_option maxHeartbeats 400000 in
theorem sizes_empty (b m m2 : Nat) (bl nm : Int) (w : World) (h : Bk w b m m2 bl nm) : Calls Tryz.prog 119 #[.pointer (some ⟨b, 0, none⟩)] w fun e w' => e = .returned (.map (some w.heap.size)) ∧ Below w.heap.size w w' ∧ w'.heap[w.heap.size]? = some (.map #[] 0) := by
  have hmm := run_makeMap (P := Tryz.prog) 187 w
  obtain ⟨W1, hW1⟩ : ∃ W1, w.alloc (.map #[] 0) = W1 := ⟨_, rfl⟩
  have hb1 : Below w.heap.size w W1 := hW1 ▸ (Below.refl _ _).alloc (Nat.le_refl _) _
  have hs1 : w.heap.size < W1.heap.size := by rw [← hW1]; simp
  have hn1 : W1.heap[w.heap.size]? = some (.map #[] 0) := by rw [← hW1]; exact World.alloc_heap_new _ _
  have h1 := h.next hb1
  have hr := run_range_map (P := Tryz.prog) W1 81 9 89 m #[] 0 Tryz.underlying81 h1.hm
  have hx := fun (ty : TypeId) => run_next_empty W1 ty m h1.hm
  have k6 := h1.c6
  have HN : Hid (W1.heap[w.heap.size]? = some (.map #[] 0)) := hn1
  rw [hW1] at hmm
  clear hn1
  go_enter Tryz.func119, Tryz.ntmps119
  go_wp2_with (go_at_call 35; refine (refuse_ok _ _ _ h.c4 h.c6).mono ?_; rintro e w' ⟨rfl, rfl⟩)
  refine wp_loop_rounds 1 ?_
  rw [rounds_succ]
  go_wp2
  go_ret
  exact ⟨rfl, hb1.alloc (by omega) _, (Below.heap_alloc _ _ _ hs1).trans HN.out⟩

set_option maxHeartbeats 400000 in
theorem list_any (p : Option Addr) (w : World) : Calls Tryz.prog 62 #[.pointer p] w fun e w' => e = .returned (.func (.func 117) #[] #[.pointer (some ⟨w.heap.size, 0, none⟩)]) ∧ w.alloc (.cells #[.pointer p] 31) = w' := by
  go_enter Tryz.func62, Tryz.ntmps62
  go_wp2
  go_ret
  exact ⟨rfl, rfl⟩

set_option maxHeartbeats 400000 in
theorem list1_blank (l B b m m2 : Nat) (bl nm : Int) (w : World) (hB : w.cell? ⟨B, 0, none⟩ = some (.pointer (some ⟨b, 0, none⟩))) (h : Bk w b m m2 bl nm) : Calls Tryz.prog 117 #[.func (.yield l) #[] #[], .pointer (some ⟨B, 0, none⟩)] w fun e w' => (∃ v, e = .returned v) ∧ Below w.heap.size w w' := by
  go_enter Tryz.func117, Tryz.ntmps117
  go_wp2_with (go_at_call 119; refine (sizes_empty _ _ _ _ _ _ h).mono ?_; rintro e W1 ⟨rfl, hb1, hm1⟩)
  have hs1 : w.heap.size < W1.heap.size := (Array.getElem?_eq_some_iff.1 hm1).1
  have hba : Below W1.heap.size W1 (W1.alloc (.cells #[.map (some w.heap.size)] 187)) := (Below.refl _ _).alloc (Nat.le_refl _) _
  have hr := risingI1_empty l W1.heap.size w.heap.size (W1.alloc (.cells #[.map (some w.heap.size)] 187)) (by simp) ((hba.block _ hs1).trans hm1)
  clear hm1
  go_wp2_with (first | (go_at_call 118; refine (risingI_any _ _).mono ?_; rintro e W2 ⟨rfl, rfl⟩) | (go_at_call 145; refine hr.mono ?_; rintro e W2 ⟨⟨v, rfl⟩, hb2⟩))
  refine bodyPost_end (results_none rfl _ _ _) rfl ?_
  exact ⟨⟨_, rfl⟩, (hb1.trans (hba.mono hb1.size)).trans (hb2.mono (by simp; omega))⟩

theorem enters117 : ∀ args w, (callFunc 117 args).run Tryz.prog w = .ok (.enter 117 args) w := enters_of Tryz.func117 (by kernel_rfl) rfl

set_option maxRecDepth 100000 in
set_option maxHeartbeats 400000 in
theorem dir_nil (bl nm : Int) (w : World) : Calls Tryz.prog 94 #[.agg #[.int .i64 bl, .int .i64 nm, .slice none 0 0, .slice none 0 0, .slice none 0 0, .int .u64 1, .int .i64 (-1)], .int .i64 0] w fun e w' => e = .returned (.slice none 0 0) ∧ Below w.heap.size w w' := by
  go_enter Tryz.func94, Tryz.ntmps94
  go_wp2
  refine wp_loop_rounds 1 ?_
  rw [rounds_succ]
  go_wp2
  refine wp_loop_rounds 1 ?_
  rw [rounds_succ]
  go_wp2
  go_ret
  exact ⟨rfl, (Below.refl _ _).alloc (Nat.le_refl _) _⟩

set_option maxRecDepth 100000 in
set_option maxHeartbeats 800000 in
theorem now_nil (k : Nat) (bl nm : Int) (w : World) (h : Kk w k bl nm) : Calls Tryz.prog 122 #[.pointer (some ⟨k, 0, none⟩)] w fun e w' => e = .returned (.slice none 0 0) ∧ Below w.heap.size w w' := by
  have k0 := h.c0; have k1 := h.c1; have k2 := h.c2; have k3 := h.c3; have k4 := h.c4; have k5 := h.c5; have k6 := h.c6
  go_enter Tryz.func122, Tryz.ntmps122
  go_wp2
  go_region_with (go_at_call 94; refine (dir_nil bl nm _).mono ?_; rintro e W3 ⟨rfl, hb3⟩)
  all_goals go_wp2
  all_goals go_ret
  all_goals exact ⟨rfl, (Below.refl _ _).drew.trans hb3⟩

set_option maxRecDepth 100000 in
set_option maxHeartbeats 800000 in
theorem refList_nil (k : Nat) (bl nm : Int) (w : World) (h : Kk w k bl nm) : Calls Tryz.prog 72 #[.pointer (some ⟨k, 0, none⟩)] w fun e w' => e = .returned (.slice none 0 0) ∧ Below w.heap.size w w' := by
  have k6 := h.c6
  go_enter Tryz.func72, Tryz.ntmps72
  go_wp2_with (go_at_call 122; refine (now_nil _ _ _ _ h).mono ?_; rintro e W3 ⟨rfl, hb3⟩)
  refine wp_loop_rounds 1 ?_
  rw [rounds_succ]
  go_wp2
  go_ret
  exact ⟨rfl, hb3⟩

end Go.Proofs.YtpnmnjelppnfoabGreat
