import Derived.Test.YtpnmnjelppnfoabGreatBegI
namespace Go.Proofs.YtpnmnjelppnfoabGreat
open Go.RowKit Go.Shelf

set_option maxRecDepth 100000 in
set_option maxHeartbeats 1000000 in
theorem begins_bad (bl nm at' : Int) (w : World) (h : Bad bl nm at') : Calls Tryz.prog 5 #[.agg #[.int .i64 bl, .int .i64 nm]] w fun e w' => e = .returned (.bool true) ∧ Below w.heap.size w w' := by
  have hnew := fun W => new_bad bl nm at' W h
  have href := fun W => refNew_bad bl nm at' W h
  clear h
  obtain ⟨W1, hW1⟩ : ∃ W1, w.alloc (.cells #[.int .i64 bl, .int .i64 nm] 23) = W1 := ⟨_, rfl⟩
  have hb1 : Below w.heap.size w W1 := hW1 ▸ (Below.refl _ _).alloc (Nat.le_refl _) _
  have hs1 : w.heap.size < W1.heap.size := by rw [← hW1]; simp
  have c0 : W1.cell? ⟨w.heap.size, 0, none⟩ = some (.int .i64 bl) := by rw [← hW1]; simp
  have c1 : W1.cell? ⟨w.heap.size, 1, none⟩ = some (.int .i64 nm) := by rw [← hW1]; simp
  go_enter Tryz.func5, Tryz.ntmps5
  go_wp2_with (go_at_call 23; fail)
  refine (hnew _).mono ?_
  rintro e W2 ⟨q, rfl, hb2, he⟩
  have d0 := (hb2.cell (p := ⟨w.heap.size, 0, none⟩) hs1).trans c0
  have d1 := (hb2.cell (p := ⟨w.heap.size, 1, none⟩) hs1).trans c1
  go_wp2_with (go_at_call 24; fail)
  refine (href _).mono ?_
  rintro e W3 ⟨g, rfl, hb3, g0, g1⟩
  have HE : Hid (Err W3 q at') := ⟨(hb3.cell (p := ⟨q, 0, none⟩) (cell_lt he.1)).trans he.1, (hb3.cell (p := ⟨q, 1, none⟩) (cell_lt he.2.1)).trans he.2.1, (hb3.cell (p := ⟨q, 2, none⟩) (cell_lt he.2.2)).trans he.2.2⟩
  clear hnew href he d0 d1 c0 c1
  have hb13 : Below w.heap.size w W3 := (hb1.trans (hb2.mono hb1.size)).trans (hb3.mono (Nat.le_trans hb1.size hb2.size))
  go_wp2_with (go_at_call 25; fail)
  have hb4 : Below W3.heap.size W3 (W3.alloc (.cells #[.slice (some ⟨g, 0, none⟩) 1 1, .int .i64 20] 62)) := (Below.refl _ _).alloc (Nat.le_refl _) _
  obtain ⟨e0, e1, e2⟩ := HE.out
  refine (is_one q g 1 at' _ ((hb4.cell (p := ⟨q, 0, none⟩) (cell_lt e0)).trans e0) ((hb4.cell (p := ⟨q, 1, none⟩) (cell_lt e1)).trans e1) ((hb4.cell (p := ⟨q, 2, none⟩) (cell_lt e2)).trans e2) ((hb4.cell (p := ⟨g, 0, none⟩) (cell_lt g0)).trans g0) ((hb4.cell (p := ⟨g, 1, none⟩) (cell_lt g1)).trans g1)).mono ?_
  rintro e W5 ⟨rfl, hb5⟩
  have HF : Hid (Below w.heap.size w W5) := (hb13.trans (hb4.mono hb13.size)).trans (hb5.mono (Nat.le_trans hb13.size hb4.size))
  clear e0 e1 e2 g0 g1
  go_wp2
  go_ret
  exact ⟨rfl, HF.out⟩

set_option maxRecDepth 100000 in
set_option maxHeartbeats 1000000 in
theorem begins_ok (bl nm : Int) (w : World) (h1 : ¬ bl < 1) (h2 : ¬ 65536 < bl) (h3 : ¬ nm < 1) (h4 : ¬ 64 < nm) : Calls Tryz.prog 5 #[.agg #[.int .i64 bl, .int .i64 nm]] w fun e w' => e = .returned (.bool true) ∧ Below w.heap.size w w' := by
  have hnew := fun W => new_ok bl nm W h1 h2 h3 h4
  have href := fun W => refNew_ok bl nm W h1 h2 h3 h4
  clear h1 h2 h3 h4
  obtain ⟨W1, hW1⟩ : ∃ W1, w.alloc (.cells #[.int .i64 bl, .int .i64 nm] 23) = W1 := ⟨_, rfl⟩
  have hb1 : Below w.heap.size w W1 := hW1 ▸ (Below.refl _ _).alloc (Nat.le_refl _) _
  have hs1 : w.heap.size < W1.heap.size := by rw [← hW1]; simp
  have c0 : W1.cell? ⟨w.heap.size, 0, none⟩ = some (.int .i64 bl) := by rw [← hW1]; simp
  have c1 : W1.cell? ⟨w.heap.size, 1, none⟩ = some (.int .i64 nm) := by rw [← hW1]; simp
  go_enter Tryz.func5, Tryz.ntmps5
  go_wp2_with (go_at_call 23; fail)
  refine (hnew _).mono ?_
  rintro e W2 ⟨b, rfl, hb2, _, m, m2, hbk⟩
  have d0 := (hb2.cell (p := ⟨w.heap.size, 0, none⟩) hs1).trans c0
  have d1 := (hb2.cell (p := ⟨w.heap.size, 1, none⟩) hs1).trans c1
  go_wp2_with (go_at_call 24; fail)
  refine (href _).mono ?_
  rintro e W3 ⟨k, rfl, hb3, hkk⟩
  have hbk3 := hbk.next hb3
  clear hnew href d0 d1 c0 c1
  have hb13 : Below w.heap.size w W3 := (hb1.trans (hb2.mono hb1.size)).trans (hb3.mono (Nat.le_trans hb1.size hb2.size))
  go_wp2_with (go_at_call 25; fail)
  have hb4 : Below W3.heap.size W3 (W3.alloc (.cells #[.slice none 0 0, .int .i64 0] 62)) := (Below.refl _ _).alloc (Nat.le_refl _) _
  refine (is_nil _).mono ?_
  rintro e W5 ⟨rfl, hb5⟩
  have hb15 : Below w.heap.size w W5 := (hb13.trans (hb4.mono hb13.size)).trans (hb5.mono (Nat.le_trans hb13.size hb4.size))
  have bk5 := (hbk3.next hb4).next hb5
  have kk5 := (hkk.next hb4).next hb5
  go_wp2_with (go_at_call 11; fail)
  refine (like_blank b m m2 k bl nm W5 bk5 kk5).mono ?_
  rintro e W6 ⟨rfl, hb6⟩
  have bk6 := bk5.next hb6
  have kk6 := kk5.next hb6
  go_wp2_with (go_at_call 12; refine (used_zero _ _ _ bk6.c2 bk6.c6).mono ?_; rintro e w' ⟨rfl, rfl⟩)
  refine (lists_blank b m m2 k bl nm W6 bk6 kk6).mono ?_
  rintro e W7 ⟨rfl, hb7⟩
  have HF : Hid (Below w.heap.size w W7) := (hb15.trans (hb6.mono hb15.size)).trans (hb7.mono (Nat.le_trans hb15.size hb6.size))
  go_wp2
  go_ret
  exact ⟨rfl, HF.out⟩

theorem begins_walk (bl nm : Int) (w : World) : Calls Tryz.prog 5 #[.agg #[.int .i64 bl, .int .i64 nm]] w fun e w' => e = .returned (.bool true) ∧ Below w.heap.size w w' := by
  by_cases h1 : bl < 1
  · exact begins_bad bl nm 0 w (.inl ⟨.inl h1, rfl⟩)
  by_cases h2 : 65536 < bl
  · exact begins_bad bl nm 0 w (.inl ⟨.inr h2, rfl⟩)
  by_cases h3 : nm < 1
  · exact begins_bad bl nm 1 w (.inr ⟨⟨by omega, by omega⟩, .inl h3, rfl⟩)
  by_cases h4 : 64 < nm
  · exact begins_bad bl nm 1 w (.inr ⟨⟨by omega, by omega⟩, .inr h4, rfl⟩)
  exact begins_ok bl nm w h1 h2 h3 h4

end Go.Proofs.YtpnmnjelppnfoabGreat
