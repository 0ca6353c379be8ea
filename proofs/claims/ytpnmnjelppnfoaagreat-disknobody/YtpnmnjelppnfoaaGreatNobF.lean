import Derived.Test.YtpnmnjelppnfoaaGreatNobE
namespace Go.Proofs.YtpnmnjelppnfoaaGreat
open Go.RowKit

set_option maxHeartbeats 400000 in
theorem done_on (b : Nat) (w : World) (h : w.cell? ⟨b, 4, none⟩ = some (.int .i64 (-1))) : Calls Tryz.prog 45 #[.pointer (some ⟨b, 0, none⟩)] w fun e w' => e = .returned (.int .i64 0) ∧ w = w' := by
  go_enter Tryz.func45, Tryz.ntmps45
  go_wp2
  go_ret
  exact ⟨rfl, rfl⟩

set_option maxRecDepth 100000 in
set_option maxHeartbeats 400000 in
theorem create_a (b m : Nat) (w : World) (hd : Dk w b m) :
    Calls Tryz.prog 10 #[.pointer (some ⟨b, 0, none⟩), .string { data := #[97] }] w fun e w' => e = .returned (.int .i64 0) ∧ Below (min b m) w w' := by
  obtain ⟨W1, hW1⟩ : ∃ W1, w.alloc (Obj.cells #[Value.string { data := #[97] }] 9) = W1 := ⟨_, rfl⟩
  have hb1 : Below w.heap.size w W1 := hW1 ▸ (Below.refl _ _).alloc (Nat.le_refl _) _
  have hd1 := hd.below hb1 hd.bn hd.mn
  have hB : W1.cell? ⟨w.heap.size, 0, none⟩ = some (.string { data := #[97] }) := by rw [← hW1]; simp
  have hlk := run_lookup_empty W1 m 0 hd1.hm { data := #[97] }
  have k0 := hd1.c0; have k1 := hd1.c1; have k2 := hd1.c2; have k3 := hd1.c3; have k4 := hd1.c4; have k6 := hd1.c6
  have hln := fun (n : Nat) => run_len_map (P := Tryz.prog) (W1.drewN n) 27 3 m #[] 0 Tryz.underlying27 hd1.hm
  obtain ⟨i0, hi, hz0, hz1, hz2⟩ := info_parts info98
  go_enter Tryz.func10, Tryz.ntmps10
  go_wp2_with (go_at_call 41; go_loud (refine (refuse_a b m w.heap.size W1 hd1.c4 hd1.c6 hB).mono ?_); rintro e w' ⟨rfl, rfl⟩)
  go_quiet (fail)
  go_wp2
  go_quiet (fail)
  clear hlk hB k0 k1 k2 k4 k6 hln
  go_wp2_with (go_at_call 42; fail)
  refine (newFile_nil _ _).mono ?_
  rintro e W3 ⟨rfl, hb3, hp3, hs3⟩
  have hb3' := first_drewN hb3
  have hd3 := hd1.below hb3' hd1.bn hd1.mn
  have hp3' : W3.cell? ⟨W1.heap.size, 4, none⟩ = some (Value.int IntKind.i64 0) := hp3
  have hs3' : W1.heap.size < W3.heap.size := hs3
  clear k3 hb3 hp3 hs3
  have k3 := hd3.c3; have k5 := hd3.c5; have kf := hd3.fz
  go_wp2_with (at_builtin; go_loud (refine wpList_append_own _ rfl _ _ 25 rfl W3.heap.size 98 i0 (.pointer none) 1 8 Tryz.underlying25 hi hz0 hz1 hz2 rfl (by decide) _ 0 [] rfl (World.ownsRow_nil _ _ _ _) ⟨_, 0, none⟩ 1 1 [.pointer (some ⟨W1.heap.size, 0, none⟩)] rfl rfl (cell_one_at (by simp)) (by simp [Value.oneCell']) (by decide) (by decide) (by simp) ?_); intro v4 W4 hown4 hgrow4 _; have hb4 := below_of_grownBy hgrow4; have e4 := ((hd3.ek.set 3 (.int .u64 2) (by simp) (by simp) (by simp) (by simp)).next ((Below.refl _ _).alloc (Nat.le_refl _) _)).next hb4; obtain ⟨g4, cap4, rfl⟩ := ownsRow_succ hown4; obtain ⟨u5, k5'⟩ := e4.c5; have kf4 := e4.fz)
  have hfb : b ≠ W1.heap.size := Nat.ne_of_lt hd1.bn
  have hp4 : W4.cell? ⟨W1.heap.size, 4, none⟩ = some (.int .i64 0) := (hb4.cell (p := ⟨W1.heap.size, 4, none⟩) (by simp; omega)).trans ((Below.cell ((Below.refl _ _).alloc (Nat.le_refl _) _) (p := ⟨W1.heap.size, 4, none⟩) (by simpa using hs3')).trans ((cell_set_off hfb).trans hp3'))
  have e5 := e4.set 5 (.slice (some ⟨g4, 0, none⟩) 1 cap4) (by simp) (by simp) (by simp) (by simp)
  have hp5 : (W4.setCell ⟨b, 5, none⟩ (.slice (some ⟨g4, 0, none⟩) 1 cap4)).cell? ⟨W1.heap.size, 4, none⟩ = some (.int .i64 0) := (cell_set_off hfb).trans hp4
  have hn1 := hd.bn; have hn2 := hd.mn
  have hs1 : w.heap.size ≤ W1.heap.size := hb1.size
  have HB : Hid (Below (min b m) w (W4.setCell ⟨b, 5, none⟩ (.slice (some ⟨g4, 0, none⟩) 1 cap4))) :=
    ((((((hb1.mono (by omega)).trans (hb3'.mono (by omega))).setCell (p := ⟨b, 3, none⟩) (Nat.min_le_left _ _) _).alloc (by simp; omega) _).trans (hb4.mono (by simp; omega))).setCell (p := ⟨b, 5, none⟩) (Nat.min_le_left _ _) _)
  obtain ⟨W5, hW5⟩ : ∃ W5, W4.setCell ⟨b, 5, none⟩ (.slice (some ⟨g4, 0, none⟩) 1 cap4) = W5 := ⟨_, rfl⟩
  rw [hW5] at e5 hp5 HB ⊢
  clear k3 k5 kf k5' kf4 hp4 hp3'
  obtain ⟨u2, q2⟩ := e5.c2
  have qf := e5.fz
  go_region_with (go_at_call 43; refine (blocks_zero _ _ (by exact hp5)).mono ?_; rintro e w' ⟨rfl, rfl⟩)
  all_goals
    have HB6 := HB
    clear HB
    go_wp2_with (go_at_call 44; fail)
    have e6 := (e5.set 2 (.int .i64 (wrap64 (u2 + 1))) (fun _ => ⟨_, rfl⟩) (by simp) (by simp) (by simp)).next ((Below.refl _ _).drew)
    refine (turn_a b m _ _ e6).mono ?_
    rintro e W7 ⟨⟨v, rfl⟩, hb7, z4⟩
    have HB7 : Hid (Below (min b m) w W7) := ((HB6.out.setCell (p := ⟨b, 2, none⟩) (Nat.min_le_left _ _) _).drew).trans hb7
    clear HB6 hb7
    go_wp2_with (go_at_call 45; refine (done_on _ _ z4).mono ?_; rintro e w' ⟨rfl, rfl⟩)
    go_ret
    exact ⟨rfl, HB7.out⟩

end Go.Proofs.YtpnmnjelppnfoaaGreat
