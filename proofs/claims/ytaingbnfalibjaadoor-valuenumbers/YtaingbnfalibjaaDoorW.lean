import Derived.Test.YtaingbnfalibjaaDoorV
/-
  DERIVED. ParseNumber of a text that is not too long.
-/
namespace Go.Proofs.YtaingbnfalibjaaDoor
open Go Go.Proofs Go.RowKit NumLine

theorem nx_broken (s : ByteArray) (a : Nat) : nx s a true = 0 := by unfold nx; rw [if_pos (.inl rfl)]

/-- The reader and the row of what is to be told. -/
structure Pst (w W : World) (B : Nat) (f : Nat → Value) (s : ByteArray) (a : Nat) (b : Bool) : Prop where
  cur : Cur W (B + 1) f s a b
  row : W.rowIs B 24 3 zf
  bel : Below B w W
theorem Pst.step {w W W' : World} {B : Nat} {f f' : Nat → Value} {s : ByteArray} {a a' : Nat} {b b' : Bool} (h : Pst w W B f s a b) (hc : Cur W' (B + 1) f' s a' b') (hg : W.grownBy W' (some (B + 1))) : Pst w W' B f' s a' b' :=
  ⟨hc, h.row.of_block (hg.block B h.row.lt (by simp)), h.bel.grown hg (Nat.le_of_lt h.row.lt) (fun k hk => by cases hk; omega)⟩
theorem Pst.on {w W W' : World} {B : Nat} {f : Nat → Value} {s : ByteArray} {a : Nat} {b : Bool} (h : Pst w W B f s a b) (hb : Below W.heap.size W W') : Pst w W' B f s a b :=
  ⟨h.cur.on hb, h.row.of_block (hb.block B h.row.lt), h.bel.trans (hb.mono (Nat.le_of_lt h.row.lt))⟩
def cf (s : ByteArray) : Nat → Value
  | 0 => .string s
  | 1 => .int .i64 0
  | _ => .bool false
theorem Pst.start (w : World) (s : ByteArray) : Pst w ((w.alloc (.cells #[.bool false, .int .u64 0, .int .i64 0] 24)).alloc (.cells #[.string s, .int .i64 0, .bool false] 52)) w.heap.size (cf s) s 0 false := by
  refine ⟨⟨?_, rfl, rfl, rfl⟩, (zrow w).alloc _, ((Below.refl _ w).alloc (Nat.le_refl _) _).alloc (by simp) _⟩
  have h := World.rowIs_alloc (w.alloc (.cells #[.bool false, .int .u64 0, .int .i64 0] 24)) #[.string s, .int .i64 0, .bool false] 52 (cf s) (fun i hi => by
    have h3 : i = 0 ∨ i = 1 ∨ i = 2 := by simp at hi; omega
    rcases h3 with rfl | rfl | rfl <;> rfl)
  rw [World.size_alloc] at h
  exact h

theorem end_post (w W : World) (B : Nat) (f : Nat → Value) (s : ByteArray) (a : Nat) (b : Bool) (h : Pst w W B f s a b) : Calls Tryd.prog 21 #[.pointer (some ⟨B + 1, 0, none⟩)] W fun e W' => ∃ v o, e = .returned v ∧ PErr W' v o ∧ Pst w W' B f s a b ∧ ((b = false ∧ ¬ a < s.size) ∧ o = none ∨ ¬ (b = false ∧ ¬ a < s.size) ∧ ∃ x, o = some x) := by
  by_cases hh : b = false ∧ ¬ a < s.size
  · refine (end78_any W (B + 1) f s a b h.cur none (.inr ⟨hh, rfl⟩)).mono ?_
    rintro e W' ⟨v, rfl, hv, hb⟩
    exact ⟨v, none, rfl, hv, h.on hb, .inl ⟨hh, rfl⟩⟩
  · refine (end78_any W (B + 1) f s a b h.cur _ (.inl ⟨?_, rfl⟩)).mono ?_
    · cases b with
      | true => exact .inl rfl
      | false => exact .inr (Decidable.byContradiction fun hn => hh ⟨rfl, hn⟩)
    rintro e W' ⟨v, rfl, hv, hb⟩
    exact ⟨v, _, rfl, hv, h.on hb, .inr ⟨hh, _, rfl⟩⟩

/-- A sound end: what is told. -/
structure Sound (s : ByteArray) (X : Int) : Prop where
  ok : Ok s
  x : nX s = X

set_option maxRecDepth 100000 in
set_option maxHeartbeats 1000000 in
theorem parse_short (w : World) (s : ByteArray) (h : s.size ≤ 16) : Calls Tryd.prog 5 #[.string s] w (PostN w s) := by
  have hI : ¬ ((16 : Int) < (s.size : Int)) := by omega
  have P0 := Pst.start w s
  obtain ⟨B, hB⟩ : ∃ B, w.heap.size = B := ⟨_, rfl⟩
  rw [hB] at P0
  have t1 := take_sign _ (B + 1) _ s 0 P0.cur (Nat.zero_le _) (by omega)
  obtain ⟨sg, hsg⟩ : ∃ sg, tk s 0 43 45 = sg := ⟨_, rfl⟩
  rw [hsg] at t1
  have HP0 : Hid (Pst w _ B (cf s) s 0 false) := P0
  clear P0
  go_enter Tryd.func5, Tryd.ntmps5
  go_wp2_with (go_at_call 18; refine Stop.mk ?_)
  refine Stop.out (t1.mono ?_)
  rintro e W1 ⟨f1, rfl, hc1, hg1⟩
  have P1 : Hid (Pst w W1 B f1 s (n0 s) false) := HP0.out.step hc1 hg1
  have t2 := decimal_any W1 (B + 1) f1 s (n0 s) (n1 s) (n2 s) (n3 s) P1.out.cur (n0_le s) h rfl rfl rfl
  clear t1 hc1 hg1 HP0
  obtain ⟨ng, hng⟩ : ∃ ng : Bool, ((sg : Int) == 45) = ng := ⟨_, rfl⟩
  have hneg : nNeg s = ng := by
    rw [← hng]
    unfold nNeg
    rw [hsg]
    by_cases h45 : sg = 45
    · subst h45; rfl
    · rw [decide_eq_false h45]; symm; simp; omega
  go_wp2_with (go_at_call 19; refine Stop.mk ?_)
  refine Stop.out (t2.mono ?_)
  rintro e W2 ⟨f2, rfl, hc2, hg2⟩
  have P2 : Hid (Pst w W2 B f2 s (n2 s + n3 s) (nB s)) := P1.out.step hc2 hg2
  have t3 := take_E W2 (B + 1) f2 s (n2 s + n3 s) (nB s) P2.out.cur (n3_le s) (by omega) (fun hb => by rw [hb]; exact nx_broken _ _)
  clear t2 hc2 hg2 P1
  have hn3 : n3 s ≤ 16 := Nat.le_trans (Nat.le_trans (Nat.le_add_left _ _) (n3_le s)) h
  obtain ⟨U, hU⟩ : ∃ U, s.extract (n0 s) (n0 s + n1 s) ++ s.extract (n2 s) (n2 s + n3 s) = U := ⟨_, rfl⟩
  have hUD : nD s = U := hU
  rw [hU]
  clear hU
  have hUd : Digs U := hUD ▸ nD_digs s
  have hU18 : U.size ≤ 18 := by
    rw [← hUD, nD_size]
    have := n3_le s
    have := n01_2 s
    omega
  have hN := nD_lt s h
  rw [hUD] at hN
  obtain ⟨N, hUN⟩ : ∃ N, val U.data.toList = N := ⟨_, rfl⟩
  rw [hUN] at hN
  obtain ⟨m, hm⟩ : ∃ m, n3 s = m := ⟨_, rfl⟩
  rw [hm] at hn3 ⊢
  cases hb : nB s with
  | true =>
    rw [hb] at t3 P2
    rw [if_pos rfl, if_pos rfl] at t3
    have e1 : nEnd s = n2 s + n3 s := by unfold nEnd; rw [if_pos hb]
    have e2 : nBad s = true := by unfold nBad; rw [hb]; rfl
    have hX : nBad s = false → nX s = -(m : Int) := fun hh => by rw [e2] at hh; cases hh
    go_wp2_with (go_at_call 18; refine Stop.mk ?_)
    refine Stop.out (t3.mono ?_)
    rintro e W3 ⟨f3, rfl, hc3, hg3⟩
    have P3 : Hid (Pst w W3 B f3 s (nEnd s) (nBad s)) := by rw [e1, e2]; exact P2.out.step hc3 hg3
    clear t3 hc3 hg3 P2
    have te := end_post w W3 B f3 s (nEnd s) (nBad s) P3.out
    clear P3
    go_wp2_with (go_at_call 21; refine Stop.mk ?_)
    refine Stop.out (te.mono ?_)
    rintro e W5 ⟨v, o, rfl, hv, p5, hor⟩
    have P5 : Hid (Pst w W5 B f3 s (nEnd s) (nBad s)) := p5
    clear p5 te
    rcases hor with ⟨hok, rfl⟩ | ⟨hbad, x, rfl⟩
    · obtain rfl : v = .nilIface := hv
      have hxx := hX hok.1
      have c23 := worth_any W5 U hUd hU18
      rw [hUN] at c23
      go_wp2_with (go_at_call 23; refine Stop.mk ?_)
      refine Stop.out (c23.mono ?_)
      rintro e W6 ⟨rfl, hb6⟩
      have P6 : Hid (Pst w W6 B f3 s (nEnd s) (nBad s)) := P5.out.on hb6
      have c22 := exactly_any W6 ng N (-(m : Int)) (by omega) (by omega) (by omega)
      unfold nv at c22
      clear hb6 P5 c23
      go_wp2_with (go_at_call 22; refine Stop.mk ?_)
      refine Stop.out (c22.mono ?_)
      rintro e W7 ⟨⟨r, rfl, hr⟩, hb7⟩
      have P7 : Pst w W7 B f3 s (nEnd s) (nBad s) := P6.out.on hb7
      have HR : Hid (PN s r none) := .inl ⟨⟨h, hok.1, hok.2⟩, by rw [hneg, hUD, hUN, hxx]; exact hr, rfl⟩
      obtain ⟨k0, k1, k2, k3⟩ := put3_all P7.row (v := .nilIface) (o := none) rfl r
      have r0 : W7.cell? ⟨B, 0, none⟩ = some (.bool false) := P7.row.cell (i := 0) (by omega)
      have r1 : W7.cell? ⟨B, 1, none⟩ = some (.int .u64 0) := P7.row.cell (i := 1) (by omega)
      have r2 : W7.cell? ⟨B, 2, none⟩ = some (.int .i64 0) := P7.row.cell (i := 2) (by omega)
      have rf : ∀ i, W7.frozen? ⟨B, i, none⟩ = false := fun i => P7.row.frozen i
      have HB7 : Hid _ := put3_below P7.bel r
      clear k0 P7 P6 hb7 hr c22
      unfold put3 at *
      go_wp2
      refine bodyPost_ret (v := .tuple #[nv r, .nilIface]) (by simp [results, Tryd.results5, go_sem, nv, k1, k2, k3]) rfl ⟨.nilIface, r, none, rfl, rfl, HR.out, by rw [hB]; exact HB7.out⟩
    · have HR : Hid (PN s ⟨false, 0, 0⟩ (some x)) := .inr ⟨fun hh => hbad hh.2, rfl, x, rfl⟩
      have P7 := P5.out
      obtain ⟨k0, k1, k2, k3⟩ := put3_all P7.row hv ⟨false, 0, 0⟩
      have r0 : W5.cell? ⟨B, 0, none⟩ = some (.bool false) := P7.row.cell (i := 0) (by omega)
      have r1 : W5.cell? ⟨B, 1, none⟩ = some (.int .u64 0) := P7.row.cell (i := 1) (by omega)
      have r2 : W5.cell? ⟨B, 2, none⟩ = some (.int .i64 0) := P7.row.cell (i := 2) (by omega)
      have rf : ∀ i, W5.frozen? ⟨B, i, none⟩ = false := fun i => P7.row.frozen i
      have HB7 : Hid _ := put3_below P7.bel ⟨false, 0, 0⟩
      have HK : Hid (PErr _ v (some x)) := k0
      obtain ⟨g, rfl, hf⟩ := hv
      clear k0 P7 P5 hf
      unfold put3 at *
      dsimp only at *
      rw [show ((0 : Nat) : Int) = 0 from rfl] at *
      go_wp2
      refine bodyPost_ret (v := .tuple #[nv ⟨false, 0, 0⟩, .iface 77 (.pointer (some ⟨g, 0, none⟩))]) (by simp [results, Tryd.results5, go_sem, nv, k1, k2, k3]) rfl ⟨_, ⟨false, 0, 0⟩, some x, rfl, HK.out, HR.out, by rw [hB]; exact HB7.out⟩
  | false =>
    rw [hb] at t3 P2
    rw [if_neg (by decide), if_neg (by decide)] at t3
    cases hE : isE s with
    | false =>
      have e0 : tk s (n2 s + n3 s) 69 101 = 0 := by unfold isE at hE; simpa using hE
      rw [e0] at t3
      have e1 : nEnd s = n4 s := by unfold nEnd; rw [if_neg (by rw [hb]; decide), if_neg (by rw [hE]; decide)]
      have e2 : nBad s = false := by unfold nBad; rw [hb, hE]; rfl
      have hX : nBad s = false → nX s = -(m : Int) := fun _ => by unfold nX; rw [if_neg (by rw [hE]; decide), hm]
      go_wp2_with (go_at_call 18; refine Stop.mk ?_)
      refine Stop.out (t3.mono ?_)
      rintro e W3 ⟨f3, rfl, hc3, hg3⟩
      have P3 : Hid (Pst w W3 B f3 s (nEnd s) (nBad s)) := by rw [e1, e2]; exact P2.out.step hc3 hg3
      clear t3 hc3 hg3 P2
      have te := end_post w W3 B f3 s (nEnd s) (nBad s) P3.out
      clear P3
      go_wp2_with (go_at_call 21; refine Stop.mk ?_)
      refine Stop.out (te.mono ?_)
      rintro e W5 ⟨v, o, rfl, hv, p5, hor⟩
      have P5 : Hid (Pst w W5 B f3 s (nEnd s) (nBad s)) := p5
      clear p5 te
      rcases hor with ⟨hok, rfl⟩ | ⟨hbad, x, rfl⟩
      · obtain rfl : v = .nilIface := hv
        have hxx := hX hok.1
        have c23 := worth_any W5 U hUd hU18
        rw [hUN] at c23
        go_wp2_with (go_at_call 23; refine Stop.mk ?_)
        refine Stop.out (c23.mono ?_)
        rintro e W6 ⟨rfl, hb6⟩
        have P6 : Hid (Pst w W6 B f3 s (nEnd s) (nBad s)) := P5.out.on hb6
        have c22 := exactly_any W6 ng N (-(m : Int)) (by omega) (by omega) (by omega)
        unfold nv at c22
        clear hb6 P5 c23
        go_wp2_with (go_at_call 22; refine Stop.mk ?_)
        refine Stop.out (c22.mono ?_)
        rintro e W7 ⟨⟨r, rfl, hr⟩, hb7⟩
        have P7 : Pst w W7 B f3 s (nEnd s) (nBad s) := P6.out.on hb7
        have HR : Hid (PN s r none) := .inl ⟨⟨h, hok.1, hok.2⟩, by rw [hneg, hUD, hUN, hxx]; exact hr, rfl⟩
        obtain ⟨k0, k1, k2, k3⟩ := put3_all P7.row (v := .nilIface) (o := none) rfl r
        have r0 : W7.cell? ⟨B, 0, none⟩ = some (.bool false) := P7.row.cell (i := 0) (by omega)
        have r1 : W7.cell? ⟨B, 1, none⟩ = some (.int .u64 0) := P7.row.cell (i := 1) (by omega)
        have r2 : W7.cell? ⟨B, 2, none⟩ = some (.int .i64 0) := P7.row.cell (i := 2) (by omega)
        have rf : ∀ i, W7.frozen? ⟨B, i, none⟩ = false := fun i => P7.row.frozen i
        have HB7 : Hid _ := put3_below P7.bel r
        clear k0 P7 P6 hb7 hr c22
        unfold put3 at *
        go_wp2
        refine bodyPost_ret (v := .tuple #[nv r, .nilIface]) (by simp [results, Tryd.results5, go_sem, nv, k1, k2, k3]) rfl ⟨.nilIface, r, none, rfl, rfl, HR.out, by rw [hB]; exact HB7.out⟩
      · have HR : Hid (PN s ⟨false, 0, 0⟩ (some x)) := .inr ⟨fun hh => hbad hh.2, rfl, x, rfl⟩
        have P7 := P5.out
        obtain ⟨k0, k1, k2, k3⟩ := put3_all P7.row hv ⟨false, 0, 0⟩
        have r0 : W5.cell? ⟨B, 0, none⟩ = some (.bool false) := P7.row.cell (i := 0) (by omega)
        have r1 : W5.cell? ⟨B, 1, none⟩ = some (.int .u64 0) := P7.row.cell (i := 1) (by omega)
        have r2 : W5.cell? ⟨B, 2, none⟩ = some (.int .i64 0) := P7.row.cell (i := 2) (by omega)
        have rf : ∀ i, W5.frozen? ⟨B, i, none⟩ = false := fun i => P7.row.frozen i
        have HB7 : Hid _ := put3_below P7.bel ⟨false, 0, 0⟩
        have HK : Hid (PErr _ v (some x)) := k0
        obtain ⟨g, rfl, hf⟩ := hv
        clear k0 P7 P5 hf
        unfold put3 at *
        dsimp only at *
        rw [show ((0 : Nat) : Int) = 0 from rfl] at *
        go_wp2
        refine bodyPost_ret (v := .tuple #[nv ⟨false, 0, 0⟩, .iface 77 (.pointer (some ⟨g, 0, none⟩))]) (by simp [results, Tryd.results5, go_sem, nv, k1, k2, k3]) rfl ⟨_, ⟨false, 0, 0⟩, some x, rfl, HK.out, HR.out, by rw [hB]; exact HB7.out⟩
    | true =>
      have e0 : tk s (n2 s + n3 s) 69 101 ≠ 0 := by unfold isE at hE; simpa using hE
      obtain ⟨y, hy⟩ : ∃ y, tk s (n2 s + n3 s) 69 101 = y := ⟨_, rfl⟩
      rw [hy] at t3 e0
      have hyI : ((y : Int) != 0) = true := by simp; omega
      have e1 : nEnd s = n5 s + n6 s := by unfold nEnd; rw [if_neg (by rw [hb]; decide), if_pos hE]
      have e2 : nBad s = decide (n6 s < 1) := by unfold nBad; rw [hb, hE]; simp
      obtain ⟨x0, hx0⟩ : ∃ x0, whV s (n4 s) = x0 := ⟨_, rfl⟩
      have hx1 := whV_lt s h (n4 s)
      rw [hx0] at hx1
      obtain ⟨hx1, hx2⟩ := hx1
      have hX : nBad s = false → nX s = -(m : Int) + x0 := fun _ => by unfold nX; rw [if_pos hE, hm, hx0]
      go_wp2_with (go_at_call 18; refine Stop.mk ?_)
      refine Stop.out (t3.mono ?_)
      rintro e W3 ⟨f3, rfl, hc3, hg3⟩
      have P3 : Hid (Pst w W3 B f3 s (n4 s) false) := P2.out.step hc3 hg3
      have t4 := whole_any W3 (B + 1) f3 s (n4 s) (n5 s) (n6 s) P3.out.cur (n4_le s) h rfl rfl
      rw [hx0] at t4
      clear t3 hc3 hg3 P2
      go_wp2_with (go_at_call 20; refine Stop.mk ?_)
      refine Stop.out (t4.mono ?_)
      rintro e W4 ⟨f4, rfl, hc4, hg4⟩
      have P4 : Hid (Pst w W4 B f4 s (nEnd s) (nBad s)) := by rw [e1, e2]; exact P3.out.step hc4 hg4
      clear t4 hc4 hg4 P3
      have te := end_post w W4 B f4 s (nEnd s) (nBad s) P4.out
      clear P4
      go_wp2_with (go_at_call 21; refine Stop.mk ?_)
      refine Stop.out (te.mono ?_)
      rintro e W5 ⟨v, o, rfl, hv, p5, hor⟩
      have P5 : Hid (Pst w W5 B f4 s (nEnd s) (nBad s)) := p5
      clear p5 te
      rcases hor with ⟨hok, rfl⟩ | ⟨hbad, x, rfl⟩
      · obtain rfl : v = .nilIface := hv
        have hxx := hX hok.1
        have c23 := worth_any W5 U hUd hU18
        rw [hUN] at c23
        go_wp2_with (go_at_call 23; refine Stop.mk ?_)
        refine Stop.out (c23.mono ?_)
        rintro e W6 ⟨rfl, hb6⟩
        have P6 : Hid (Pst w W6 B f4 s (nEnd s) (nBad s)) := P5.out.on hb6
        have c22 := exactly_any W6 ng N (-(m : Int) + x0) (by omega) (by omega) (by omega)
        unfold nv at c22
        clear hb6 P5 c23
        go_wp2_with (go_at_call 22; refine Stop.mk ?_)
        refine Stop.out (c22.mono ?_)
        rintro e W7 ⟨⟨r, rfl, hr⟩, hb7⟩
        have P7 : Pst w W7 B f4 s (nEnd s) (nBad s) := P6.out.on hb7
        have HR : Hid (PN s r none) := .inl ⟨⟨h, hok.1, hok.2⟩, by rw [hneg, hUD, hUN, hxx]; exact hr, rfl⟩
        obtain ⟨k0, k1, k2, k3⟩ := put3_all P7.row (v := .nilIface) (o := none) rfl r
        have r0 : W7.cell? ⟨B, 0, none⟩ = some (.bool false) := P7.row.cell (i := 0) (by omega)
        have r1 : W7.cell? ⟨B, 1, none⟩ = some (.int .u64 0) := P7.row.cell (i := 1) (by omega)
        have r2 : W7.cell? ⟨B, 2, none⟩ = some (.int .i64 0) := P7.row.cell (i := 2) (by omega)
        have rf : ∀ i, W7.frozen? ⟨B, i, none⟩ = false := fun i => P7.row.frozen i
        have HB7 : Hid _ := put3_below P7.bel r
        clear k0 P7 P6 hb7 hr c22
        unfold put3 at *
        go_wp2
        refine bodyPost_ret (v := .tuple #[nv r, .nilIface]) (by simp [results, Tryd.results5, go_sem, nv, k1, k2, k3]) rfl ⟨.nilIface, r, none, rfl, rfl, HR.out, by rw [hB]; exact HB7.out⟩
      · have HR : Hid (PN s ⟨false, 0, 0⟩ (some x)) := .inr ⟨fun hh => hbad hh.2, rfl, x, rfl⟩
        have P7 := P5.out
        obtain ⟨k0, k1, k2, k3⟩ := put3_all P7.row hv ⟨false, 0, 0⟩
        have r0 : W5.cell? ⟨B, 0, none⟩ = some (.bool false) := P7.row.cell (i := 0) (by omega)
        have r1 : W5.cell? ⟨B, 1, none⟩ = some (.int .u64 0) := P7.row.cell (i := 1) (by omega)
        have r2 : W5.cell? ⟨B, 2, none⟩ = some (.int .i64 0) := P7.row.cell (i := 2) (by omega)
        have rf : ∀ i, W5.frozen? ⟨B, i, none⟩ = false := fun i => P7.row.frozen i
        have HB7 : Hid _ := put3_below P7.bel ⟨false, 0, 0⟩
        have HK : Hid (PErr _ v (some x)) := k0
        obtain ⟨g, rfl, hf⟩ := hv
        clear k0 P7 P5 hf
        unfold put3 at *
        dsimp only at *
        rw [show ((0 : Nat) : Int) = 0 from rfl] at *
        go_wp2
        refine bodyPost_ret (v := .tuple #[nv ⟨false, 0, 0⟩, .iface 77 (.pointer (some ⟨g, 0, none⟩))]) (by simp [results, Tryd.results5, go_sem, nv, k1, k2, k3]) rfl ⟨_, ⟨false, 0, 0⟩, some x, rfl, HK.out, HR.out, by rw [hB]; exact HB7.out⟩

theorem parse_any (w : World) (s : ByteArray) : Calls Tryd.prog 5 #[.string s] w (PostN w s) := by
  by_cases h : s.size ≤ 16
  · exact parse_short w s h
  · exact parse_long w s h
end Go.Proofs.YtaingbnfalibjaaDoor
