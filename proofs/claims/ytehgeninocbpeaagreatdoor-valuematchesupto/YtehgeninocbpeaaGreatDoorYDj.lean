import Derived.Test.YtehgeninocbpeaaGreatDoorYW
namespace Go.Proofs.YtehgeninocbpeaaGreatDoor.Nu
open Go Go.Proofs Go.RowKit NumLine
def erN (s : ByteArray) : Int × Int := if s.size ≤ 16 then ((nEnd s : Nat), 100) else (16, 103)
def PM (s : ByteArray) (r : Nm) (o : Option (Int × Int)) : Prop :=
  (Ok s ∧ Ex (nNeg s) (val (nD s).data.toList) (nX s) r ∧ o = none) ∨ (¬ Ok s ∧ r = ⟨false, 0, 0⟩ ∧ o = some (erN s))
def PostM (w : World) (s : ByteArray) (e : Ending) (w' : World) : Prop := ∃ v r o, e = .returned (.tuple #[nv r, v]) ∧ PErr w' v o ∧ PM s r o ∧ Below w.heap.size w w'
set_option maxRecDepth 100000 in
theorem parsem_long (w : World) (s : ByteArray) (h : ¬ s.size ≤ 16) : Calls Tryz.prog 44 #[.string s] w (PostM w s) := by
  have c17 := fun W => refusal_any 16 103 W
  have hI : ¬ ((s.size : Int) ≤ 16) := by omega
  go_enter Tryz.func44, Tryz.ntmps44
  go_wp2_with (go_at_call 46; refine Stop.mk ?_)
  refine Stop.out ((c17 _).mono ?_)
  rintro e W1 ⟨v, rfl, hv, hb1⟩
  have R1 := (zrow w).of_block (hb1.block _ (by simp))
  have HB1 : Hid (Below w.heap.size w W1) := ((Below.refl _ w).alloc (Nat.le_refl _) _).trans (hb1.mono (by simp))
  obtain ⟨k0, k1, k2, k3⟩ := put3_all R1 hv ⟨false, 0, 0⟩
  have r0 : W1.cell? ⟨w.heap.size, 0, none⟩ = some (.bool false) := R1.cell (i := 0) (by omega)
  have r1 : W1.cell? ⟨w.heap.size, 1, none⟩ = some (.int .u64 0) := R1.cell (i := 1) (by omega)
  have r2 : W1.cell? ⟨w.heap.size, 2, none⟩ = some (.int .i64 0) := R1.cell (i := 2) (by omega)
  have rf : ∀ i, W1.frozen? ⟨w.heap.size, i, none⟩ = false := fun i => R1.frozen i
  have HK : Hid (PErr _ v (some (16, 103))) := k0
  clear hv hb1 k0 R1 c17
  have HB2 : Hid _ := put3_below HB1.out ⟨false, 0, 0⟩
  unfold put3 at *
  dsimp only at *
  rw [show ((0 : Nat) : Int) = 0 from rfl] at *
  go_wp2
  refine bodyPost_ret (v := .tuple #[nv ⟨false, 0, 0⟩, v]) (by simp [results, Tryz.results44, go_sem, nv, k1, k2, k3]) rfl ⟨v, ⟨false, 0, 0⟩, _, rfl, HK.out, .inr ⟨fun hh => h hh.1, rfl, by unfold erN; rw [if_neg h]⟩, HB2.out⟩
theorem end_postm (w W : World) (B : Nat) (f : Nat → Value) (s : ByteArray) (a : Nat) (b : Bool) (h : Pst w W B f s a b) : Calls Tryz.prog 70 #[.pointer (some ⟨B + 1, 0, none⟩)] W fun e W' => ∃ v o, e = .returned v ∧ PErr W' v o ∧ Pst w W' B f s a b ∧ ((b = false ∧ ¬ a < s.size) ∧ o = none ∨ ¬ (b = false ∧ ¬ a < s.size) ∧ ∃ x, o = some x ∧ Hid (x = ((a : Int), 100))) := by
  by_cases hh : b = false ∧ ¬ a < s.size
  · refine (end78_any W (B + 1) f s a b h.cur none (.inr ⟨hh, rfl⟩)).mono ?_
    rintro e W' ⟨v, rfl, hv, hb⟩
    exact ⟨v, none, rfl, hv, h.on hb, .inl ⟨hh, rfl⟩⟩
  · refine (end78_any W (B + 1) f s a b h.cur _ (.inl ⟨?_, rfl⟩)).mono ?_
    · cases b with
      | true => exact .inl rfl
      | false => exact .inr (Decidable.byContradiction fun hn => hh ⟨rfl, hn⟩)
    rintro e W' ⟨v, rfl, hv, hb⟩
    exact ⟨v, _, rfl, hv, h.on hb, .inr ⟨hh, _, rfl, rfl⟩⟩
set_option maxRecDepth 100000 in
set_option maxHeartbeats 1000000 in
theorem parsem_short (w : World) (s : ByteArray) (h : s.size ≤ 16) : Calls Tryz.prog 44 #[.string s] w (PostM w s) := by
  have hI : ¬ ((16 : Int) < (s.size : Int)) := by omega
  have P0 := Pst.start w s
  obtain ⟨B, hB⟩ : ∃ B, w.heap.size = B := ⟨_, rfl⟩
  rw [hB] at P0
  have t1 := take_sign _ (B + 1) _ s 0 P0.cur (Nat.zero_le _) (by omega)
  obtain ⟨sg, hsg⟩ : ∃ sg, tk s 0 43 45 = sg := ⟨_, rfl⟩
  rw [hsg] at t1
  have HP0 : Hid (Pst w _ B (cf s) s 0 false) := P0
  clear P0
  go_enter Tryz.func44, Tryz.ntmps44
  go_wp2_with (go_at_call 73; refine Stop.mk ?_)
  refine Stop.out (t1.mono ?_)
  rintro e W1 ⟨f1, rfl, hc1, hg1⟩
  have P1 : Hid (Pst w W1 B f1 s (n0 s) false) := HP0.out.step hc1 hg1
  have t2 := decimal_any W1 (B + 1) f1 s (n0 s) (n1 s) (n2 s) (n3 s) P1.out.cur (n0_le s) h rfl rfl rfl
  clear t1 hc1 hg1 HP0
  obtain ⟨ng, hng⟩ : ∃ ng : Bool, ((sg : Int) == 45) = ng := ⟨_, rfl⟩
  have hneg : nNeg s = ng := by
    rw [← hng]
    unfold nNeg
    rw [hsg]
    by_cases h45 : sg = 45
    · subst h45; rfl
    · rw [decide_eq_false h45]; symm; simp; omega
  go_wp2_with (go_at_call 74; refine Stop.mk ?_)
  refine Stop.out (t2.mono ?_)
  rintro e W2 ⟨f2, rfl, hc2, hg2⟩
  have P2 : Hid (Pst w W2 B f2 s (n2 s + n3 s) (nB s)) := P1.out.step hc2 hg2
  have t3 := take_E W2 (B + 1) f2 s (n2 s + n3 s) (nB s) P2.out.cur (n3_le s) (by omega) (fun hb => by rw [hb]; exact nx_broken _ _)
  clear t2 hc2 hg2 P1
  have hn3 : n3 s ≤ 16 := Nat.le_trans (Nat.le_trans (Nat.le_add_left _ _) (n3_le s)) h
  obtain ⟨U, hU⟩ : ∃ U, s.extract (n0 s) (n0 s + n1 s) ++ s.extract (n2 s) (n2 s + n3 s) = U := ⟨_, rfl⟩
  have hUD : nD s = U := hU
  rw [hU]
  clear hU
  have hUd : Digs U := hUD ▸ nD_digs s
  have hU18 : U.size ≤ 18 := by
    rw [← hUD, nD_size]
    have := n3_le s
    have := n01_2 s
    omega
  have hN := nD_lt s h
  rw [hUD] at hN
  obtain ⟨N, hUN⟩ : ∃ N, val U.data.toList = N := ⟨_, rfl⟩
  rw [hUN] at hN
  obtain ⟨m, hm⟩ : ∃ m, n3 s = m := ⟨_, rfl⟩
  rw [hm] at hn3 ⊢
  cases hb : nB s with
  | true =>
    rw [hb] at t3 P2
    rw [if_pos rfl, if_pos rfl] at t3
    have e1 : nEnd s = n2 s + n3 s := by unfold nEnd; rw [if_pos hb]
    have e2 : nBad s = true := by unfold nBad; rw [hb]; rfl
    have hX : nBad s = false → nX s = -(m : Int) := fun hh => by rw [e2] at hh; cases hh
    go_wp2_with (go_at_call 73; refine Stop.mk ?_)
    refine Stop.out (t3.mono ?_)
    rintro e W3 ⟨f3, rfl, hc3, hg3⟩
    have P3 : Hid (Pst w W3 B f3 s (nEnd s) (nBad s)) := by rw [e1, e2]; exact P2.out.step hc3 hg3
    clear t3 hc3 hg3 P2
    have te := end_postm w W3 B f3 s (nEnd s) (nBad s) P3.out
    clear P3
    go_wp2_with (go_at_call 70; refine Stop.mk ?_)
    refine Stop.out (te.mono ?_)
    rintro e W5 ⟨v, o, rfl, hv, p5, hor⟩
    have P5 : Hid (Pst w W5 B f3 s (nEnd s) (nBad s)) := p5
    clear p5 te
    rcases hor with ⟨hok, rfl⟩ | ⟨hbad, x, rfl, HX⟩
    · obtain rfl : v = .nilIface := hv
      have hxx := hX hok.1
      have c23 := worth_any W5 U hUd hU18
      rw [hUN] at c23
      go_wp2_with (go_at_call 76; refine Stop.mk ?_)
      refine Stop.out (c23.mono ?_)
      rintro e W6 ⟨rfl, hb6⟩
      have P6 : Hid (Pst w W6 B f3 s (nEnd s) (nBad s)) := P5.out.on hb6
      have c22 := exactly_any W6 ng N (-(m : Int)) (by omega) (by omega) (by omega)
      unfold nv at c22
      clear hb6 P5 c23
      go_wp2_with (go_at_call 75; refine Stop.mk ?_)
      refine Stop.out (c22.mono ?_)
      rintro e W7 ⟨⟨r, rfl, hr⟩, hb7⟩
      have P7 : Pst w W7 B f3 s (nEnd s) (nBad s) := P6.out.on hb7
      have HR : Hid (PM s r none) := .inl ⟨⟨h, hok.1, hok.2⟩, by rw [hneg, hUD, hUN, hxx]; exact hr, rfl⟩
      obtain ⟨k0, k1, k2, k3⟩ := put3_all P7.row (v := .nilIface) (o := none) rfl r
      have r0 : W7.cell? ⟨B, 0, none⟩ = some (.bool false) := P7.row.cell (i := 0) (by omega)
      have r1 : W7.cell? ⟨B, 1, none⟩ = some (.int .u64 0) := P7.row.cell (i := 1) (by omega)
      have r2 : W7.cell? ⟨B, 2, none⟩ = some (.int .i64 0) := P7.row.cell (i := 2) (by omega)
      have rf : ∀ i, W7.frozen? ⟨B, i, none⟩ = false := fun i => P7.row.frozen i
      have HB7 : Hid _ := put3_below P7.bel r
      clear k0 P7 P6 hb7 hr c22
      unfold put3 at *
      go_wp2
      refine bodyPost_ret (v := .tuple #[nv r, .nilIface]) (by simp [results, Tryz.results44, go_sem, nv, k1, k2, k3]) rfl ⟨.nilIface, r, none, rfl, rfl, HR.out, by rw [hB]; exact HB7.out⟩
    · have HR : Hid (PM s ⟨false, 0, 0⟩ (some x)) := .inr ⟨fun hh => hbad hh.2, rfl, by rw [HX.out]; unfold erN; rw [if_pos h]⟩
      have P7 := P5.out
      obtain ⟨k0, k1, k2, k3⟩ := put3_all P7.row hv ⟨false, 0, 0⟩
      have r0 : W5.cell? ⟨B, 0, none⟩ = some (.bool false) := P7.row.cell (i := 0) (by omega)
      have r1 : W5.cell? ⟨B, 1, none⟩ = some (.int .u64 0) := P7.row.cell (i := 1) (by omega)
      have r2 : W5.cell? ⟨B, 2, none⟩ = some (.int .i64 0) := P7.row.cell (i := 2) (by omega)
      have rf : ∀ i, W5.frozen? ⟨B, i, none⟩ = false := fun i => P7.row.frozen i
      have HB7 : Hid _ := put3_below P7.bel ⟨false, 0, 0⟩
      have HK : Hid (PErr _ v (some x)) := k0
      obtain ⟨g, rfl, hf⟩ := hv
      clear k0 P7 P5 hf
      unfold put3 at *
      dsimp only at *
      rw [show ((0 : Nat) : Int) = 0 from rfl] at *
      go_wp2
      refine bodyPost_ret (v := .tuple #[nv ⟨false, 0, 0⟩, .iface 88 (.pointer (some ⟨g, 0, none⟩))]) (by simp [results, Tryz.results44, go_sem, nv, k1, k2, k3]) rfl ⟨_, ⟨false, 0, 0⟩, some x, rfl, HK.out, HR.out, by rw [hB]; exact HB7.out⟩
  | false =>
    rw [hb] at t3 P2
    rw [if_neg (by decide), if_neg (by decide)] at t3
    cases hE : isE s with
    | false =>
      have e0 : tk s (n2 s + n3 s) 69 101 = 0 := by unfold isE at hE; simpa using hE
      rw [e0] at t3
      have e1 : nEnd s = n4 s := by unfold nEnd; rw [if_neg (by rw [hb]; decide), if_neg (by rw [hE]; decide)]
      have e2 : nBad s = false := by unfold nBad; rw [hb, hE]; rfl
      have hX : nBad s = false → nX s = -(m : Int) := fun _ => by unfold nX; rw [if_neg (by rw [hE]; decide), hm]
      go_wp2_with (go_at_call 73; refine Stop.mk ?_)
      refine Stop.out (t3.mono ?_)
      rintro e W3 ⟨f3, rfl, hc3, hg3⟩
      have P3 : Hid (Pst w W3 B f3 s (nEnd s) (nBad s)) := by rw [e1, e2]; exact P2.out.step hc3 hg3
      clear t3 hc3 hg3 P2
      have te := end_postm w W3 B f3 s (nEnd s) (nBad s) P3.out
      clear P3
      go_wp2_with (go_at_call 70; refine Stop.mk ?_)
      refine Stop.out (te.mono ?_)
      rintro e W5 ⟨v, o, rfl, hv, p5, hor⟩
      have P5 : Hid (Pst w W5 B f3 s (nEnd s) (nBad s)) := p5
      clear p5 te
      rcases hor with ⟨hok, rfl⟩ | ⟨hbad, x, rfl, HX⟩
      · obtain rfl : v = .nilIface := hv
        have hxx := hX hok.1
        have c23 := worth_any W5 U hUd hU18
        rw [hUN] at c23
        go_wp2_with (go_at_call 76; refine Stop.mk ?_)
        refine Stop.out (c23.mono ?_)
        rintro e W6 ⟨rfl, hb6⟩
        have P6 : Hid (Pst w W6 B f3 s (nEnd s) (nBad s)) := P5.out.on hb6
        have c22 := exactly_any W6 ng N (-(m : Int)) (by omega) (by omega) (by omega)
        unfold nv at c22
        clear hb6 P5 c23
        go_wp2_with (go_at_call 75; refine Stop.mk ?_)
        refine Stop.out (c22.mono ?_)
        rintro e W7 ⟨⟨r, rfl, hr⟩, hb7⟩
        have P7 : Pst w W7 B f3 s (nEnd s) (nBad s) := P6.out.on hb7
        have HR : Hid (PM s r none) := .inl ⟨⟨h, hok.1, hok.2⟩, by rw [hneg, hUD, hUN, hxx]; exact hr, rfl⟩
        obtain ⟨k0, k1, k2, k3⟩ := put3_all P7.row (v := .nilIface) (o := none) rfl r
        have r0 : W7.cell? ⟨B, 0, none⟩ = some (.bool false) := P7.row.cell (i := 0) (by omega)
        have r1 : W7.cell? ⟨B, 1, none⟩ = some (.int .u64 0) := P7.row.cell (i := 1) (by omega)
        have r2 : W7.cell? ⟨B, 2, none⟩ = some (.int .i64 0) := P7.row.cell (i := 2) (by omega)
        have rf : ∀ i, W7.frozen? ⟨B, i, none⟩ = false := fun i => P7.row.frozen i
        have HB7 : Hid _ := put3_below P7.bel r
        clear k0 P7 P6 hb7 hr c22
        unfold put3 at *
        go_wp2
        refine bodyPost_ret (v := .tuple #[nv r, .nilIface]) (by simp [results, Tryz.results44, go_sem, nv, k1, k2, k3]) rfl ⟨.nilIface, r, none, rfl, rfl, HR.out, by rw [hB]; exact HB7.out⟩
      · have HR : Hid (PM s ⟨false, 0, 0⟩ (some x)) := .inr ⟨fun hh => hbad hh.2, rfl, by rw [HX.out]; unfold erN; rw [if_pos h]⟩
        have P7 := P5.out
        obtain ⟨k0, k1, k2, k3⟩ := put3_all P7.row hv ⟨false, 0, 0⟩
        have r0 : W5.cell? ⟨B, 0, none⟩ = some (.bool false) := P7.row.cell (i := 0) (by omega)
        have r1 : W5.cell? ⟨B, 1, none⟩ = some (.int .u64 0) := P7.row.cell (i := 1) (by omega)
        have r2 : W5.cell? ⟨B, 2, none⟩ = some (.int .i64 0) := P7.row.cell (i := 2) (by omega)
        have rf : ∀ i, W5.frozen? ⟨B, i, none⟩ = false := fun i => P7.row.frozen i
        have HB7 : Hid _ := put3_below P7.bel ⟨false, 0, 0⟩
        have HK : Hid (PErr _ v (some x)) := k0
        obtain ⟨g, rfl, hf⟩ := hv
        clear k0 P7 P5 hf
        unfold put3 at *
        dsimp only at *
        rw [show ((0 : Nat) : Int) = 0 from rfl] at *
        go_wp2
        refine bodyPost_ret (v := .tuple #[nv ⟨false, 0, 0⟩, .iface 88 (.pointer (some ⟨g, 0, none⟩))]) (by simp [results, Tryz.results44, go_sem, nv, k1, k2, k3]) rfl ⟨_, ⟨false, 0, 0⟩, some x, rfl, HK.out, HR.out, by rw [hB]; exact HB7.out⟩
    | true =>
      have e0 : tk s (n2 s + n3 s) 69 101 ≠ 0 := by unfold isE at hE; simpa using hE
      obtain ⟨y, hy⟩ : ∃ y, tk s (n2 s + n3 s) 69 101 = y := ⟨_, rfl⟩
      rw [hy] at t3 e0
      have hyI : ((y : Int) != 0) = true := by simp; omega
      have e1 : nEnd s = n5 s + n6 s := by unfold nEnd; rw [if_neg (by rw [hb]; decide), if_pos hE]
      have e2 : nBad s = decide (n6 s < 1) := by unfold nBad; rw [hb, hE]; simp
      obtain ⟨x0, hx0⟩ : ∃ x0, whV s (n4 s) = x0 := ⟨_, rfl⟩
      have hx1 := whV_lt s h (n4 s)
      rw [hx0] at hx1
      obtain ⟨hx1, hx2⟩ := hx1
      have hX : nBad s = false → nX s = -(m : Int) + x0 := fun _ => by unfold nX; rw [if_pos hE, hm, hx0]
      go_wp2_with (go_at_call 73; refine Stop.mk ?_)
      refine Stop.out (t3.mono ?_)
      rintro e W3 ⟨f3, rfl, hc3, hg3⟩
      have P3 : Hid (Pst w W3 B f3 s (n4 s) false) := P2.out.step hc3 hg3
      have t4 := whole_any W3 (B + 1) f3 s (n4 s) (n5 s) (n6 s) P3.out.cur (n4_le s) h rfl rfl
      rw [hx0] at t4
      clear t3 hc3 hg3 P2
      go_wp2_with (go_at_call 69; refine Stop.mk ?_)
      refine Stop.out (t4.mono ?_)
      rintro e W4 ⟨f4, rfl, hc4, hg4⟩
      have P4 : Hid (Pst w W4 B f4 s (nEnd s) (nBad s)) := by rw [e1, e2]; exact P3.out.step hc4 hg4
      clear t4 hc4 hg4 P3
      have te := end_postm w W4 B f4 s (nEnd s) (nBad s) P4.out
      clear P4
      go_wp2_with (go_at_call 70; refine Stop.mk ?_)
      refine Stop.out (te.mono ?_)
      rintro e W5 ⟨v, o, rfl, hv, p5, hor⟩
      have P5 : Hid (Pst w W5 B f4 s (nEnd s) (nBad s)) := p5
      clear p5 te
      rcases hor with ⟨hok, rfl⟩ | ⟨hbad, x, rfl, HX⟩
      · obtain rfl : v = .nilIface := hv
        have hxx := hX hok.1
        have c23 := worth_any W5 U hUd hU18
        rw [hUN] at c23
        go_wp2_with (go_at_call 76; refine Stop.mk ?_)
        refine Stop.out (c23.mono ?_)
        rintro e W6 ⟨rfl, hb6⟩
        have P6 : Hid (Pst w W6 B f4 s (nEnd s) (nBad s)) := P5.out.on hb6
        have c22 := exactly_any W6 ng N (-(m : Int) + x0) (by omega) (by omega) (by omega)
        unfold nv at c22
        clear hb6 P5 c23
        go_wp2_with (go_at_call 75; refine Stop.mk ?_)
        refine Stop.out (c22.mono ?_)
        rintro e W7 ⟨⟨r, rfl, hr⟩, hb7⟩
        have P7 : Pst w W7 B f4 s (nEnd s) (nBad s) := P6.out.on hb7
        have HR : Hid (PM s r none) := .inl ⟨⟨h, hok.1, hok.2⟩, by rw [hneg, hUD, hUN, hxx]; exact hr, rfl⟩
        obtain ⟨k0, k1, k2, k3⟩ := put3_all P7.row (v := .nilIface) (o := none) rfl r
        have r0 : W7.cell? ⟨B, 0, none⟩ = some (.bool false) := P7.row.cell (i := 0) (by omega)
        have r1 : W7.cell? ⟨B, 1, none⟩ = some (.int .u64 0) := P7.row.cell (i := 1) (by omega)
        have r2 : W7.cell? ⟨B, 2, none⟩ = some (.int .i64 0) := P7.row.cell (i := 2) (by omega)
        have rf : ∀ i, W7.frozen? ⟨B, i, none⟩ = false := fun i => P7.row.frozen i
        have HB7 : Hid _ := put3_below P7.bel r
        clear k0 P7 P6 hb7 hr c22
        unfold put3 at *
        go_wp2
        refine bodyPost_ret (v := .tuple #[nv r, .nilIface]) (by simp [results, Tryz.results44, go_sem, nv, k1, k2, k3]) rfl ⟨.nilIface, r, none, rfl, rfl, HR.out, by rw [hB]; exact HB7.out⟩
      · have HR : Hid (PM s ⟨false, 0, 0⟩ (some x)) := .inr ⟨fun hh => hbad hh.2, rfl, by rw [HX.out]; unfold erN; rw [if_pos h]⟩
        have P7 := P5.out
        obtain ⟨k0, k1, k2, k3⟩ := put3_all P7.row hv ⟨false, 0, 0⟩
        have r0 : W5.cell? ⟨B, 0, none⟩ = some (.bool false) := P7.row.cell (i := 0) (by omega)
        have r1 : W5.cell? ⟨B, 1, none⟩ = some (.int .u64 0) := P7.row.cell (i := 1) (by omega)
        have r2 : W5.cell? ⟨B, 2, none⟩ = some (.int .i64 0) := P7.row.cell (i := 2) (by omega)
        have rf : ∀ i, W5.frozen? ⟨B, i, none⟩ = false := fun i => P7.row.frozen i
        have HB7 : Hid _ := put3_below P7.bel ⟨false, 0, 0⟩
        have HK : Hid (PErr _ v (some x)) := k0
        obtain ⟨g, rfl, hf⟩ := hv
        clear k0 P7 P5 hf
        unfold put3 at *
        dsimp only at *
        rw [show ((0 : Nat) : Int) = 0 from rfl] at *
        go_wp2
        refine bodyPost_ret (v := .tuple #[nv ⟨false, 0, 0⟩, .iface 88 (.pointer (some ⟨g, 0, none⟩))]) (by simp [results, Tryz.results44, go_sem, nv, k1, k2, k3]) rfl ⟨_, ⟨false, 0, 0⟩, some x, rfl, HK.out, HR.out, by rw [hB]; exact HB7.out⟩
theorem parsem_any (w : World) (s : ByteArray) : Calls Tryz.prog 44 #[.string s] w (PostM w s) := by
  by_cases h : s.size ≤ 16
  · exact parsem_short w s h
  · exact parsem_long w s h
end Go.Proofs.YtehgeninocbpeaaGreatDoor.Nu

namespace Go.Proofs.YtehgeninocbpeaaGreatDoor.Nu
open Go Go.Proofs Go.RowKit NumLine
structure NC (w W : World) : Prop where
  num : W.rowIs w.heap.size 73 3 zf
  row : W.rowIs (w.heap.size + 1) 35 2 fN
  bel : Below w.heap.size w W
theorem NC.on {w W W' : World} (h : NC w W) (hb : Below W.heap.size W W') : NC w W' :=
  ⟨h.num.of_block (hb.block _ h.num.lt), h.row.of_block (hb.block _ h.row.lt), h.bel.trans (hb.mono h.bel.size)⟩
theorem NC.start (w : World) : NC w ((w.alloc (.cells #[.bool false, .int .u64 0, .int .i64 0] 73)).alloc (.cells #[.slice none 0 0, .int .i64 0] 35)) :=
  ⟨(zrow w).alloc _, by have := frow (w.alloc (.cells #[.bool false, .int .u64 0, .int .i64 0] 73)); rw [World.size_alloc] at this; exact this, ((Below.refl _ _).alloc (Nat.le_refl _) _).alloc (by simp) _⟩
def putNF (w W : World) (r : Nm) (a b : Value) : World := putF (put3 W w.heap.size r) (w.heap.size + 1) a b
theorem put3_row {W : World} {B C : Nat} (h : W.rowIs C 35 2 fN) (hne : C ≠ B) (r : Nm) : (put3 W B r).rowIs C 35 2 fN := by
  unfold put3
  refine h.of_block ?_
  rw [Below.heap_setCell _ ⟨B, 2, none⟩ _ C hne, Below.heap_setCell _ ⟨B, 1, none⟩ _ C hne, Below.heap_setCell _ ⟨B, 0, none⟩ _ C hne]
theorem RErr.put3 {W : World} {v : Value} {o : Option (Int × Int)} (h : RErr W v o) {B : Nat} (hr : W.rowIs B 73 3 zf) (r : Nm) : RErr (put3 W B r) v o := by
  have r1 := hr.set 0 (.bool r.neg)
  have r2 := r1.set 1 (.int .u64 (r.d : Int))
  exact ((h.tset (x := .bool false) rfl (hr.cell (i := 0) (by omega)) 0 _).tset (x := .bool r.neg) rfl (r1.cell (i := 0) (by omega)) 1 _).tset (x := .bool r.neg) rfl (r2.cell (i := 0) (by omega)) 2 _
theorem putNF_all {w W : World} (h : NC w W) (r : Nm) (a b : Value) (ha : notStr a = true) :
    W.cell? ⟨w.heap.size, 0, none⟩ = some (.bool false) ∧ W.cell? ⟨w.heap.size, 1, none⟩ = some (.int .u64 0) ∧ W.cell? ⟨w.heap.size, 2, none⟩ = some (.int .i64 0) ∧ (∀ i, W.frozen? ⟨w.heap.size, i, none⟩ = false) ∧
    W.cell? ⟨w.heap.size + 1, 0, none⟩ = some (.slice none 0 0) ∧ W.cell? ⟨w.heap.size + 1, 1, none⟩ = some (.int .i64 0) ∧ (∀ i, W.frozen? ⟨w.heap.size + 1, i, none⟩ = false) ∧
    (W.setCell ⟨w.heap.size, 0, none⟩ (.bool r.neg)).cell? ⟨w.heap.size, 0, none⟩ = some (.bool r.neg) ∧ ((W.setCell ⟨w.heap.size, 0, none⟩ (.bool r.neg)).setCell ⟨w.heap.size, 1, none⟩ (.int .u64 (r.d : Int))).cell? ⟨w.heap.size, 1, none⟩ = some (.int .u64 (r.d : Int)) ∧ (put3 W w.heap.size r).cell? ⟨w.heap.size, 2, none⟩ = some (.int .i64 r.e) ∧
    ((put3 W w.heap.size r).setCell ⟨w.heap.size + 1, 0, none⟩ a).cell? ⟨w.heap.size + 1, 0, none⟩ = some a ∧ (putNF w W r a b).cell? ⟨w.heap.size + 1, 1, none⟩ = some b ∧
    (∀ {v o}, RErr W v o → RErr (putNF w W r a b) v o) ∧ Below w.heap.size w (putNF w W r a b) := by
  obtain ⟨z0, z1, z2⟩ := zrow_cells h.num
  obtain ⟨p0, p1, p2⟩ := put3_cells h.num r
  have hr := put3_row (B := w.heap.size) h.row (by omega) r
  obtain ⟨q0, q1, q2⟩ := putF_all hr a b ha
  exact ⟨z0, z1, z2, fun i => h.num.frozen i, h.row.cell (i := 0) (by omega), h.row.cell (i := 1) (by omega), fun i => h.row.frozen i, p0, p1, p2, q0, q1, fun hv => q2 (hv.put3 h.num r), putF_below (put3_below h.bel r) (Nat.le_succ _) a b⟩
def PostRM (w : World) (s : ByteArray) (e : Ending) (w' : World) : Prop := ∃ v r o, e = .returned (.tuple #[nv r, v]) ∧ RErr w' v o ∧ PM s r o ∧ Below w.heap.size w w'
set_option maxRecDepth 100000 in
set_option maxHeartbeats 1000000 in
theorem rparse_long (w : World) (s : ByteArray) (h : ¬ s.size ≤ 16) : Calls Tryz.prog 34 #[.string s] w (PostRM w s) := by
  have hI : (16 : Int) < (s.size : Int) := by omega
  obtain ⟨W0, hW0⟩ : ∃ W0, (w.alloc (.cells #[.bool false, .int .u64 0, .int .i64 0] 73)).alloc (.cells #[.slice none 0 0, .int .i64 0] 35) = W0 := ⟨_, rfl⟩
  have HN : Hid (NC w W0) := hW0 ▸ NC.start w
  have c31 := no_any 16 103 W0
  have HM : Hid (PM s ⟨false, 0, 0⟩ (some (16, 103))) := .inr ⟨fun hh => h hh.1, rfl, by unfold erN; rw [if_neg h]⟩
  clear h
  go_enter Tryz.func34, Tryz.ntmps34
  go_wp2_with (go_at_call 31; refine Stop.mk ?_)
  refine Stop.out (c31.mono ?_)
  rintro e W1 ⟨v, rfl, hv, hb⟩
  have N1 := HN.out.on hb
  have HV : Hid (RErr W1 v (some (16, 103))) := hv
  obtain ⟨g, k, rfl, _, _⟩ := hv
  obtain ⟨z0, z1, z2, zff, a0, a1, af, p0, p1, p2, q0, q1, q2, q3⟩ := putNF_all N1 ⟨false, 0, 0⟩ (.slice (some ⟨g, 0, none⟩) 1 k) (.int .i64 103) rfl
  have HB : Hid _ := q3
  have HV2 : Hid (RErr _ _ _) := q2 HV.out
  have HP : Hid _ := And.intro p0 (And.intro p1 (And.intro p2 (And.intro q0 q1)))
  clear hb c31 N1 hW0 HN HV q3 p0 p1 p2 q0 q1 q2
  go_wp2
  obtain ⟨p0, p1, p2, q0, q1⟩ := HP.out
  unfold putNF putF put3 at *
  dsimp only at *
  rw [show ((0 : Nat) : Int) = 0 from rfl] at *
  refine bodyPost_ret (v := .tuple #[nv ⟨false, 0, 0⟩, .agg #[.slice (some ⟨g, 0, none⟩) 1 k, .int .i64 103]]) (by simp [results, Tryz.results34, go_sem, nv, p0, p1, p2, q0, q1]) rfl ⟨_, _, _, rfl, HV2.out, HM.out, HB.out⟩
end Go.Proofs.YtehgeninocbpeaaGreatDoor.Nu
