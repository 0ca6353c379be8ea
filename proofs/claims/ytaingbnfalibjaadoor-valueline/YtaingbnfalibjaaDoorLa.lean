import Derived.Test.YtaingbnfalibjaaDoorRc
import Derived.Test.YtaingbnfalibjaaDoorW
import Derived.Test.YtaingbnfalibjaaDoorR
import Derived.Test.YtaingbnfalibjaaDoorEi
/-
  DERIVED. The law.
-/
namespace Go.Proofs.YtaingbnfalibjaaDoor
open Go Go.Proofs Go.RowKit NumLine

theorem shT_one : shT ⟨false, 1, 0⟩ = [49] := by
  have h1 : Lib.decDigits 1 = [49] := by rw [Lib.decDigits_one (by omega)]; rfl
  have h2 : shP ⟨false, 1, 0⟩ = [49] := by unfold shP; rw [if_pos (by decide)]; show pPos (Lib.decDigits 1) 0 = _; rw [h1]; rfl
  unfold shT
  rw [if_neg (by decide), h2, if_pos]
  show 1 ≤ (shE ⟨false, 1, 0⟩).length
  unfold shE
  simp
  omega
theorem one_read {r : Nm} {o : Option (Int × Int)} (h : PN ⟨#[49]⟩ r o) : o = none ∧ r = ⟨false, 1, 0⟩ := by
  have hp : prT ⟨false, 1, 0⟩ = [49] := by unfold prT; rw [if_neg (by decide), shT_one]
  refine read_back (a := ⟨false, 1, 0⟩) (.inr (by decide)) (by rw [hp]; decide) ?_
  rw [hp]
  exact h

/-- A number in a variable of the law. -/
structure NumAt (W : World) (B : Nat) (r : Nm) : Prop where
  c0 : W.cell? ⟨B, 0, none⟩ = some (.bool r.neg)
  c1 : W.cell? ⟨B, 1, none⟩ = some (.int .u64 (r.d : Int))
  c2 : W.cell? ⟨B, 2, none⟩ = some (.int .i64 r.e)
  lt : B < W.heap.size
theorem NumAt.on {W W' : World} {B : Nat} {r : Nm} (h : NumAt W B r) (hb : Below W.heap.size W W') : NumAt W' B r :=
  ⟨(hb.cell (p := ⟨B, 0, none⟩) h.lt).trans h.c0, (hb.cell (p := ⟨B, 1, none⟩) h.lt).trans h.c1, (hb.cell (p := ⟨B, 2, none⟩) h.lt).trans h.c2, Nat.lt_of_lt_of_le h.lt hb.size⟩
theorem NumAt.new (W : World) (r : Nm) : NumAt (W.alloc (.cells #[.bool r.neg, .int .u64 (r.d : Int), .int .i64 r.e] 24)) W.heap.size r :=
  ⟨by simp [go_sem], by simp [go_sem], by simp [go_sem], by simp⟩

set_option maxRecDepth 100000 in
set_option maxHeartbeats 4000000 in
theorem line_any (w : World) (r s t : ByteArray) (hp : Pow w) : Calls Tryd.prog 3 #[.string r, .string s, .string t] w fun e w' => e = .returned (.bool true) ∧ Below w.heap.size w w' := by
  go_enter Tryd.func3, Tryd.ntmps3
  go_wp2_with (go_at_call 5; refine Stop.mk ?_)
  refine Stop.out ((parse_any _ _).mono ?_)
  rintro e W1 ⟨v, x, o, rfl, hv, hx, hb⟩
  obtain ⟨rfl, rfl⟩ := one_read hx
  obtain rfl : v = .nilIface := hv
  have B1 : Hid (Below w.heap.size w W1) := hb
  have P1 : Hid (Pow W1) := hp.on hb
  have N1 := NumAt.new W1 ⟨false, 1, 0⟩
  have b1 : Below W1.heap.size W1 (W1.alloc (.cells #[.bool false, .int .u64 1, .int .i64 0] 24)) := (Below.refl _ _).alloc (Nat.le_refl _) _
  have B1' : Hid (Below w.heap.size w (W1.alloc (.cells #[.bool false, .int .u64 1, .int .i64 0] 24))) := B1.out.trans (b1.mono B1.out.size)
  have P1' : Hid (Pow (W1.alloc (.cells #[.bool false, .int .u64 1, .int .i64 0] 24))) := P1.out.on b1
  have HN1 : Hid (NumAt (W1.alloc (.cells #[.bool false, .int .u64 1, .int .i64 0] 24)) W1.heap.size ⟨false, 1, 0⟩) := N1
  clear hb hx N1 b1 B1 P1
  unfold nv
  show _
  go_wp2_with (go_at_call 5; refine Stop.mk ?_)
  refine Stop.out ((parse_any _ _).mono ?_)
  rintro e W2 ⟨va, a, oa, rfl, hva, hxa, hb⟩
  have ba : Below W2.heap.size W2 (W2.alloc (.cells #[.bool a.neg, .int .u64 (a.d : Int), .int .i64 a.e] 24)) := (Below.refl _ _).alloc (Nat.le_refl _) _
  have B2' : Hid (Below w.heap.size w (W2.alloc (.cells #[.bool a.neg, .int .u64 (a.d : Int), .int .i64 a.e] 24))) := (B1'.out.trans (hb.mono B1'.out.size)).trans (ba.mono (B1'.out.trans (hb.mono B1'.out.size)).size)
  have P2' : Hid (Pow (W2.alloc (.cells #[.bool a.neg, .int .u64 (a.d : Int), .int .i64 a.e] 24))) := (P1'.out.on hb).on ba
  have HN1' : Hid (NumAt (W2.alloc (.cells #[.bool a.neg, .int .u64 (a.d : Int), .int .i64 a.e] 24)) W1.heap.size ⟨false, 1, 0⟩) := (HN1.out.on hb).on ba
  clear HN1
  have HN1 := HN1'
  clear HN1'
  have HN2 : Hid (NumAt (W2.alloc (.cells #[.bool a.neg, .int .u64 (a.d : Int), .int .i64 a.e] 24)) W2.heap.size a) := NumAt.new W2 a
  have HEa : Hid (PErr W2 va oa) := hva
  have HXa : Hid (PN r a oa) := hxa
  clear hb ba hva hxa B1' P1'
  unfold nv
  go_wp2_with (go_at_call 5; refine Stop.mk ?_)
  refine Stop.out ((parse_any _ _).mono ?_)
  rintro e W3 ⟨vb, b, ob, rfl, hvb, hxb, hb⟩
  have bb : Below W3.heap.size W3 (W3.alloc (.cells #[.bool b.neg, .int .u64 (b.d : Int), .int .i64 b.e] 24)) := (Below.refl _ _).alloc (Nat.le_refl _) _
  have B3' : Hid (Below w.heap.size w (W3.alloc (.cells #[.bool b.neg, .int .u64 (b.d : Int), .int .i64 b.e] 24))) := (B2'.out.trans (hb.mono B2'.out.size)).trans (bb.mono (B2'.out.trans (hb.mono B2'.out.size)).size)
  have P3' : Hid (Pow (W3.alloc (.cells #[.bool b.neg, .int .u64 (b.d : Int), .int .i64 b.e] 24))) := (P2'.out.on hb).on bb
  have HN1' : Hid (NumAt (W3.alloc (.cells #[.bool b.neg, .int .u64 (b.d : Int), .int .i64 b.e] 24)) W1.heap.size ⟨false, 1, 0⟩) := (HN1.out.on hb).on bb
  clear HN1
  have HN1 := HN1'
  clear HN1'
  have HN2' : Hid (NumAt (W3.alloc (.cells #[.bool b.neg, .int .u64 (b.d : Int), .int .i64 b.e] 24)) W2.heap.size a) := (HN2.out.on hb).on bb
  clear HN2
  have HN2 := HN2'
  clear HN2'
  have HN3 : Hid (NumAt (W3.alloc (.cells #[.bool b.neg, .int .u64 (b.d : Int), .int .i64 b.e] 24)) W3.heap.size b) := NumAt.new W3 b
  have HEb : Hid (PErr W3 vb ob) := hvb
  have HXb : Hid (PN s b ob) := hxb
  clear hb bb hvb hxb B2' P2'
  unfold nv
  go_wp2_with (go_at_call 5; refine Stop.mk ?_)
  refine Stop.out ((parse_any _ _).mono ?_)
  rintro e W4 ⟨vc, c, oc, rfl, hvc, hxc, hb⟩
  have bc : Below W4.heap.size W4 (W4.alloc (.cells #[.bool c.neg, .int .u64 (c.d : Int), .int .i64 c.e] 24)) := (Below.refl _ _).alloc (Nat.le_refl _) _
  have B4' : Hid (Below w.heap.size w (W4.alloc (.cells #[.bool c.neg, .int .u64 (c.d : Int), .int .i64 c.e] 24))) := (B3'.out.trans (hb.mono B3'.out.size)).trans (bc.mono (B3'.out.trans (hb.mono B3'.out.size)).size)
  have P4' : Hid (Pow (W4.alloc (.cells #[.bool c.neg, .int .u64 (c.d : Int), .int .i64 c.e] 24))) := (P3'.out.on hb).on bc
  have HN1' : Hid (NumAt (W4.alloc (.cells #[.bool c.neg, .int .u64 (c.d : Int), .int .i64 c.e] 24)) W1.heap.size ⟨false, 1, 0⟩) := (HN1.out.on hb).on bc
  clear HN1
  have HN1 := HN1'
  clear HN1'
  have HN2' : Hid (NumAt (W4.alloc (.cells #[.bool c.neg, .int .u64 (c.d : Int), .int .i64 c.e] 24)) W2.heap.size a) := (HN2.out.on hb).on bc
  clear HN2
  have HN2 := HN2'
  clear HN2'
  have HN3' : Hid (NumAt (W4.alloc (.cells #[.bool c.neg, .int .u64 (c.d : Int), .int .i64 c.e] 24)) W3.heap.size b) := (HN3.out.on hb).on bc
  clear HN3
  have HN3 := HN3'
  clear HN3'
  have HN4 : Hid (NumAt (W4.alloc (.cells #[.bool c.neg, .int .u64 (c.d : Int), .int .i64 c.e] 24)) W4.heap.size c) := NumAt.new W4 c
  have HEc : Hid (PErr W4 vc oc) := hvc
  have HXc : Hid (PN t c oc) := hxc
  clear hb bc hvc hxc B3' P3'
  unfold nv
  obtain ⟨ca, da, ea1, ea2⟩ := read_canon HXa.out
  obtain ⟨cb, db, eb1, eb2⟩ := read_canon HXb.out
  obtain ⟨cc, dc, ec1, ec2⟩ := read_canon HXc.out
  obtain ⟨L1, L2, L3, L4, L5, L6⟩ := line (a := a) (b := b) (c := c) (by omega) (by omega) (by omega)
  have L6 := L6 ca cb
  have kab := fun W => compare_any W a b (by omega) (by omega) (by omega) (by omega) (by omega) (by omega)
  have kbc := fun W => compare_any W b c (by omega) (by omega) (by omega) (by omega) (by omega) (by omega)
  have kac := fun W => compare_any W a c (by omega) (by omega) (by omega) (by omega) (by omega) (by omega)
  have kba := fun W => compare_any W b a (by omega) (by omega) (by omega) (by omega) (by omega) (by omega)
  have kaa := fun W => compare_any W a a (by omega) (by omega) (by omega) (by omega) (by omega) (by omega)
  unfold nv at kab kbc kac kba kaa
  generalize cmpN a b = ab at *
  generalize cmpN b c = bc at *
  generalize cmpN a c = ac at *
  generalize cmpN b a = ba2 at *
  generalize cmpN a a = aa at *
  subst L2
  obtain rfl : ba2 = -ab := by omega
  clear L1
  obtain ⟨W4', hW4'⟩ : ∃ W4', W4.alloc (.cells #[.bool c.neg, .int .u64 (c.d : Int), .int .i64 c.e] 24) = W4' := ⟨_, rfl⟩
  rw [hW4'] at HN1 HN2 HN3 HN4 B4' P4'
  obtain ⟨m0, m1, m2, _⟩ := HN2.out
  obtain ⟨n0', n1', n2', _⟩ := HN3.out
  obtain ⟨p0, p1, p2, _⟩ := HN4.out
  go_wp2_with (go_at_call 6; refine Stop.mk ?_)
  refine Stop.out ((kab _).mono ?_)
  rintro e W5 ⟨rfl, hb⟩
  have HN1' : Hid (NumAt W5 W1.heap.size ⟨false, 1, 0⟩) := HN1.out.on hb
  have HN2' : Hid (NumAt W5 W2.heap.size a) := HN2.out.on hb
  have HN3' : Hid (NumAt W5 W3.heap.size b) := HN3.out.on hb
  have HN4' : Hid (NumAt W5 W4.heap.size c) := HN4.out.on hb
  have B5' : Hid (Below w.heap.size w W5) := B4'.out.trans (hb.mono B4'.out.size)
  have P5' : Hid (Pow W5) := P4'.out.on hb
  clear HN1 HN2 HN3 HN4 hb B4' P4' m0 m1 m2 n0' n1' n2' p0 p1 p2
  have HN1 := HN1'
  have HN2 := HN2'
  have HN3 := HN3'
  have HN4 := HN4'
  clear HN1' HN2' HN3' HN4'
  obtain ⟨m0, m1, m2, _⟩ := HN2.out
  obtain ⟨n0', n1', n2', _⟩ := HN3.out
  obtain ⟨p0, p1, p2, _⟩ := HN4.out
  go_wp2_with (go_at_call 6; refine Stop.mk ?_)
  refine Stop.out ((kbc _).mono ?_)
  rintro e W6 ⟨rfl, hb⟩
  have HN1' : Hid (NumAt W6 W1.heap.size ⟨false, 1, 0⟩) := HN1.out.on hb
  have HN2' : Hid (NumAt W6 W2.heap.size a) := HN2.out.on hb
  have HN3' : Hid (NumAt W6 W3.heap.size b) := HN3.out.on hb
  have HN4' : Hid (NumAt W6 W4.heap.size c) := HN4.out.on hb
  have B6' : Hid (Below w.heap.size w W6) := B5'.out.trans (hb.mono B5'.out.size)
  have P6' : Hid (Pow W6) := P5'.out.on hb
  clear HN1 HN2 HN3 HN4 hb B5' P5' m0 m1 m2 n0' n1' n2' p0 p1 p2
  have HN1 := HN1'
  have HN2 := HN2'
  have HN3 := HN3'
  have HN4 := HN4'
  clear HN1' HN2' HN3' HN4'
  obtain ⟨m0, m1, m2, _⟩ := HN2.out
  obtain ⟨n0', n1', n2', _⟩ := HN3.out
  obtain ⟨p0, p1, p2, _⟩ := HN4.out
  go_wp2_with (go_at_call 6; refine Stop.mk ?_)
  refine Stop.out ((kac _).mono ?_)
  rintro e W7 ⟨rfl, hb⟩
  have HN1' : Hid (NumAt W7 W1.heap.size ⟨false, 1, 0⟩) := HN1.out.on hb
  have HN2' : Hid (NumAt W7 W2.heap.size a) := HN2.out.on hb
  have HN3' : Hid (NumAt W7 W3.heap.size b) := HN3.out.on hb
  have HN4' : Hid (NumAt W7 W4.heap.size c) := HN4.out.on hb
  have B7' : Hid (Below w.heap.size w W7) := B6'.out.trans (hb.mono B6'.out.size)
  have P7' : Hid (Pow W7) := P6'.out.on hb
  clear HN1 HN2 HN3 HN4 hb B6' P6' m0 m1 m2 n0' n1' n2' p0 p1 p2
  have HN1 := HN1'
  have HN2 := HN2'
  have HN3 := HN3'
  have HN4 := HN4'
  clear HN1' HN2' HN3' HN4'
  obtain ⟨m0, m1, m2, _⟩ := HN2.out
  obtain ⟨n0', n1', n2', _⟩ := HN3.out
  obtain ⟨p0, p1, p2, _⟩ := HN4.out
  have g1 : (ab != - -ab) = false := by simp
  have g1' : (ab != ab) = false := by simp
  have g2 : decide (ab < -1) = false := by simp; omega
  have g3 : decide (1 < ab) = false := by simp; omega
  go_wp2_with (go_at_call 6; refine Stop.mk ?_)
  refine Stop.out ((kba _).mono ?_)
  rintro e W8 ⟨rfl, hb⟩
  have HN1' : Hid (NumAt W8 W1.heap.size ⟨false, 1, 0⟩) := HN1.out.on hb
  have HN2' : Hid (NumAt W8 W2.heap.size a) := HN2.out.on hb
  have HN3' : Hid (NumAt W8 W3.heap.size b) := HN3.out.on hb
  have HN4' : Hid (NumAt W8 W4.heap.size c) := HN4.out.on hb
  have B8' : Hid (Below w.heap.size w W8) := B7'.out.trans (hb.mono B7'.out.size)
  have P8' : Hid (Pow W8) := P7'.out.on hb
  clear HN1 HN2 HN3 HN4 hb B7' P7' m0 m1 m2 n0' n1' n2' p0 p1 p2
  have HN1 := HN1'
  have HN2 := HN2'
  have HN3 := HN3'
  have HN4 := HN4'
  clear HN1' HN2' HN3' HN4'
  obtain ⟨m0, m1, m2, _⟩ := HN2.out
  obtain ⟨n0', n1', n2', _⟩ := HN3.out
  obtain ⟨p0, p1, p2, _⟩ := HN4.out
  go_wp2_with (go_at_call 6; refine Stop.mk ?_)
  refine Stop.out ((kaa _).mono ?_)
  rintro e W9 ⟨rfl, hb⟩
  have HN1' : Hid (NumAt W9 W1.heap.size ⟨false, 1, 0⟩) := HN1.out.on hb
  have HN2' : Hid (NumAt W9 W2.heap.size a) := HN2.out.on hb
  have HN3' : Hid (NumAt W9 W3.heap.size b) := HN3.out.on hb
  have HN4' : Hid (NumAt W9 W4.heap.size c) := HN4.out.on hb
  have B9' : Hid (Below w.heap.size w W9) := B8'.out.trans (hb.mono B8'.out.size)
  have P9' : Hid (Pow W9) := P8'.out.on hb
  clear HN1 HN2 HN3 HN4 hb B8' P8' m0 m1 m2 n0' n1' n2' p0 p1 p2
  have HN1 := HN1'
  have HN2 := HN2'
  have HN3 := HN3'
  have HN4 := HN4'
  clear HN1' HN2' HN3' HN4'
  obtain ⟨m0, m1, m2, _⟩ := HN2.out
  obtain ⟨n0', n1', n2', _⟩ := HN3.out
  obtain ⟨p0, p1, p2, _⟩ := HN4.out
  have kone := fun W => compare_any W ⟨false, 1, 0⟩ ⟨false, 0, 0⟩ (by decide) (by decide) (by decide) (by decide) (by decide) (by decide)
  rw [show cmpN ⟨false, 1, 0⟩ ⟨false, 0, 0⟩ = 1 by decide] at kone
  unfold nv at kone
  dsimp only at kone
  rw [show ((0 : Nat) : Int) = 0 from rfl, show ((1 : Nat) : Int) = 1 from rfl] at kone
  obtain ⟨z0, z1, z2, _⟩ := HN1.out
  dsimp only at z0 z1 z2
  rw [show ((1 : Nat) : Int) = 1 from rfl] at z1
  have h4 : ¬ (ab ≤ 0) ∨ (ab ≤ 0 ∧ ¬ (bc ≤ 0)) ∨ (ab ≤ 0 ∧ bc ≤ 0 ∧ ¬ (0 < ac) ∧ ¬ (ac = 0)) ∨ (ab = 0 ∧ bc = 0 ∧ ac = 0) := by
    by_cases q1 : ab ≤ 0
    · by_cases q2 : bc ≤ 0
      · have := L5 q1 q2
        by_cases q3 : ac = 0
        · have := this.2 q3
          exact .inr (.inr (.inr ⟨this.1, this.2, q3⟩))
        · exact .inr (.inr (.inl ⟨q1, q2, by omega, q3⟩))
      · exact .inr (.inl ⟨q1, q2⟩)
    · exact .inl q1
  clear L5
  clear kab kbc kac kba kaa
  go_upto_region 12 with fail
  go_cut [98] from 22 (fun s98 wx => s98 = .bool false ∧ wx = W9)
  case first =>
    clear HN1 HN2 HN3 HN4 L6 B9' P9' HEa HEb HEc HXa HXb HXc kone m0 m1 m2 n0' n1' n2' p0 p1 p2 z0 z1 z2
    rcases h4 with q1 | ⟨q1, q2⟩ | ⟨q1, q2, q3, q4⟩ | ⟨rfl, rfl, rfl⟩
    · have q1' : decide (ab ≤ 0) = false := by simpa using q1
      go_wp2
      go_meet
      case rel => exact ⟨by simp, rfl⟩
    · have q1' : decide (ab ≤ 0) = true := by simpa using q1
      have q2' : decide (bc ≤ 0) = false := by simpa using q2
      go_wp2
      go_meet
      case rel => exact ⟨by simp, rfl⟩
    · have q1' : decide (ab ≤ 0) = true := by simpa using q1
      have q2' : decide (bc ≤ 0) = true := by simpa using q2
      have q3' : decide (0 < ac) = false := by simpa using q3
      have q4' : (ac == 0) = false := by simpa using q4
      go_wp2
      go_meet
      case rel => exact ⟨by simp, rfl⟩
    · go_wp2
      go_meet
      case rel => exact ⟨by simp, rfl⟩
  case rest =>
    obtain ⟨rfl, rfl⟩ := hcut
    clear h4 g1 g1' g2 g3
    cases oa with
    | some x =>
      obtain ⟨g, rfl, hf⟩ := HEa.out
      clear hf
      go_wp2
      go_ret
      exact ⟨rfl, B9'.out⟩
    | none =>
    obtain rfl : va = .nilIface := HEa.out
    cases ob with
    | some x =>
      obtain ⟨g, rfl, hf⟩ := HEb.out
      clear hf
      go_wp2
      go_ret
      exact ⟨rfl, B9'.out⟩
    | none =>
    obtain rfl : vb = .nilIface := HEb.out
    cases oc with
    | some x =>
      obtain ⟨g, rfl, hf⟩ := HEc.out
      clear hf
      go_wp2
      go_ret
      exact ⟨rfl, B9'.out⟩
    | none =>
    obtain rfl : vc = .nilIface := HEc.out
    have heq : (b = a ∧ ab = 0) ∨ (ab ≠ 0 ∧ (a.neg == b.neg) = false) ∨ (ab ≠ 0 ∧ a.neg = b.neg ∧ ((a.d : Int) == (b.d : Int)) = false) ∨ (ab ≠ 0 ∧ a.neg = b.neg ∧ a.d = b.d ∧ (a.e == b.e) = false) := by
      by_cases h0 : ab = 0
      · have := L6.1 h0
        refine .inl ⟨?_, h0⟩
        obtain ⟨an, ad, ae⟩ := a
        obtain ⟨bn, bd, be⟩ := b
        simp only at this
        obtain ⟨e1, e2, e3⟩ := this
        subst e1 e2 e3
        rfl
      · by_cases h1 : a.neg = b.neg
        · by_cases h2 : a.d = b.d
          · refine .inr (.inr (.inr ⟨h0, h1, h2, ?_⟩))
            have h3 : a.e ≠ b.e := fun h3 => h0 (L6.2 ⟨h1, h2, h3⟩)
            simpa using h3
          · refine .inr (.inr (.inl ⟨h0, h1, ?_⟩))
            simp
            omega
        · exact .inr (.inl ⟨h0, by simpa using h1⟩)
    clear L6 HEa HEb HEc HXa HXb HXc
    go_upto_region 16 with fail
    go_cut [120] from 22 (fun s120 wx => s120 = .bool false ∧ Hid (NumAt wx W2.heap.size a) ∧ Hid (Below w.heap.size w wx) ∧ Hid (Pow wx))
    case first =>
      rcases heq with ⟨rfl, rfl⟩ | ⟨hne, hq⟩ | ⟨hne, hq0, hq⟩ | ⟨hne, hq0, hq1, hq⟩
      · go_wp2_with (go_at_call 6; refine Stop.mk ?_)
        refine Stop.out ((kone _).mono ?_)
        rintro e W10 ⟨rfl, hb⟩
        have HM : Hid (NumAt W10 W2.heap.size _) := HN2.out.on hb
        have B10 : Hid (Below w.heap.size w W10) := B9'.out.trans (hb.mono B9'.out.size)
        have P10 : Hid (Pow W10) := P9'.out.on hb
        clear hb m0 m1 m2 n0' n1' n2' p0 p1 p2 HN1 HN2 HN3 HN4 B9' P9' z0 z1 z2 kone
        go_wp2
        go_meet
        case rel => exact ⟨by simp, HM, B10, P10⟩
      · have hne' : (ab == 0) = false := by simpa using hne
        go_wp2_with (go_at_call 6; refine Stop.mk ?_)
        refine Stop.out ((kone _).mono ?_)
        rintro e W10 ⟨rfl, hb⟩
        have HM : Hid (NumAt W10 W2.heap.size _) := HN2.out.on hb
        have B10 : Hid (Below w.heap.size w W10) := B9'.out.trans (hb.mono B9'.out.size)
        have P10 : Hid (Pow W10) := P9'.out.on hb
        clear hb m0 m1 m2 n0' n1' n2' p0 p1 p2 HN1 HN2 HN3 HN4 B9' P9' z0 z1 z2 kone
        go_wp2
        go_meet
        case rel => exact ⟨by simp, HM, B10, P10⟩
      · have hne' : (ab == 0) = false := by simpa using hne
        go_wp2_with (go_at_call 6; refine Stop.mk ?_)
        refine Stop.out ((kone _).mono ?_)
        rintro e W10 ⟨rfl, hb⟩
        have HM : Hid (NumAt W10 W2.heap.size _) := HN2.out.on hb
        have B10 : Hid (Below w.heap.size w W10) := B9'.out.trans (hb.mono B9'.out.size)
        have P10 : Hid (Pow W10) := P9'.out.on hb
        clear hb m0 m1 m2 n0' n1' n2' p0 p1 p2 HN1 HN2 HN3 HN4 B9' P9' z0 z1 z2 kone
        go_wp2
        go_meet
        case rel => exact ⟨by simp, HM, B10, P10⟩
      · have hne' : (ab == 0) = false := by simpa using hne
        go_wp2_with (go_at_call 6; refine Stop.mk ?_)
        refine Stop.out ((kone _).mono ?_)
        rintro e W10 ⟨rfl, hb⟩
        have HM : Hid (NumAt W10 W2.heap.size _) := HN2.out.on hb
        have B10 : Hid (Below w.heap.size w W10) := B9'.out.trans (hb.mono B9'.out.size)
        have P10 : Hid (Pow W10) := P9'.out.on hb
        clear hb m0 m1 m2 n0' n1' n2' p0 p1 p2 HN1 HN2 HN3 HN4 B9' P9' z0 z1 z2 kone
        go_wp2
        go_meet
        case rel => exact ⟨by simp, HM, B10, P10⟩
    case rest =>
      obtain ⟨rfl, HM, B10, HP10⟩ := hcut
      clear m0 m1 m2 n0' n1' n2' p0 p1 p2 HN1 HN2 HN3 HN4 B9' P9' z0 z1 z2 heq kone
      obtain ⟨m0, m1, m2, _⟩ := HM.out
      have kp := print_any wc a ca (by omega) (by omega) (by omega) HP10.out
      unfold nv at kp
      clear HP10
      go_wp2_with (go_at_call 7; refine Stop.mk ?_)
      refine Stop.out (kp.mono ?_)
      rintro e W11 ⟨u, v4, o4, rfl, hv4, hb, hcase⟩
      have HM2 : Hid (NumAt W11 W2.heap.size a) := HM.out.on hb
      have B11 : Hid (Below w.heap.size w W11) := B10.out.trans (hb.mono B10.out.size)
      clear hb m0 m1 m2 HM B10 kp
      rcases hcase with ⟨rfl, hlen, rfl⟩ | ⟨_, rfl⟩
      · obtain rfl : v4 = .nilIface := hv4
        go_wp2_with (go_at_call 5; refine Stop.mk ?_)
        refine Stop.out ((parse_any _ _).mono ?_)
        rintro e W12 ⟨v5, d, o5, rfl, hv5, hx5, hb⟩
        obtain ⟨rfl, rfl⟩ := read_back ca hlen hx5
        obtain rfl : v5 = .nilIface := hv5
        have HM3 := HM2.out.on hb
        have b12 : Below W12.heap.size W12 (W12.alloc (.cells #[.bool d.neg, .int .u64 (d.d : Int), .int .i64 d.e] 24)) := (Below.refl _ _).alloc (Nat.le_refl _) _
        obtain ⟨m0, m1, m2, _⟩ := HM3.on b12
        have B12 : Hid (Below w.heap.size w W12) := B11.out.trans (hb.mono B11.out.size)
        have B13 : Hid (Below w.heap.size w (W12.alloc (.cells #[.bool d.neg, .int .u64 (d.d : Int), .int .i64 d.e] 24))) := B12.out.trans (b12.mono B12.out.size)
        clear hb hx5 HM3 b12 HM2 B11 B12
        unfold nv
        go_wp2
        go_ret
        exact ⟨rfl, B13.out⟩
      · have HV4 : Hid (PErr W11 v4 (some (0, 103))) := hv4
        obtain ⟨g, rfl, hf⟩ := hv4
        clear hf
        go_wp2_with (go_at_call 9; refine Stop.mk ?_)
        refine Stop.out ((new0_any 103 0 _).mono ?_)
        rintro e W12 ⟨rfl, hb, f0, f1, f2⟩
        have ki := is_yes (vf := .agg #[.slice (some ⟨W11.heap.size + 1, 0, none⟩) 1 1, .int .i64 103]) (o := some (0, 103)) (HV4.out.next hb) ⟨_, _, rfl, f0, f1⟩ (fun a c h => by cases h; rfl)
        have B12 : Hid (Below w.heap.size w W12) := B11.out.trans (hb.mono B11.out.size)
        clear hb f0 f1 f2 HV4
        go_wp2_with (go_at_call 8; refine Stop.mk ?_)
        refine Stop.out (ki.mono ?_)
        rintro e W13 ⟨rfl, hb⟩
        have B13 : Hid (Below w.heap.size w W13) := B12.out.trans (hb.mono B12.out.size)
        clear hb ki
        go_wp2
        go_ret
        exact ⟨rfl, B13.out⟩
end Go.Proofs.YtaingbnfalibjaaDoor
