import Derived.Test.YtaingbnfalibjaaDoorDh
/-
  DERIVED. The document's CompareNumber.
-/
namespace Go.Proofs.YtaingbnfalibjaaDoor
open Go Go.Proofs Go.RowKit NumLine

theorem csz_one (a b : Nm) : -1 ≤ csz a b ∧ csz a b ≤ 1 := by
  have h0 : ∀ x y : Nm, -1 ≤ csz0 x y ∧ csz0 x y ≤ 1 := fun x y => by
    unfold csz0
    split
    · omega
    · rcases cmpI_cases ((x.d * 10 ^ (x.e - y.e).toNat : Nat) : Int) (y.d : Int) with ⟨h, e⟩ | ⟨h, e⟩ | ⟨h, e⟩ <;> omega
  unfold csz
  have h1 := h0 a b
  have h2 := h0 b a
  split <;> omega

set_option maxRecDepth 100000 in
set_option maxHeartbeats 4000000 in
theorem rcompare_any (w : World) (a b : Nm) (ha : a.d < 18446744073709551616) (hb : b.d < 18446744073709551616)
    (he1 : -9223372036854775808 ≤ a.e) (he2 : a.e ≤ 9223372036854775807) (he3 : -9223372036854775808 ≤ b.e) (he4 : b.e ≤ 9223372036854775807) (hp : Pow w) :
    Calls Tryd.prog 16 #[nv a, nv b] w fun e w' => e = .returned (.int .i64 (cmpN a b)) ∧ Below w.heap.size w w' := by
  have f := fun W h => size39_any W a b ha hb he1 he2 he3 he4 h
  have hsz : a.d ≠ 0 → b.d ≠ 0 → szD a b = csz a b := fun h1 h2 => szD_csz h1 h2 (Nat.lt_of_lt_of_le ha (by decide)) (Nat.lt_of_lt_of_le hb (by decide))
  have hone := csz_one a b
  have HC : Hid (cmpN a b = if cmpI (sgn a) (sgn b) ≠ 0 then cmpI (sgn a) (sgn b) else sgn a * csz a b) := rfl
  have g1 : sgn a = if a.d = 0 then 0 else if a.neg = true then -1 else 1 := rfl
  have g2 : sgn b = if b.d = 0 then 0 else if b.neg = true then -1 else 1 := rfl
  generalize cmpN a b = R at *
  obtain ⟨n1, d1, x1⟩ := a
  obtain ⟨n2, d2, x2⟩ := b
  unfold nv at *
  dsimp only at *
  have HT : Hid (Two ((w.alloc (.cells #[.bool n1, .int .u64 (d1 : Int), .int .i64 x1] 24)).alloc (.cells #[.bool n2, .int .u64 (d2 : Int), .int .i64 x2] 24)) w.heap.size n1 d1 x1 n2 d2 x2) := Two.start w n1 d1 x1 n2 d2 x2
  obtain ⟨W0, hW0⟩ : ∃ W0, (w.alloc (.cells #[.bool n1, .int .u64 (d1 : Int), .int .i64 x1] 24)).alloc (.cells #[.bool n2, .int .u64 (d2 : Int), .int .i64 x2] 24) = W0 := ⟨_, rfl⟩
  have HB0 : Hid (Below w.heap.size w W0) := hW0 ▸ ((Below.refl _ _).alloc (Nat.le_refl _) _).alloc (by simp) _
  have HS0 : Hid (w.heap.size + 2 ≤ W0.heap.size) := by show _ ≤ _; rw [← hW0]; simp
  rw [hW0] at HT
  have HP0 : Hid (Pow W0) := by
    show Pow W0
    rw [← hW0]
    exact (hp.on ((Below.refl _ _).alloc (Nat.le_refl _) _)).on ((Below.refl _ _).alloc (Nat.le_refl _) _)
  have c1 := f W0 HP0.out
  obtain ⟨t0, t1, t2, t3, t4, t5⟩ := HT.out
  generalize sgn ⟨n1, d1, x1⟩ = S1 at *
  generalize sgn ⟨n2, d2, x2⟩ = S2 at *
  generalize szD ⟨n1, d1, x1⟩ ⟨n2, d2, x2⟩ = Z at *
  generalize csz ⟨n1, d1, x1⟩ ⟨n2, d2, x2⟩ = Y at *
  clear f ha hb hp he1 he2 he3 he4
  by_cases h1 : d1 = 0
  · have h1I : ((d1 : Int) == 0) = true := by rw [h1]; rfl
    rw [if_pos h1] at g1
    by_cases h2 : d2 = 0
    · have h2I : ((d2 : Int) == 0) = true := by rw [h2]; rfl
      rw [if_pos h2] at g2
      obtain rfl : R = 0 := by rw [HC.out, g1, g2]; simp [cmpI]
      clear h1 h2 g1 g2 HC hsz c1
      go_enter Tryd.func16, Tryd.ntmps16
      go_wp2
      go_ret
      exact ⟨rfl, HB0.out⟩
    · have h2I : ((d2 : Int) == 0) = false := by simpa using h2
      rw [if_neg h2] at g2
      cases n2 with
      | true =>
        rw [if_pos rfl] at g2
        obtain rfl : R = 1 := by rw [HC.out, g1, g2, if_pos (by decide)]; decide
        clear h1 h2 g1 g2 HC hsz c1
        go_enter Tryd.func16, Tryd.ntmps16
        go_wp2
        go_ret
        exact ⟨rfl, HB0.out⟩
      | false =>
        rw [if_neg (by decide)] at g2
        obtain rfl : R = -1 := by rw [HC.out, g1, g2, if_pos (by decide)]; decide
        clear h1 h2 g1 g2 HC hsz c1
        go_enter Tryd.func16, Tryd.ntmps16
        go_wp2
        go_ret
        exact ⟨rfl, HB0.out⟩
  · have h1I : ((d1 : Int) == 0) = false := by simpa using h1
    rw [if_neg h1] at g1
    by_cases h2 : d2 = 0
    · have h2I : ((d2 : Int) == 0) = true := by rw [h2]; rfl
      rw [if_pos h2] at g2
      cases n1 with
      | true =>
        rw [if_pos rfl] at g1
        obtain rfl : R = -1 := by rw [HC.out, g1, g2, if_pos (by decide)]; decide
        clear h1 h2 g1 g2 HC hsz c1
        go_enter Tryd.func16, Tryd.ntmps16
        go_wp2
        go_ret
        exact ⟨rfl, HB0.out⟩
      | false =>
        rw [if_neg (by decide)] at g1
        obtain rfl : R = 1 := by rw [HC.out, g1, g2, if_pos (by decide)]; decide
        clear h1 h2 g1 g2 HC hsz c1
        go_enter Tryd.func16, Tryd.ntmps16
        go_wp2
        go_ret
        exact ⟨rfl, HB0.out⟩
    · have h2I : ((d2 : Int) == 0) = false := by simpa using h2
      rw [if_neg h2] at g2
      have hZ := hsz h1 h2
      rw [hZ] at c1
      obtain ⟨y1, y2⟩ := hone
      clear hZ hsz
      cases n1 with
      | true =>
        rw [if_pos rfl] at g1
        cases n2 with
        | true =>
          rw [if_pos rfl] at g2
          obtain rfl : R = -Y := by rw [HC.out, g1, g2, if_neg (by decide)]; omega
          clear h1 h2 g1 g2 HC
          go_enter Tryd.func16, Tryd.ntmps16
          go_wp2_with (go_at_call 39; refine Stop.mk ?_)
          refine Stop.out (c1.mono ?_)
          rintro e W1 ⟨rfl, hb1⟩
          have HB1 : Hid (Below w.heap.size w W1) := HB0.out.trans (hb1.mono HB0.out.size)
          have HT1 : Hid (Two W1 w.heap.size true d1 x1 true d2 x2) := HT.out.on (hb1.mono HS0.out)
          clear t0 t1 t2 t3 t4 t5 HB0 HS0 HT c1 hW0 HP0 hb1
          obtain ⟨t0, t1, t2, t3, t4, t5⟩ := HT1.out
          go_wp2
          go_ret
          exact ⟨by first | rfl | simp, HB1.out⟩
        | false =>
          rw [if_neg (by decide)] at g2
          obtain rfl : R = -1 := by rw [HC.out, g1, g2, if_pos (by decide)]; decide
          clear h1 h2 g1 g2 HC c1
          go_enter Tryd.func16, Tryd.ntmps16
          go_wp2
          go_ret
          exact ⟨rfl, HB0.out⟩
      | false =>
        rw [if_neg (by decide)] at g1
        cases n2 with
        | true =>
          rw [if_pos rfl] at g2
          obtain rfl : R = 1 := by rw [HC.out, g1, g2, if_pos (by decide)]; decide
          clear h1 h2 g1 g2 HC c1
          go_enter Tryd.func16, Tryd.ntmps16
          go_wp2
          go_ret
          exact ⟨rfl, HB0.out⟩
        | false =>
          rw [if_neg (by decide)] at g2
          obtain rfl : R = Y := by rw [HC.out, g1, g2, if_neg (by decide)]; omega
          clear h1 h2 g1 g2 HC
          go_enter Tryd.func16, Tryd.ntmps16
          go_wp2_with (go_at_call 39; refine Stop.mk ?_)
          refine Stop.out (c1.mono ?_)
          rintro e W1 ⟨rfl, hb1⟩
          have HB1 : Hid (Below w.heap.size w W1) := HB0.out.trans (hb1.mono HB0.out.size)
          have HT1 : Hid (Two W1 w.heap.size false d1 x1 false d2 x2) := HT.out.on (hb1.mono HS0.out)
          clear t0 t1 t2 t3 t4 t5 HB0 HS0 HT c1 hW0 HP0 hb1
          obtain ⟨t0, t1, t2, t3, t4, t5⟩ := HT1.out
          go_wp2
          go_ret
          exact ⟨by first | rfl | simp, HB1.out⟩
end Go.Proofs.YtaingbnfalibjaaDoor
