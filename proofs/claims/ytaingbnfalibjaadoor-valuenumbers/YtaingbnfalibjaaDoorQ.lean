import Derived.Test.YtaingbnfalibjaaDoorP
/-
  DERIVED. Numbers without their signs, compared.
-/
namespace Go.Proofs.YtaingbnfalibjaaDoor
open Go Go.Proofs Go.RowKit NumLine

theorem wrap_sub (x1 x2 : Int) (m : Nat) (hm : x1 - x2 = (m : Int)) (h : m < 18446744073709551616) : IntKind.u64.wrap (IntKind.u64.wrap x1 - IntKind.u64.wrap x2) = (m : Int) := by
  unfold IntKind.wrap
  simp [IntKind.bits, IntKind.signed]
  omega

set_option maxRecDepth 100000 in
theorem sizes_down (w : World) (a b : Nm) (m : Nat) (hm : a.e - b.e = (m : Int)) (ha : a.d < 18446744073709551616) (hb : b.d < 18446744073709551616)
    (he1 : -9223372036854775808 ≤ a.e) (he2 : a.e ≤ 9223372036854775807) (he3 : -9223372036854775808 ≤ b.e) (he4 : b.e ≤ 9223372036854775807) :
    Calls Tryd.prog 26 #[nv a, nv b] w fun e w' => e = .returned (.int .i64 (csz0 a b)) ∧ Below w.heap.size w w' := by
  obtain ⟨n1, d1, x1⟩ := a
  obtain ⟨n2, d2, x2⟩ := b
  unfold nv csz0
  dsimp only at *
  have hlt : decide (x1 < x2) = false := by simp; omega
  have hw := wrap_sub x1 x2 m hm (by omega)
  rw [show (x1 - x2).toNat = m by omega]
  by_cases h19 : 19 < m
  · rw [if_pos h19]
    have h19I : ¬ ((m : Int) ≤ 19) := by omega
    go_enter Tryd.func26, Tryd.ntmps26
    go_wp2
    go_ret
    exact ⟨rfl, ((Below.refl _ _).alloc (Nat.le_refl _) _).alloc (by simp [World.size_alloc]) _⟩
  · rw [if_neg h19]
    have h19I : (m : Int) ≤ 19 := by omega
    obtain ⟨Z, HZ⟩ : ∃ Z, Hid (cmpI ((d1 * 10 ^ m : Nat) : Int) (d2 : Int) = Z) := ⟨_, rfl⟩
    rw [HZ.out]
    go_enter Tryd.func26, Tryd.ntmps26
    go_wp2
    go_loopg [6, 28] m (fun g s6 s28 wx => ∃ (j S : Nat), s6 = .int .u64 (S : Int) ∧ s28 = .int .u64 (j : Int) ∧ g + j = m ∧ Hid (S = 10 ^ j) ∧ wx = (w.alloc (Obj.cells #[Value.bool n1, Value.int IntKind.u64 (d1 : Int), Value.int IntKind.i64 x1] 24)).alloc (Obj.cells #[Value.bool n2, Value.int IntKind.u64 (d2 : Int), Value.int IntKind.i64 x2] 24))
    case atStart => exact ⟨0, 1, rfl, rfl, by omega, rfl, rfl⟩
    case round =>
      obtain ⟨j, S, rfl, rfl, hg, HS, rfl⟩ := hrel
      by_cases hj : j < m
      · have hjI : (j : Int) < (m : Int) := by omega
        have hS : S * 10 ≤ 10000000000000000000 := by
          have h1 : 10 ^ (j + 1) ≤ 10 ^ 19 := Nat.pow_le_pow_right (by decide) (by omega)
          rw [HS.out, ← Nat.pow_succ]
          exact h1
        have HS2 : Hid (S * 10 = 10 ^ (j + 1)) := by show _ = _; rw [HS.out, Nat.pow_succ]
        go_wp2
        go_roundg (m - (j + 1))
        case measure => omega
        case rel => exact ⟨j + 1, S * 10, by first | rfl | simp, by first | rfl | simp, by omega, HS2, rfl⟩
      · have hjm : j = m := by omega
        subst hjm
        have hjI : ¬ ((j : Int) < (j : Int)) := by omega
        have hS : S ≤ 10000000000000000000 := by
          have h1 : 10 ^ j ≤ 10 ^ 19 := Nat.pow_le_pow_right (by decide) (by omega)
          rw [HS.out]
          exact h1
        have HZ2 : Hid (cmpI ((d1 * S : Nat) : Int) (d2 : Int) = Z) := by show _ = _; rw [← HZ.out, HS.out]
        have c1 := fun W => mul_any W d1 S ha (by omega)
        have hdm := Nat.div_add_mod (d1 * S) 18446744073709551616
        have hlo : d1 * S % 18446744073709551616 < 18446744073709551616 := Nat.mod_lt _ (by decide)
        generalize d1 * S % 18446744073709551616 = lo at *
        generalize d1 * S / 18446744073709551616 = hi at *
        have c2 := fun W => cmp45_any W lo d2
        by_cases hh : hi = 0
        · subst hh
          have hPl : d1 * S = lo := by omega
          have hZ3 : cmpI (lo : Int) (d2 : Int) = Z := by rw [← HZ2.out, hPl]
          rw [hZ3] at c2
          go_wp2_with (first | (go_at_call 44; refine (c1 _).mono ?_; rintro e w' ⟨rfl, rfl⟩) | (go_at_call 45; refine (c2 _).mono ?_; rintro e w' ⟨rfl, rfl⟩))
          go_ret
          exact ⟨rfl, ((Below.refl _ _).alloc (Nat.le_refl _) _).alloc (by simp [World.size_alloc]) _⟩
        · have hhI : (0 : Int) < (hi : Int) := by omega
          have hP1 : cmpI ((d1 * S : Nat) : Int) (d2 : Int) = 1 := by
            rcases cmpI_cases ((d1 * S : Nat) : Int) (d2 : Int) with ⟨h, e⟩ | ⟨h, e⟩ | ⟨h, e⟩
            · omega
            · omega
            · exact e
          obtain rfl : Z = 1 := by rw [← HZ2.out, hP1]
          go_wp2_with (first | (go_at_call 44; refine (c1 _).mono ?_; rintro e w' ⟨rfl, rfl⟩) | (go_at_call 45; refine (c2 _).mono ?_; rintro e w' ⟨rfl, rfl⟩))
          go_ret
          exact ⟨rfl, ((Below.refl _ _).alloc (Nat.le_refl _) _).alloc (by simp [World.size_alloc]) _⟩

set_option maxRecDepth 100000 in
theorem sizes_any (w : World) (a b : Nm) (ha : a.d < 18446744073709551616) (hb : b.d < 18446744073709551616)
    (he1 : -9223372036854775808 ≤ a.e) (he2 : a.e ≤ 9223372036854775807) (he3 : -9223372036854775808 ≤ b.e) (he4 : b.e ≤ 9223372036854775807) :
    Calls Tryd.prog 26 #[nv a, nv b] w fun e w' => e = .returned (.int .i64 (csz a b)) ∧ Below w.heap.size w w' := by
  unfold csz
  by_cases h : a.e < b.e
  · rw [if_pos h]
    have c26 := fun W => sizes_down W b a (b.e - a.e).toNat (by omega) hb ha he3 he4 he1 he2
    have hr : csz0 b a = 1 ∨ csz0 b a = 0 ∨ csz0 b a = -1 := by
      unfold csz0
      split
      · exact .inl rfl
      · rcases cmpI_cases ((b.d * 10 ^ (b.e - a.e).toNat : Nat) : Int) (a.d : Int) with ⟨h, e⟩ | ⟨h, e⟩ | ⟨h, e⟩ <;> omega
    generalize csz0 b a = z at *
    obtain ⟨n1, d1, x1⟩ := a
    obtain ⟨n2, d2, x2⟩ := b
    unfold nv at *
    dsimp only at *
    go_enter Tryd.func26, Tryd.ntmps26
    go_wp2_with (go_at_call 26; refine Stop.mk ?_)
    refine Stop.out ((c26 _).mono ?_)
    rintro e W1 ⟨rfl, hb1⟩
    have HB : Hid (Below w.heap.size w W1) := (((Below.refl _ _).alloc (Nat.le_refl _) _).alloc (by simp [World.size_alloc]) _).trans (hb1.mono (by simp [World.size_alloc]; omega))
    clear hb1 c26
    go_wp2
    go_ret
    exact ⟨rfl, HB.out⟩
  · rw [if_neg h]
    exact sizes_down w a b (a.e - b.e).toNat (by omega) ha hb he1 he2 he3 he4

end Go.Proofs.YtaingbnfalibjaaDoor
