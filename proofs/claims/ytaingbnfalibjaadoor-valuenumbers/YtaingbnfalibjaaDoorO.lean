import Derived.Test.YtaingbnfalibjaaDoorN
/-
  DERIVED. A number in its one form.
-/
namespace Go.Proofs.YtaingbnfalibjaaDoor
open Go Go.Proofs Go.RowKit NumLine

/-- The one form of digits and an exponent. -/
def Ex (neg : Bool) (d : Nat) (x : Int) (r : Nm) : Prop := (d = 0 ∧ r = ⟨false, 0, 0⟩) ∨ (d ≠ 0 ∧ ∃ k : Nat, r.neg = neg ∧ r.d * 10 ^ k = d ∧ r.d % 10 ≠ 0 ∧ r.e = x + (k : Int))

theorem pow_small {d k : Nat} {m : Nat} (h : m * 10 ^ k = d) (hd : d < 10 ^ 20) (h0 : d ≠ 0) : k < 20 := by
  have hm : m ≠ 0 := by rintro rfl; simp at h; omega
  have h1 : 1 * 10 ^ k ≤ m * 10 ^ k := Nat.mul_le_mul_right _ (by omega)
  refine Decidable.byContradiction fun hk => ?_
  have h2 : 10 ^ 20 ≤ 10 ^ k := Nat.pow_le_pow_right (by decide) (by omega)
  omega

set_option maxRecDepth 100000 in
theorem exactly_any (w : World) (neg : Bool) (d : Nat) (x : Int) (hd : d < 10 ^ 19) (hx1 : -1000000000000000000 ≤ x) (hx2 : x ≤ 1000000000000000000) :
    Calls Tryd.prog 22 #[.bool neg, .int .u64 (d : Int), .int .i64 x] w fun e w' => (∃ r, e = .returned (nv r) ∧ Ex neg d x r) ∧ Below w.heap.size w w' := by
  by_cases h0 : d = 0
  · subst h0
    go_enter Tryd.func22, Tryd.ntmps22
    go_wp2
    refine bodyPost_ret (v := nv ⟨false, 0, 0⟩) (by simp [results, Tryd.results22, go_sem, nv]) rfl ⟨⟨_, rfl, .inl ⟨rfl, rfl⟩⟩, ?_⟩
    repeat (refine Below.setCell ?_ (Nat.le_refl _) _)
    exact (Below.refl _ _).alloc (Nat.le_refl _) _
  · have hI : ((d : Int) == 0) = false := by simp; exact h0
    have HD : Hid (d < 10 ^ 19) := hd
    have HB : Hid (Below w.heap.size w (w.alloc (Obj.cells #[Value.bool false, Value.int IntKind.u64 0, Value.int IntKind.i64 0] 24))) := (Below.refl _ _).alloc (Nat.le_refl _) _
    clear hd
    go_enter Tryd.func22, Tryd.ntmps22
    go_wp2
    go_loopg [1, 2] d (fun g s1 s2 wx => ∃ (m k : Nat) (y : Int), s1 = .int .u64 (m : Int) ∧ s2 = .int .i64 y ∧ g = m ∧ 0 < m ∧ m < 10000000000000000000 ∧ Hid (m * 10 ^ k = d) ∧ Hid (y = x + (k : Int)) ∧ y ≤ 1000000000000000020 ∧ -1000000000000000000 ≤ y ∧ wx = w.alloc (Obj.cells #[Value.bool false, Value.int IntKind.u64 0, Value.int IntKind.i64 0] 24))
    case atStart => exact ⟨d, 0, x, rfl, rfl, rfl, by omega, HD.out, by show _ = _; simp, by show _ = _; simp, by omega, by omega, rfl⟩
    case round =>
      obtain ⟨m, k, y, rfl, rfl, rfl, hm, hm2, HM, HY, hy, hy2, rfl⟩ := hrel
      have hk : k < 20 := pow_small HM.out (Nat.lt_of_lt_of_le HD.out (by decide)) h0
      have hyk : y ≤ x + (k : Int) := by rw [HY.out]; exact Int.le_refl _
      by_cases hz : gk % 10 = 0
      · obtain ⟨q, hq⟩ : ∃ q, gk = 10 * q := ⟨gk / 10, by omega⟩
        subst hq
        have h1 : (((10 * q : Nat) : Int) % 10 == 0) = true := by simp
        have h2 : ((10 * q : Nat) : Int) / 10 = (q : Int) := by omega
        have HM2 : Hid (q * 10 ^ (k + 1) = d) := by show _ = _; rw [← HM.out, Nat.pow_succ]; ac_rfl
        go_wp2
        go_roundg q
        case measure => omega
        case rel => exact ⟨q, k + 1, y + 1, by first | rfl | (simp [h2]), rfl, rfl, by omega, by omega, HM2, by show _ = _; rw [HY.out]; omega, by omega, by omega, rfl⟩
      · have h1 : ((gk : Int) % 10 == 0) = false := by simp; omega
        go_wp2
        refine bodyPost_ret (v := nv ⟨neg, gk, y⟩) (by simp [results, Tryd.results22, go_sem, nv]) rfl ⟨⟨_, rfl, .inr ⟨h0, k, rfl, HM.out, hz, HY.out⟩⟩, ?_⟩
        repeat (refine Below.setCell ?_ (Nat.le_refl _) _)
        exact (Below.refl _ _).alloc (Nat.le_refl _) _
end Go.Proofs.YtaingbnfalibjaaDoor
