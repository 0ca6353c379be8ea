import Derived.Test.YtaingbnfalibjaaDoorProg
/-
  DERIVED. Decimal numbers on one line: no program in it.
-/
namespace Go.Proofs.NumLine

/-- A decimal number. -/
structure Nm where
  neg : Bool
  d : Nat
  e : Int
def cmpI (x y : Int) : Int := if x < y then -1 else if y < x then 1 else 0
def sgn (a : Nm) : Int := if a.d = 0 then 0 else if a.neg = true then -1 else 1
def csz0 (a b : Nm) : Int := if 19 < (a.e - b.e).toNat then 1 else cmpI (a.d * 10 ^ (a.e - b.e).toNat : Nat) (b.d : Nat)
def csz (a b : Nm) : Int := if a.e < b.e then -(csz0 b a) else csz0 a b
/-- What CompareNumber tells. -/
def cmpN (a b : Nm) : Int := if cmpI (sgn a) (sgn b) ≠ 0 then cmpI (sgn a) (sgn b) else sgn a * csz a b
/-- One number's place on the line, counted in units of 10^m. -/
def mag (m : Int) (a : Nm) : Nat := a.d * 10 ^ (a.e - m).toNat
def sv (m : Int) (a : Nm) : Int := if a.neg = true then -(mag m a : Int) else (mag m a : Int)

theorem cmpI_cases (x y : Int) : (x < y ∧ cmpI x y = -1) ∨ (x = y ∧ cmpI x y = 0) ∨ (y < x ∧ cmpI x y = 1) := by
  unfold cmpI
  rcases Int.lt_trichotomy x y with h | h | h
  · exact .inl ⟨h, by rw [if_pos h]⟩
  · exact .inr (.inl ⟨h, by rw [if_neg (by omega), if_neg (by omega)]⟩)
  · exact .inr (.inr ⟨h, by rw [if_neg (by omega), if_pos h]⟩)
theorem cmpI_scale (x y k : Nat) (hk : 0 < k) : cmpI ((x * k : Nat) : Int) ((y * k : Nat) : Int) = cmpI (x : Int) (y : Int) := by
  have h1 : x * k < y * k ↔ x < y := Nat.mul_lt_mul_right hk
  have h2 : y * k < x * k ↔ y < x := Nat.mul_lt_mul_right hk
  generalize x * k = X at *
  generalize y * k = Y at *
  rcases cmpI_cases (X : Int) (Y : Int) with ⟨h, e⟩ | ⟨h, e⟩ | ⟨h, e⟩ <;> rcases cmpI_cases (x : Int) (y : Int) with ⟨h2, e2⟩ | ⟨h2, e2⟩ | ⟨h2, e2⟩ <;> omega
theorem cmpI_neg (x y : Int) : cmpI (-x) (-y) = -(cmpI x y) := by
  rcases cmpI_cases x y with ⟨h, e⟩ | ⟨h, e⟩ | ⟨h, e⟩ <;> rcases cmpI_cases (-x) (-y) with ⟨h2, e2⟩ | ⟨h2, e2⟩ | ⟨h2, e2⟩ <;> omega
theorem cmpI_swap (x y : Int) : cmpI y x = -(cmpI x y) := by
  rcases cmpI_cases x y with ⟨h, e⟩ | ⟨h, e⟩ | ⟨h, e⟩ <;> rcases cmpI_cases y x with ⟨h2, e2⟩ | ⟨h2, e2⟩ | ⟨h2, e2⟩ <;> omega
theorem mag_pos {m : Int} {a : Nm} (h : a.d ≠ 0) : 0 < mag m a := Nat.mul_pos (by omega) (Nat.pow_pos (by decide))
theorem mag_zero {m : Int} {a : Nm} (h : a.d = 0) : mag m a = 0 := by unfold mag; rw [h, Nat.zero_mul]

theorem csz0_mag {m : Int} {a b : Nm} (hb : m ≤ b.e) (hab : b.e ≤ a.e) (ha0 : a.d ≠ 0) (hb20 : b.d < 10 ^ 20) : csz0 a b = cmpI (mag m a : Int) (mag m b : Int) := by
  obtain ⟨k, hk⟩ : ∃ k : Nat, a.e - b.e = (k : Int) := ⟨(a.e - b.e).toNat, by omega⟩
  obtain ⟨l, hl⟩ : ∃ l : Nat, b.e - m = (l : Int) := ⟨(b.e - m).toNat, by omega⟩
  have e1 : (a.e - b.e).toNat = k := by omega
  have e2 : (b.e - m).toNat = l := by omega
  have e3 : (a.e - m).toNat = k + l := by omega
  have hp : 0 < 10 ^ l := Nat.pow_pos (by decide)
  have hm : mag m a = a.d * 10 ^ k * 10 ^ l := by unfold mag; rw [e3, Nat.pow_add, Nat.mul_assoc]
  have hm2 : mag m b = b.d * 10 ^ l := by unfold mag; rw [e2]
  rw [hm, hm2, cmpI_scale _ _ _ hp]
  unfold csz0
  rw [e1]
  by_cases h19 : 19 < k
  · rw [if_pos h19]
    have h1 : 10 ^ 20 ≤ 10 ^ k := Nat.pow_le_pow_right (by decide) (by omega)
    have h2 : 1 * 10 ^ k ≤ a.d * 10 ^ k := Nat.mul_le_mul_right _ (by omega)
    rcases cmpI_cases ((a.d * 10 ^ k : Nat) : Int) (b.d : Int) with ⟨h, e⟩ | ⟨h, e⟩ | ⟨h, e⟩
    · omega
    · omega
    · exact e.symm
  · rw [if_neg h19]
theorem csz_mag {m : Int} {a b : Nm} (ha : m ≤ a.e) (hb : m ≤ b.e) (ha0 : a.d ≠ 0) (hb0 : b.d ≠ 0) (ha20 : a.d < 10 ^ 20) (hb20 : b.d < 10 ^ 20) : csz a b = cmpI (mag m a : Int) (mag m b : Int) := by
  unfold csz
  by_cases h : a.e < b.e
  · rw [if_pos h, csz0_mag (m := m) ha (by omega) hb0 ha20, cmpI_swap]
    omega
  · rw [if_neg h, csz0_mag (m := m) hb (by omega) ha0 hb20]
/-- Comparing is comparing of places. -/
theorem cmpN_sv {m : Int} {a b : Nm} (ha : m ≤ a.e) (hb : m ≤ b.e) (ha20 : a.d < 10 ^ 20) (hb20 : b.d < 10 ^ 20) : cmpN a b = cmpI (sv m a) (sv m b) := by
  have za : a.d = 0 → sv m a = 0 := fun h => by unfold sv; rw [mag_zero h]; split <;> rfl
  have zb : b.d = 0 → sv m b = 0 := fun h => by unfold sv; rw [mag_zero h]; split <;> rfl
  have pa : a.d ≠ 0 → 0 < (mag m a : Int) := fun h => by have := mag_pos (m := m) h; omega
  have pb : b.d ≠ 0 → 0 < (mag m b : Int) := fun h => by have := mag_pos (m := m) h; omega
  unfold cmpN
  by_cases h1 : a.d = 0 <;> by_cases h2 : b.d = 0
  · rw [za h1, zb h2]; unfold sgn; rw [if_pos h1, if_pos h2]; simp [cmpI]
  · have := pb h2
    rw [za h1]; unfold sgn sv; rw [if_pos h1, if_neg h2]
    by_cases nb : b.neg = true
    · rw [if_pos nb, if_pos nb, show cmpI 0 (-1) = 1 by decide, if_pos (by decide)]
      rcases cmpI_cases 0 (-(mag m b : Int)) with ⟨h, e⟩ | ⟨h, e⟩ | ⟨h, e⟩ <;> omega
    · rw [if_neg nb, if_neg nb, show cmpI 0 1 = -1 by decide, if_pos (by decide)]
      rcases cmpI_cases 0 (mag m b : Int) with ⟨h, e⟩ | ⟨h, e⟩ | ⟨h, e⟩ <;> omega
  · have := pa h1
    rw [zb h2]; unfold sgn sv; rw [if_neg h1, if_pos h2]
    by_cases na : a.neg = true
    · rw [if_pos na, if_pos na, show cmpI (-1) 0 = -1 by decide, if_pos (by decide)]
      rcases cmpI_cases (-(mag m a : Int)) 0 with ⟨h, e⟩ | ⟨h, e⟩ | ⟨h, e⟩ <;> omega
    · rw [if_neg na, if_neg na, show cmpI 1 0 = 1 by decide, if_pos (by decide)]
      rcases cmpI_cases (mag m a : Int) 0 with ⟨h, e⟩ | ⟨h, e⟩ | ⟨h, e⟩ <;> omega
  · have p1 := pa h1
    have p2 := pb h2
    have hc := csz_mag ha hb h1 h2 ha20 hb20
    unfold sgn sv
    rw [if_neg h1, if_neg h2]
    by_cases na : a.neg = true <;> by_cases nb : b.neg = true
    · rw [if_pos na, if_pos nb, if_pos na, if_pos nb, if_neg (by decide), hc, cmpI_neg]; omega
    · rw [if_pos na, if_neg nb, if_pos na, if_neg nb, if_pos (by decide)]
      rcases cmpI_cases (-(mag m a : Int)) (mag m b : Int) with ⟨h, e⟩ | ⟨h, e⟩ | ⟨h, e⟩
      · rw [e]; decide
      · omega
      · omega
    · rw [if_neg na, if_pos nb, if_neg na, if_pos nb, if_pos (by decide)]
      rcases cmpI_cases (mag m a : Int) (-(mag m b : Int)) with ⟨h, e⟩ | ⟨h, e⟩ | ⟨h, e⟩
      · omega
      · omega
      · rw [e]; decide
    · rw [if_neg na, if_neg nb, if_neg na, if_neg nb, if_neg (by decide), hc]; omega

/-- In its one form. -/
def Canon (a : Nm) : Prop := (a.d = 0 ∧ a.neg = false ∧ a.e = 0) ∨ a.d % 10 ≠ 0
theorem mag_canon {m : Int} {a b : Nm} (ha : m ≤ a.e) (hb : m ≤ b.e) (h1 : a.d % 10 ≠ 0) (h2 : b.d % 10 ≠ 0) (h : mag m a = mag m b) : a.d = b.d ∧ a.e = b.e := by
  have key : ∀ (x y : Nat) (k l : Nat), x % 10 ≠ 0 → y % 10 ≠ 0 → x * 10 ^ k = y * 10 ^ l → k ≤ l → x = y ∧ k = l := by
    intro x y k l hx hy hxy hkl
    obtain ⟨r, rfl⟩ : ∃ r, l = k + r := ⟨l - k, by omega⟩
    have hp : 0 < 10 ^ k := Nat.pow_pos (by decide)
    rw [Nat.pow_add, Nat.mul_comm (10 ^ k) (10 ^ r), ← Nat.mul_assoc] at hxy
    have := Nat.eq_of_mul_eq_mul_right hp hxy
    cases r with
    | zero => simp at this; exact ⟨this, by omega⟩
    | succ r => rw [Nat.pow_succ, ← Nat.mul_assoc] at this; omega
  unfold mag at h
  rcases Nat.le_total (a.e - m).toNat (b.e - m).toNat with hk | hk
  · have := key _ _ _ _ h1 h2 h hk
    exact ⟨this.1, by omega⟩
  · have := key _ _ _ _ h2 h1 h.symm hk
    exact ⟨this.1.symm, by omega⟩
theorem sv_canon {m : Int} {a b : Nm} (ha : m ≤ a.e) (hb : m ≤ b.e) (h1 : Canon a) (h2 : Canon b) (h : sv m a = sv m b) : a.neg = b.neg ∧ a.d = b.d ∧ a.e = b.e := by
  have p : ∀ c : Nm, c.d % 10 ≠ 0 → 0 < (mag m c : Int) := fun c hc => by have := mag_pos (m := m) (a := c) (by omega); omega
  unfold sv at h
  rcases h1 with ⟨z1, n1, e1⟩ | h1 <;> rcases h2 with ⟨z2, n2, e2⟩ | h2
  · exact ⟨by rw [n1, n2], by omega, by omega⟩
  · have := p b h2
    rw [mag_zero z1] at h
    split at h <;> split at h <;> simp at h <;> omega
  · have := p a h1
    rw [mag_zero z2] at h
    split at h <;> split at h <;> simp at h <;> omega
  · have q1 := p a h1
    have q2 := p b h2
    by_cases na : a.neg = true <;> by_cases nb : b.neg = true
    · rw [if_pos na, if_pos nb] at h
      have := mag_canon ha hb h1 h2 (by omega)
      exact ⟨by rw [na, nb], this⟩
    · rw [if_pos na, if_neg nb] at h; omega
    · rw [if_neg na, if_pos nb] at h; omega
    · rw [if_neg na, if_neg nb] at h
      have := mag_canon ha hb h1 h2 (by omega)
      exact ⟨by simp at na nb; rw [na, nb], this⟩

/-- A total order, zero at equal ones alone. -/
theorem line {a b c : Nm} (ha : a.d < 10 ^ 20) (hb : b.d < 10 ^ 20) (hc : c.d < 10 ^ 20) :
    cmpN a b = -(cmpN b a) ∧ cmpN a a = 0 ∧ -1 ≤ cmpN a b ∧ cmpN a b ≤ 1 ∧ (cmpN a b ≤ 0 → cmpN b c ≤ 0 → cmpN a c ≤ 0 ∧ (cmpN a c = 0 → cmpN a b = 0 ∧ cmpN b c = 0)) ∧ (Canon a → Canon b → (cmpN a b = 0 ↔ a.neg = b.neg ∧ a.d = b.d ∧ a.e = b.e)) := by
  obtain ⟨m, h1, h2, h3⟩ : ∃ m : Int, m ≤ a.e ∧ m ≤ b.e ∧ m ≤ c.e := ⟨min a.e (min b.e c.e), by omega, by omega, by omega⟩
  rw [cmpN_sv h1 h2 ha hb, cmpN_sv h2 h1 hb ha, cmpN_sv h1 h1 ha ha, cmpN_sv h2 h3 hb hc, cmpN_sv h1 h3 ha hc]
  refine ⟨by rw [cmpI_swap], by simp [cmpI], ?_, ?_, ?_, fun ca cb => ⟨fun h => ?_, fun h => ?_⟩⟩
  · rcases cmpI_cases (sv m a) (sv m b) with ⟨_, e⟩ | ⟨_, e⟩ | ⟨_, e⟩ <;> omega
  · rcases cmpI_cases (sv m a) (sv m b) with ⟨_, e⟩ | ⟨_, e⟩ | ⟨_, e⟩ <;> omega
  · intro x y
    rcases cmpI_cases (sv m a) (sv m b) with ⟨p, e⟩ | ⟨p, e⟩ | ⟨p, e⟩ <;> rcases cmpI_cases (sv m b) (sv m c) with ⟨p2, e2⟩ | ⟨p2, e2⟩ | ⟨p2, e2⟩ <;> rcases cmpI_cases (sv m a) (sv m c) with ⟨p3, e3⟩ | ⟨p3, e3⟩ | ⟨p3, e3⟩ <;> omega
  · rcases cmpI_cases (sv m a) (sv m b) with ⟨p, e⟩ | ⟨p, e⟩ | ⟨p, e⟩
    · omega
    · exact sv_canon h1 h2 ca cb p
    · omega
  · obtain ⟨e1, e2, e3⟩ := h
    have : sv m a = sv m b := by unfold sv mag; rw [e1, e2, e3]
    rw [this]
    simp [cmpI]
end Go.Proofs.NumLine
