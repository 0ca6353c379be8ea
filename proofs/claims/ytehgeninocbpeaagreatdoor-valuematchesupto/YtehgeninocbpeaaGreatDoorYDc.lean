import Derived.Test.YtehgeninocbpeaaGreatDoorYT
import Derived.Test.YtehgeninocbpeaaGreatDoorProg
import Derived.Test.YtehgeninocbpeaaGreatDoorYH
namespace Go.Proofs.YtehgeninocbpeaaGreatDoor.Nu
open Go Go.Proofs Go.RowKit
theorem isDigit47_any (w : World) (b : Nat) : Calls Tryz.prog 93 #[.int .u8 (b : Int)] w fun e w' => e = .returned (.bool (decide (48 ≤ b) && decide (b ≤ 57))) ∧ w = w' := by
  by_cases h1 : 48 ≤ b
  · have a1 : (48 : Int) ≤ (b : Int) := by omega
    by_cases h2 : b ≤ 57
    · have a2 : (b : Int) ≤ 57 := by omega
      rw [decide_eq_true h1, decide_eq_true h2]
      go_enter Tryz.func93, Tryz.ntmps93
      go_wp2
      go_ret
      exact ⟨rfl, rfl⟩
    · have a2 : decide ((b : Int) ≤ 57) = false := by simp; omega
      rw [decide_eq_true h1, decide_eq_false h2]
      go_enter Tryz.func93, Tryz.ntmps93
      go_wp2
      go_ret
      exact ⟨rfl, rfl⟩
  · have a1 : decide ((48 : Int) ≤ (b : Int)) = false := by simp; omega
    rw [decide_eq_false h1, Bool.false_and]
    go_enter Tryz.func93, Tryz.ntmps93
    go_wp2
    go_ret
    exact ⟨rfl, rfl⟩
set_option maxRecDepth 100000 in
set_option maxHeartbeats 1000000 in
theorem digits32_any (w : World) (s : ByteArray) (a most : Nat) (ha : a ≤ s.size) (hs : s.size ≤ 140737488351232) (hm : most ≤ 100) :
    Calls Tryz.prog 56 #[.string s, .int .i64 (a : Int), .int .i64 (most : Int)] w fun e w' => e = .returned (.int .i64 (cnt s a most : Nat)) ∧ w = w' := by
  obtain ⟨E, hE⟩ : ∃ E, cnt s a most = E := ⟨_, rfl⟩
  have HE0 : Hid (0 + cnt s (a + 0) (most - 0) = E) := by show _ = _; simpa using hE
  rw [hE]
  clear hE
  go_enter Tryz.func56, Tryz.ntmps56
  go_wp2
  go_loopg [7] most (fun g s7 wx => ∃ n : Nat, s7 = .int .i64 (n : Int) ∧ g + n = most ∧ a + n ≤ s.size ∧ Hid (n + cnt s (a + n) (most - n) = E) ∧ w = wx)
  case atStart => exact ⟨0, rfl, by omega, by omega, HE0, rfl⟩
  case round =>
    clear HE0
    obtain ⟨n, rfl, hg, han, HE, rfl⟩ := hrel
    by_cases hn : n < most
    · have hnI : decide ((n : Int) < (most : Int)) = true := by simp; omega
      have hnI2 : decide (n < most) = true := by simp; omega
      have h1 := HE.out
      rw [show most - n = (most - (n + 1)) + 1 by omega, cnt] at h1
      by_cases hl : a + n < s.size
      · have hlI : (a : Int) + (n : Int) < (s.size : Int) := by omega
        have hlI2 : decide ((a : Int) + (n : Int) < (s.size : Int)) = true := by simp; omega
        have hlI3 : decide (a + n < s.size) = true := by simp; omega
        obtain ⟨c, hc⟩ : ∃ c, s[a + n].toNat = c := ⟨_, rfl⟩
        have cD := fun W => isDigit47_any W c
        have eD : isD s (a + n) = (decide (48 ≤ c) && decide (c ≤ 57)) := by
          unfold isD
          rw [← get_get! s (a + n) hl, hc, decide_eq_true hl, Bool.true_and]
        rw [← eD] at cD
        cases hD : isD s (a + n) with
        | true =>
          rw [hD] at h1 cD
          rw [if_pos rfl] at h1
          have HE2 : Hid (n + 1 + cnt s (a + (n + 1)) (most - (n + 1)) = E) := by show _ = _; rw [← h1, ← Nat.add_assoc a n 1]; omega
          clear h1 HE eD hD
          go_wp2_with (first | (go_at_call 93; refine (cD _).mono ?_; rintro e w' ⟨rfl, rfl⟩))
          go_roundg (most - (n + 1))
          case measure => omega
          case rel => exact ⟨n + 1, by first | rfl | simp, by omega, by omega, HE2, rfl⟩
        | false =>
          rw [hD] at h1 cD
          rw [if_neg (by simp)] at h1
          obtain rfl : n = E := by omega
          clear h1 HE eD hD
          go_wp2_with (first | (go_at_call 93; refine (cD _).mono ?_; rintro e w' ⟨rfl, rfl⟩))
          go_ret
          exact ⟨rfl, rfl⟩
      · have hlI : decide ((a : Int) + (n : Int) < (s.size : Int)) = false := by simp; omega
        have hlI3 : decide (a + n < s.size) = false := by simp; omega
        have hD : isD s (a + n) = false := by unfold isD; rw [decide_eq_false hl, Bool.false_and]
        rw [hD, if_neg (by simp)] at h1
        obtain rfl : n = E := by omega
        clear h1 HE hD
        go_wp2
        go_ret
        exact ⟨rfl, rfl⟩
    · obtain rfl : n = most := by omega
      have hnI : decide ((n : Int) < (n : Int)) = false := by simp
      have h1 := HE.out
      rw [Nat.sub_self, cnt] at h1
      obtain rfl : n = E := by omega
      clear h1 HE
      go_wp2
      go_ret
      exact ⟨rfl, rfl⟩
set_option maxRecDepth 100000 in
set_option maxHeartbeats 1000000 in
theorem number33_any (w : World) (u : ByteArray) (hu : Digs u) (h8 : u.size ≤ 18) :
    Calls Tryz.prog 57 #[.string u] w fun e w' => e = .returned (.int .i64 (val u.data.toList : Nat)) ∧ w = w' := by
  have HE0 : Hid (valN (u.data.toList.drop 0) 0 = val u.data.toList) := rfl
  have HU : Hid (Digs u) := hu
  generalize val u.data.toList = E at *
  clear hu
  go_enter Tryz.func57, Tryz.ntmps57
  go_wp2
  go_loopg [3, 4] u.size (fun g s3 s4 wx => ∃ pos n : Nat, s3 = .int .i64 (n : Int) ∧ s4 = .int .i64 (pos : Int) ∧ g + pos = u.size ∧ n ≤ 999999999999999999 ∧ Hid (n < 10 ^ pos) ∧ Hid (valN (u.data.toList.drop pos) n = E) ∧ w = wx)
  case atStart => exact ⟨0, 0, rfl, rfl, by omega, by omega, by show 0 < 10 ^ 0; omega, HE0, rfl⟩
  case round =>
    clear HE0
    obtain ⟨pos, n, rfl, rfl, hg, hn8, HN, HE, rfl⟩ := hrel
    by_cases hp : pos < u.size
    · have hd := HU.out u[pos] (by
        have h2 : pos < u.data.size := hp
        have : u[pos] = u.data[pos] := rfl
        rw [this]
        exact Array.getElem_mem_toList h2)
      have h1 := HE.out
      rw [drop_byte hp, valN] at h1
      obtain ⟨c, hc⟩ : ∃ c, u[pos].toNat = c := ⟨_, rfl⟩
      rw [hc] at hd h1
      have HN2 : Hid (10 * n + (c - 48) < 10 ^ (pos + 1)) := by
        have := HN.out
        show _ < _
        rw [Nat.pow_succ]
        omega
      have hN8 : 10 * n + (c - 48) ≤ 999999999999999999 := by
        have h2 := HN2.out
        have h3 : 10 ^ (pos + 1) ≤ 10 ^ 18 := Nat.pow_le_pow_right (by omega) (by omega)
        omega
      have HE2 : Hid (valN (u.data.toList.drop (pos + 1)) (10 * n + (c - 48)) = E) := h1
      obtain ⟨d, hdd⟩ : ∃ d, c - 48 = d := ⟨_, rfl⟩
      rw [hdd] at HE2 HN2 hN8
      have hcd : (c : Int) - 48 = (d : Int) := by omega
      have hd9 : d ≤ 9 := by omega
      have hc57 : c ≤ 57 := by omega
      have hpI : (pos : Int) < (u.size : Int) := by omega
      clear h1 hdd hd HE HN
      go_wp2
      go_roundg (u.size - (pos + 1))
      case measure => omega
      case rel => exact ⟨pos + 1, 10 * n + d, by first | rfl | (simp; omega), by first | rfl | simp, by omega, hN8, HN2, HE2, rfl⟩
    · have hpI : ¬ ((pos : Int) < (u.size : Int)) := by omega
      have hE : n = E := by
        have h1 := HE.out
        rw [List.drop_eq_nil_of_le (by rw [Array.length_toList]; show u.size ≤ _; omega)] at h1
        exact h1
      subst hE
      clear HE
      go_wp2
      go_ret
      exact ⟨rfl, rfl⟩
end Go.Proofs.YtehgeninocbpeaaGreatDoor.Nu

namespace Go.Proofs.NumLine
structure Nm where
  neg : Bool
  d : Nat
  e : Int
def cmpI (x y : Int) : Int := if x < y then -1 else if y < x then 1 else 0
def sgn (a : Nm) : Int := if a.d = 0 then 0 else if a.neg = true then -1 else 1
def csz0 (a b : Nm) : Int := if 19 < (a.e - b.e).toNat then 1 else cmpI (a.d * 10 ^ (a.e - b.e).toNat : Nat) (b.d : Nat)
def csz (a b : Nm) : Int := if a.e < b.e then -(csz0 b a) else csz0 a b
def cmpN (a b : Nm) : Int := if cmpI (sgn a) (sgn b) ≠ 0 then cmpI (sgn a) (sgn b) else sgn a * csz a b
def mag (m : Int) (a : Nm) : Nat := a.d * 10 ^ (a.e - m).toNat
def sv (m : Int) (a : Nm) : Int := if a.neg = true then -(mag m a : Int) else (mag m a : Int)
theorem cmpI_cases (x y : Int) : (x < y ∧ cmpI x y = -1) ∨ (x = y ∧ cmpI x y = 0) ∨ (y < x ∧ cmpI x y = 1) := by
  unfold cmpI
  rcases Int.lt_trichotomy x y with h | h | h
  · exact .inl ⟨h, by rw [if_pos h]⟩
  · exact .inr (.inl ⟨h, by rw [if_neg (by omega), if_neg (by omega)]⟩)
  · exact .inr (.inr ⟨h, by rw [if_neg (by omega), if_pos h]⟩)
theorem cmpI_scale (x y k : Nat) (hk : 0 < k) : cmpI ((x * k : Nat) : Int) ((y * k : Nat) : Int) = cmpI (x : Int) (y : Int) := by
  have h1 : x * k < y * k ↔ x < y := Nat.mul_lt_mul_right hk
  have h2 : y * k < x * k ↔ y < x := Nat.mul_lt_mul_right hk
  generalize x * k = X at *
  generalize y * k = Y at *
  rcases cmpI_cases (X : Int) (Y : Int) with ⟨h, e⟩ | ⟨h, e⟩ | ⟨h, e⟩ <;> rcases cmpI_cases (x : Int) (y : Int) with ⟨h2, e2⟩ | ⟨h2, e2⟩ | ⟨h2, e2⟩ <;> omega
theorem cmpI_neg (x y : Int) : cmpI (-x) (-y) = -(cmpI x y) := by
  rcases cmpI_cases x y with ⟨h, e⟩ | ⟨h, e⟩ | ⟨h, e⟩ <;> rcases cmpI_cases (-x) (-y) with ⟨h2, e2⟩ | ⟨h2, e2⟩ | ⟨h2, e2⟩ <;> omega
theorem cmpI_swap (x y : Int) : cmpI y x = -(cmpI x y) := by
  rcases cmpI_cases x y with ⟨h, e⟩ | ⟨h, e⟩ | ⟨h, e⟩ <;> rcases cmpI_cases y x with ⟨h2, e2⟩ | ⟨h2, e2⟩ | ⟨h2, e2⟩ <;> omega
theorem mag_pos {m : Int} {a : Nm} (h : a.d ≠ 0) : 0 < mag m a := Nat.mul_pos (by omega) (Nat.pow_pos (by decide))
theorem mag_zero {m : Int} {a : Nm} (h : a.d = 0) : mag m a = 0 := by unfold mag; rw [h, Nat.zero_mul]
theorem csz0_mag {m : Int} {a b : Nm} (hb : m ≤ b.e) (hab : b.e ≤ a.e) (ha0 : a.d ≠ 0) (hb20 : b.d < 10 ^ 20) : csz0 a b = cmpI (mag m a : Int) (mag m b : Int) := by
  obtain ⟨k, hk⟩ : ∃ k : Nat, a.e - b.e = (k : Int) := ⟨(a.e - b.e).toNat, by omega⟩
  obtain ⟨l, hl⟩ : ∃ l : Nat, b.e - m = (l : Int) := ⟨(b.e - m).toNat, by omega⟩
  have e1 : (a.e - b.e).toNat = k := by omega
  have e2 : (b.e - m).toNat = l := by omega
  have e3 : (a.e - m).toNat = k + l := by omega
  have hp : 0 < 10 ^ l := Nat.pow_pos (by decide)
  have hm : mag m a = a.d * 10 ^ k * 10 ^ l := by unfold mag; rw [e3, Nat.pow_add, Nat.mul_assoc]
  have hm2 : mag m b = b.d * 10 ^ l := by unfold mag; rw [e2]
  rw [hm, hm2, cmpI_scale _ _ _ hp]
  unfold csz0
  rw [e1]
  by_cases h19 : 19 < k
  · rw [if_pos h19]
    have h1 : 10 ^ 20 ≤ 10 ^ k := Nat.pow_le_pow_right (by decide) (by omega)
    have h2 : 1 * 10 ^ k ≤ a.d * 10 ^ k := Nat.mul_le_mul_right _ (by omega)
    rcases cmpI_cases ((a.d * 10 ^ k : Nat) : Int) (b.d : Int) with ⟨h, e⟩ | ⟨h, e⟩ | ⟨h, e⟩
    · omega
    · omega
    · exact e.symm
  · rw [if_neg h19]
theorem csz_mag {m : Int} {a b : Nm} (ha : m ≤ a.e) (hb : m ≤ b.e) (ha0 : a.d ≠ 0) (hb0 : b.d ≠ 0) (ha20 : a.d < 10 ^ 20) (hb20 : b.d < 10 ^ 20) : csz a b = cmpI (mag m a : Int) (mag m b : Int) := by
  unfold csz
  by_cases h : a.e < b.e
  · rw [if_pos h, csz0_mag (m := m) ha (by omega) hb0 ha20, cmpI_swap]
    omega
  · rw [if_neg h, csz0_mag (m := m) hb (by omega) ha0 hb20]
theorem cmpN_sv {m : Int} {a b : Nm} (ha : m ≤ a.e) (hb : m ≤ b.e) (ha20 : a.d < 10 ^ 20) (hb20 : b.d < 10 ^ 20) : cmpN a b = cmpI (sv m a) (sv m b) := by
  have za : a.d = 0 → sv m a = 0 := fun h => by unfold sv; rw [mag_zero h]; split <;> rfl
  have zb : b.d = 0 → sv m b = 0 := fun h => by unfold sv; rw [mag_zero h]; split <;> rfl
  have pa : a.d ≠ 0 → 0 < (mag m a : Int) := fun h => by have := mag_pos (m := m) h; omega
  have pb : b.d ≠ 0 → 0 < (mag m b : Int) := fun h => by have := mag_pos (m := m) h; omega
  unfold cmpN
  by_cases h1 : a.d = 0 <;> by_cases h2 : b.d = 0
  · rw [za h1, zb h2]; unfold sgn; rw [if_pos h1, if_pos h2]; simp [cmpI]
  · have := pb h2
    rw [za h1]; unfold sgn sv; rw [if_pos h1, if_neg h2]
    by_cases nb : b.neg = true
    · rw [if_pos nb, if_pos nb, show cmpI 0 (-1) = 1 by decide, if_pos (by decide)]
      rcases cmpI_cases 0 (-(mag m b : Int)) with ⟨h, e⟩ | ⟨h, e⟩ | ⟨h, e⟩ <;> omega
    · rw [if_neg nb, if_neg nb, show cmpI 0 1 = -1 by decide, if_pos (by decide)]
      rcases cmpI_cases 0 (mag m b : Int) with ⟨h, e⟩ | ⟨h, e⟩ | ⟨h, e⟩ <;> omega
  · have := pa h1
    rw [zb h2]; unfold sgn sv; rw [if_neg h1, if_pos h2]
    by_cases na : a.neg = true
    · rw [if_pos na, if_pos na, show cmpI (-1) 0 = -1 by decide, if_pos (by decide)]
      rcases cmpI_cases (-(mag m a : Int)) 0 with ⟨h, e⟩ | ⟨h, e⟩ | ⟨h, e⟩ <;> omega
    · rw [if_neg na, if_neg na, show cmpI 1 0 = 1 by decide, if_pos (by decide)]
      rcases cmpI_cases (mag m a : Int) 0 with ⟨h, e⟩ | ⟨h, e⟩ | ⟨h, e⟩ <;> omega
  · have p1 := pa h1
    have p2 := pb h2
    have hc := csz_mag ha hb h1 h2 ha20 hb20
    unfold sgn sv
    rw [if_neg h1, if_neg h2]
    by_cases na : a.neg = true <;> by_cases nb : b.neg = true
    · rw [if_pos na, if_pos nb, if_pos na, if_pos nb, if_neg (by decide), hc, cmpI_neg]; omega
    · rw [if_pos na, if_neg nb, if_pos na, if_neg nb, if_pos (by decide)]
      rcases cmpI_cases (-(mag m a : Int)) (mag m b : Int) with ⟨h, e⟩ | ⟨h, e⟩ | ⟨h, e⟩
      · rw [e]; decide
      · omega
      · omega
    · rw [if_neg na, if_pos nb, if_neg na, if_pos nb, if_pos (by decide)]
      rcases cmpI_cases (mag m a : Int) (-(mag m b : Int)) with ⟨h, e⟩ | ⟨h, e⟩ | ⟨h, e⟩
      · omega
      · omega
      · rw [e]; decide
    · rw [if_neg na, if_neg nb, if_neg na, if_neg nb, if_neg (by decide), hc]; omega
def Canon (a : Nm) : Prop := (a.d = 0 ∧ a.neg = false ∧ a.e = 0) ∨ a.d % 10 ≠ 0
theorem mag_canon {m : Int} {a b : Nm} (ha : m ≤ a.e) (hb : m ≤ b.e) (h1 : a.d % 10 ≠ 0) (h2 : b.d % 10 ≠ 0) (h : mag m a = mag m b) : a.d = b.d ∧ a.e = b.e := by
  have key : ∀ (x y : Nat) (k l : Nat), x % 10 ≠ 0 → y % 10 ≠ 0 → x * 10 ^ k = y * 10 ^ l → k ≤ l → x = y ∧ k = l := by
    intro x y k l hx hy hxy hkl
    obtain ⟨r, rfl⟩ : ∃ r, l = k + r := ⟨l - k, by omega⟩
    have hp : 0 < 10 ^ k := Nat.pow_pos (by decide)
    rw [Nat.pow_add, Nat.mul_comm (10 ^ k) (10 ^ r), ← Nat.mul_assoc] at hxy
    have := Nat.eq_of_mul_eq_mul_right hp hxy
    cases r with
    | zero => simp at this; exact ⟨this, by omega⟩
    | succ r => rw [Nat.pow_succ, ← Nat.mul_assoc] at this; omega
  unfold mag at h
  rcases Nat.le_total (a.e - m).toNat (b.e - m).toNat with hk | hk
  · have := key _ _ _ _ h1 h2 h hk
    exact ⟨this.1, by omega⟩
  · have := key _ _ _ _ h2 h1 h.symm hk
    exact ⟨this.1.symm, by omega⟩
theorem sv_canon {m : Int} {a b : Nm} (ha : m ≤ a.e) (hb : m ≤ b.e) (h1 : Canon a) (h2 : Canon b) (h : sv m a = sv m b) : a.neg = b.neg ∧ a.d = b.d ∧ a.e = b.e := by
  have p : ∀ c : Nm, c.d % 10 ≠ 0 → 0 < (mag m c : Int) := fun c hc => by have := mag_pos (m := m) (a := c) (by omega); omega
  unfold sv at h
  rcases h1 with ⟨z1, n1, e1⟩ | h1 <;> rcases h2 with ⟨z2, n2, e2⟩ | h2
  · exact ⟨by rw [n1, n2], by omega, by omega⟩
  · have := p b h2
    rw [mag_zero z1] at h
    split at h <;> split at h <;> simp at h <;> omega
  · have := p a h1
    rw [mag_zero z2] at h
    split at h <;> split at h <;> simp at h <;> omega
  · have q1 := p a h1
    have q2 := p b h2
    by_cases na : a.neg = true <;> by_cases nb : b.neg = true
    · rw [if_pos na, if_pos nb] at h
      have := mag_canon ha hb h1 h2 (by omega)
      exact ⟨by rw [na, nb], this⟩
    · rw [if_pos na, if_neg nb] at h; omega
    · rw [if_neg na, if_pos nb] at h; omega
    · rw [if_neg na, if_neg nb] at h
      have := mag_canon ha hb h1 h2 (by omega)
      exact ⟨by simp at na nb; rw [na, nb], this⟩
theorem line {a b c : Nm} (ha : a.d < 10 ^ 20) (hb : b.d < 10 ^ 20) (hc : c.d < 10 ^ 20) :
    cmpN a b = -(cmpN b a) ∧ cmpN a a = 0 ∧ -1 ≤ cmpN a b ∧ cmpN a b ≤ 1 ∧ (cmpN a b ≤ 0 → cmpN b c ≤ 0 → cmpN a c ≤ 0 ∧ (cmpN a c = 0 → cmpN a b = 0 ∧ cmpN b c = 0)) ∧ (Canon a → Canon b → (cmpN a b = 0 ↔ a.neg = b.neg ∧ a.d = b.d ∧ a.e = b.e)) := by
  obtain ⟨m, h1, h2, h3⟩ : ∃ m : Int, m ≤ a.e ∧ m ≤ b.e ∧ m ≤ c.e := ⟨min a.e (min b.e c.e), by omega, by omega, by omega⟩
  rw [cmpN_sv h1 h2 ha hb, cmpN_sv h2 h1 hb ha, cmpN_sv h1 h1 ha ha, cmpN_sv h2 h3 hb hc, cmpN_sv h1 h3 ha hc]
  refine ⟨by rw [cmpI_swap], by simp [cmpI], ?_, ?_, ?_, fun ca cb => ⟨fun h => ?_, fun h => ?_⟩⟩
  · rcases cmpI_cases (sv m a) (sv m b) with ⟨_, e⟩ | ⟨_, e⟩ | ⟨_, e⟩ <;> omega
  · rcases cmpI_cases (sv m a) (sv m b) with ⟨_, e⟩ | ⟨_, e⟩ | ⟨_, e⟩ <;> omega
  · intro x y
    rcases cmpI_cases (sv m a) (sv m b) with ⟨p, e⟩ | ⟨p, e⟩ | ⟨p, e⟩ <;> rcases cmpI_cases (sv m b) (sv m c) with ⟨p2, e2⟩ | ⟨p2, e2⟩ | ⟨p2, e2⟩ <;> rcases cmpI_cases (sv m a) (sv m c) with ⟨p3, e3⟩ | ⟨p3, e3⟩ | ⟨p3, e3⟩ <;> omega
  · rcases cmpI_cases (sv m a) (sv m b) with ⟨p, e⟩ | ⟨p, e⟩ | ⟨p, e⟩
    · omega
    · exact sv_canon h1 h2 ca cb p
    · omega
  · obtain ⟨e1, e2, e3⟩ := h
    have : sv m a = sv m b := by unfold sv mag; rw [e1, e2, e3]
    rw [this]
    simp [cmpI]
end Go.Proofs.NumLine

namespace Go.Proofs.YtehgeninocbpeaaGreatDoor.Nu
open Go Go.Proofs Go.RowKit NumLine
def nv (a : Nm) : Value := .agg #[.bool a.neg, .int .u64 (a.d : Int), .int .i64 a.e]
end Go.Proofs.YtehgeninocbpeaaGreatDoor.Nu

namespace Go.Proofs.YtehgeninocbpeaaGreatDoor.Nu
open Go Go.Proofs Go.RowKit NumLine
def Ex (neg : Bool) (d : Nat) (x : Int) (r : Nm) : Prop := (d = 0 ∧ r = ⟨false, 0, 0⟩) ∨ (d ≠ 0 ∧ ∃ k : Nat, r.neg = neg ∧ r.d * 10 ^ k = d ∧ r.d % 10 ≠ 0 ∧ r.e = x + (k : Int))
theorem pow_small {d k : Nat} {m : Nat} (h : m * 10 ^ k = d) (hd : d < 10 ^ 20) (h0 : d ≠ 0) : k < 20 := by
  have hm : m ≠ 0 := by rintro rfl; simp at h; omega
  have h1 : 1 * 10 ^ k ≤ m * 10 ^ k := Nat.mul_le_mul_right _ (by omega)
  refine Decidable.byContradiction fun hk => ?_
  have h2 : 10 ^ 20 ≤ 10 ^ k := Nat.pow_le_pow_right (by decide) (by omega)
  omega
set_option maxRecDepth 100000 in
theorem exactly_any (w : World) (neg : Bool) (d : Nat) (x : Int) (hd : d < 10 ^ 19) (hx1 : -1000000000000000000 ≤ x) (hx2 : x ≤ 1000000000000000000) :
    Calls Tryz.prog 75 #[.bool neg, .int .u64 (d : Int), .int .i64 x] w fun e w' => (∃ r, e = .returned (nv r) ∧ Ex neg d x r) ∧ Below w.heap.size w w' := by
  by_cases h0 : d = 0
  · subst h0
    go_enter Tryz.func75, Tryz.ntmps75
    go_wp2
    refine bodyPost_ret (v := nv ⟨false, 0, 0⟩) (by simp [results, Tryz.results75, go_sem, nv]) rfl ⟨⟨_, rfl, .inl ⟨rfl, rfl⟩⟩, ?_⟩
    repeat (refine Below.setCell ?_ (Nat.le_refl _) _)
    exact (Below.refl _ _).alloc (Nat.le_refl _) _
  · have hI : ((d : Int) == 0) = false := by simp; exact h0
    have HD : Hid (d < 10 ^ 19) := hd
    have HB : Hid (Below w.heap.size w (w.alloc (Obj.cells #[Value.bool false, Value.int IntKind.u64 0, Value.int IntKind.i64 0] 73))) := (Below.refl _ _).alloc (Nat.le_refl _) _
    clear hd
    go_enter Tryz.func75, Tryz.ntmps75
    go_wp2
    go_loopg [1, 2] d (fun g s1 s2 wx => ∃ (m k : Nat) (y : Int), s1 = .int .u64 (m : Int) ∧ s2 = .int .i64 y ∧ g = m ∧ 0 < m ∧ m < 10000000000000000000 ∧ Hid (m * 10 ^ k = d) ∧ Hid (y = x + (k : Int)) ∧ y ≤ 1000000000000000020 ∧ -1000000000000000000 ≤ y ∧ wx = w.alloc (Obj.cells #[Value.bool false, Value.int IntKind.u64 0, Value.int IntKind.i64 0] 73))
    case atStart => exact ⟨d, 0, x, rfl, rfl, rfl, by omega, HD.out, by show _ = _; simp, by show _ = _; simp, by omega, by omega, rfl⟩
    case round =>
      obtain ⟨m, k, y, rfl, rfl, rfl, hm, hm2, HM, HY, hy, hy2, rfl⟩ := hrel
      have hk : k < 20 := pow_small HM.out (Nat.lt_of_lt_of_le HD.out (by decide)) h0
      have hyk : y ≤ x + (k : Int) := by rw [HY.out]; exact Int.le_refl _
      by_cases hz : gk % 10 = 0
      · obtain ⟨q, hq⟩ : ∃ q, gk = 10 * q := ⟨gk / 10, by omega⟩
        subst hq
        have h1 : (((10 * q : Nat) : Int) % 10 == 0) = true := by simp
        have h2 : ((10 * q : Nat) : Int) / 10 = (q : Int) := by omega
        have HM2 : Hid (q * 10 ^ (k + 1) = d) := by show _ = _; rw [← HM.out, Nat.pow_succ]; ac_rfl
        go_wp2
        go_roundg q
        case measure => omega
        case rel => exact ⟨q, k + 1, y + 1, by first | rfl | (simp [h2]), rfl, rfl, by omega, by omega, HM2, by show _ = _; rw [HY.out]; omega, by omega, by omega, rfl⟩
      · have h1 : ((gk : Int) % 10 == 0) = false := by simp; omega
        go_wp2
        refine bodyPost_ret (v := nv ⟨neg, gk, y⟩) (by simp [results, Tryz.results75, go_sem, nv]) rfl ⟨⟨_, rfl, .inr ⟨h0, k, rfl, HM.out, hz, HY.out⟩⟩, ?_⟩
        repeat (refine Below.setCell ?_ (Nat.le_refl _) _)
        exact (Below.refl _ _).alloc (Nat.le_refl _) _
end Go.Proofs.YtehgeninocbpeaaGreatDoor.Nu

namespace Go.Proofs.YtehgeninocbpeaaGreatDoor.Nu
open Go Go.Proofs Go.RowKit NumLine
def n0 (s : ByteArray) : Nat := tP s 0 43 45
def n1 (s : ByteArray) : Nat := cnt s (n0 s) s.size
def n2 (s : ByteArray) : Nat := dP s (n0 s + n1 s)
def n3 (s : ByteArray) : Nat := cnt s (n2 s) s.size
def nD (s : ByteArray) : ByteArray := s.extract (n0 s) (n0 s + n1 s) ++ s.extract (n2 s) (n2 s + n3 s)
def nB (s : ByteArray) : Bool := decide (n1 s + n3 s < 1)
def n4 (s : ByteArray) : Nat := tP s (n2 s + n3 s) 69 101
def isE (s : ByteArray) : Bool := decide (tk s (n2 s + n3 s) 69 101 ≠ 0)
def n5 (s : ByteArray) : Nat := tP s (n4 s) 43 45
def n6 (s : ByteArray) : Nat := cnt s (n5 s) s.size
def nX (s : ByteArray) : Int := if isE s = true then -(n3 s : Int) + whV s (n4 s) else -(n3 s : Int)
def nEnd (s : ByteArray) : Nat := if nB s = true then n2 s + n3 s else if isE s = true then n5 s + n6 s else n4 s
def nBad (s : ByteArray) : Bool := nB s || (isE s && decide (n6 s < 1))
def nNeg (s : ByteArray) : Bool := decide (tk s 0 43 45 = 45)
def Ok (s : ByteArray) : Prop := s.size ≤ 16 ∧ nBad s = false ∧ ¬ nEnd s < s.size
theorem n0_le (s : ByteArray) : n0 s ≤ s.size := tP_le (Nat.zero_le _) (by decide) (by decide)
theorem n1_le (s : ByteArray) : n0 s + n1 s ≤ s.size := cnt_size s s.size _ (n0_le s)
theorem n2_le (s : ByteArray) : n2 s ≤ s.size := dP_le (n1_le s)
theorem n3_le (s : ByteArray) : n2 s + n3 s ≤ s.size := cnt_size s s.size _ (n2_le s)
theorem n4_le (s : ByteArray) : n4 s ≤ s.size := tP_le (n3_le s) (by decide) (by decide)
theorem n5_le (s : ByteArray) : n5 s ≤ s.size := tP_le (n4_le s) (by decide) (by decide)
theorem n6_le (s : ByteArray) : n5 s + n6 s ≤ s.size := cnt_size s s.size _ (n5_le s)
theorem n01_2 (s : ByteArray) : n0 s + n1 s ≤ n2 s := by unfold n2 dP; split <;> omega
theorem nD_size (s : ByteArray) : (nD s).size = n1 s + n3 s := by
  unfold nD
  have h1 := n1_le s
  have h2 := n3_le s
  rw [ByteArray.size_append, ByteArray.size_extract, ByteArray.size_extract]
  omega
theorem nD_digs (s : ByteArray) : Digs (nD s) := by
  intro b hb
  unfold nD at hb
  rw [ByteArray.data_append, Array.toList_append, List.mem_append] at hb
  rcases hb with hb | hb
  · exact digs_ext s (n0 s) (n1 s) s.size (Nat.le_refl _) b hb
  · exact digs_ext s (n2 s) (n3 s) s.size (Nat.le_refl _) b hb
theorem nD_lt (s : ByteArray) (h : s.size ≤ 16) : val (nD s).data.toList < 10000000000000000 := by
  have h1 := valN_lt (nD s).data.toList 0 (nD_digs s)
  have h2 : (nD s).data.toList.length ≤ 16 := by
    rw [Array.length_toList]
    show (nD s).size ≤ 16
    rw [nD_size]
    have := n3_le s
    have := n01_2 s
    omega
  have h3 : 10 ^ (nD s).data.toList.length ≤ 10 ^ 16 := Nat.pow_le_pow_right (by decide) h2
  unfold val
  omega
theorem whV_lt (s : ByteArray) (h : s.size ≤ 16) (a : Nat) : -10000000000000000 ≤ whV s a ∧ whV s a ≤ 10000000000000000 := by
  unfold whV
  dsimp only
  generalize tP s a 43 45 = p
  have hD := digs_ext s p (cnt s p s.size) s.size (Nat.le_refl _)
  have h1 := valN_lt _ 0 hD
  have h2 : (s.extract p (p + cnt s p s.size)).data.toList.length ≤ 16 := by
    rw [Array.length_toList]
    show (s.extract p (p + cnt s p s.size)).size ≤ 16
    rw [ByteArray.size_extract]
    omega
  have h3 : 10 ^ (s.extract p (p + cnt s p s.size)).data.toList.length ≤ 10 ^ 16 := Nat.pow_le_pow_right (by decide) h2
  unfold val
  split <;> omega
def zf : Nat → Value
  | 0 => .bool false
  | 1 => .int .u64 0
  | _ => .int .i64 0
theorem zrow (w : World) : (w.alloc (.cells #[.bool false, .int .u64 0, .int .i64 0] 73)).rowIs w.heap.size 73 3 zf :=
  World.rowIs_alloc w #[.bool false, .int .u64 0, .int .i64 0] 73 zf (fun i hi => by
    have h3 : i = 0 ∨ i = 1 ∨ i = 2 := by simp at hi; omega
    rcases h3 with rfl | rfl | rfl <;> rfl)
theorem PErr.tset {W : World} {v : Value} {o : Option (Int × Int)} (h : PErr W v o) {B : Nat} {x : Bool} (h0 : W.cell? ⟨B, 0, none⟩ = some (.bool x)) (i : Nat) (u : Value) : PErr (W.setCell ⟨B, i, none⟩ u) v o := by
  cases o with
  | none => exact h
  | some y =>
    obtain ⟨q, rfl, h1, h2, h3⟩ := h
    have hne : q ≠ B := by rintro rfl; rw [h0] at h1; simp at h1
    have hb : (W.setCell ⟨B, i, none⟩ u).heap[q]? = W.heap[q]? := Below.heap_setCell W ⟨B, i, none⟩ u q hne
    exact ⟨q, rfl, (World.cell?_of_block (w := W) hb).trans h1, (World.cell?_of_block (w := W) hb).trans h2, (World.cell?_of_block (w := W) hb).trans h3⟩
def put3 (W : World) (B : Nat) (r : Nm) : World := ((W.setCell ⟨B, 0, none⟩ (.bool r.neg)).setCell ⟨B, 1, none⟩ (.int .u64 (r.d : Int))).setCell ⟨B, 2, none⟩ (.int .i64 r.e)
theorem put3_all {W : World} {B : Nat} {v : Value} {o : Option (Int × Int)} (hr : W.rowIs B 73 3 zf) (hp : PErr W v o) (r : Nm) :
    PErr (put3 W B r) v o ∧ (W.setCell ⟨B, 0, none⟩ (.bool r.neg)).cell? ⟨B, 0, none⟩ = some (.bool r.neg) ∧ ((W.setCell ⟨B, 0, none⟩ (.bool r.neg)).setCell ⟨B, 1, none⟩ (.int .u64 (r.d : Int))).cell? ⟨B, 1, none⟩ = some (.int .u64 (r.d : Int)) ∧ (put3 W B r).cell? ⟨B, 2, none⟩ = some (.int .i64 r.e) := by
  have r1 := hr.set 0 (.bool r.neg)
  have r2 := r1.set 1 (.int .u64 (r.d : Int))
  have r3 := r2.set 2 (.int .i64 r.e)
  refine ⟨?_, r1.cell (i := 0) (by omega), r2.cell (i := 1) (by omega), r3.cell (i := 2) (by omega)⟩
  exact ((hp.tset (hr.cell (i := 0) (by omega)) 0 _).tset (r1.cell (i := 0) (by omega)) 1 _).tset (r2.cell (i := 0) (by omega)) 2 _
theorem put3_below {w W : World} {B : Nat} (h : Below B w W) (r : Nm) : Below B w (put3 W B r) :=
  ((h.setCell (p := ⟨B, 0, none⟩) (Nat.le_refl _) _).setCell (p := ⟨B, 1, none⟩) (Nat.le_refl _) _).setCell (p := ⟨B, 2, none⟩) (Nat.le_refl _) _
end Go.Proofs.YtehgeninocbpeaaGreatDoor.Nu

namespace Go.Proofs.YtehgeninocbpeaaGreatDoor.Nu
open Go Go.Proofs Go.RowKit NumLine
theorem isD_lt {s : ByteArray} {a : Nat} (h : isD s a = true) : a < s.size := by
  unfold isD at h; simp at h; exact h.1
theorem cnt_not {s : ByteArray} {a : Nat} (h : isD s a = false) (m : Nat) : cnt s a m = 0 := by
  cases m with
  | zero => rfl
  | succ m => rw [cnt, if_neg (by rw [h]; decide)]
theorem cnt_more (s : ByteArray) : ∀ m m' a, s.size ≤ a + m → s.size ≤ a + m' → cnt s a m = cnt s a m'
  | 0, m', a, h, _ => by
    have : isD s a = false := by
      cases hd : isD s a with
      | true => have := isD_lt hd; omega
      | false => rfl
    rw [cnt_not this, cnt_not this]
  | m + 1, m', a, h, h' => by
    cases hd : isD s a with
    | false => rw [cnt_not hd, cnt_not hd]
    | true =>
      have := isD_lt hd
      obtain ⟨k, rfl⟩ : ∃ k, m' = k + 1 := ⟨m' - 1, by omega⟩
      rw [cnt, cnt, if_pos hd, if_pos hd, cnt_more s m k (a + 1) (by omega) (by omega)]
theorem cnt_stop (s : ByteArray) : ∀ m a, s.size ≤ a + m → isD s (a + cnt s a m) = false
  | 0, a, h => by
    cases hd : isD s (a + cnt s a 0) with
    | true => have := isD_lt hd; omega
    | false => rfl
  | m + 1, a, h => by
    cases hd : isD s a with
    | false => rw [cnt_not hd]; exact hd
    | true =>
      have := cnt_stop s m (a + 1) (by omega)
      rw [cnt, if_pos hd, ← Nat.add_assoc]
      exact this
theorem none34_any (w : World) : Calls Tryz.prog 27 #[] w fun e w' => e = .returned (.agg #[.slice none 0 0, .int .i64 0]) ∧ Below w.heap.size w w' := by
  go_enter Tryz.func27, Tryz.ntmps27
  go_wp2
  refine bodyPost_ret (v := .agg #[.slice none 0 0, .int .i64 0]) (by simp [results, Tryz.results27, go_sem]) rfl ⟨rfl, ?_⟩
  repeat (first | exact Below.refl _ _ | refine Below.setCell ?_ (Nat.le_refl _) _ | refine Below.alloc ?_ (Nat.le_refl _) _)
theorem zrow_cells {W : World} {B : Nat} (h : W.rowIs B 73 3 zf) : W.cell? ⟨B, 0, none⟩ = some (.bool false) ∧ W.cell? ⟨B, 1, none⟩ = some (.int .u64 0) ∧ W.cell? ⟨B, 2, none⟩ = some (.int .i64 0) :=
  ⟨h.cell (i := 0) (by omega), h.cell (i := 1) (by omega), h.cell (i := 2) (by omega)⟩
theorem put3_cells {W : World} {B : Nat} (hr : W.rowIs B 73 3 zf) (r : Nm) :
    (W.setCell ⟨B, 0, none⟩ (.bool r.neg)).cell? ⟨B, 0, none⟩ = some (.bool r.neg) ∧ ((W.setCell ⟨B, 0, none⟩ (.bool r.neg)).setCell ⟨B, 1, none⟩ (.int .u64 (r.d : Int))).cell? ⟨B, 1, none⟩ = some (.int .u64 (r.d : Int)) ∧ (put3 W B r).cell? ⟨B, 2, none⟩ = some (.int .i64 r.e) :=
  (put3_all hr (v := .nilIface) (o := none) rfl r).2
set_option maxRecDepth 100000 in
set_option maxHeartbeats 1000000 in
theorem short36_any (w : World) (neg : Bool) (u : ByteArray) (x : Int) (hu : Digs u) (h16 : u.size ≤ 16) (hx1 : -100000000000000000 ≤ x) (hx2 : x ≤ 100000000000000000) :
    Calls Tryz.prog 58 #[.bool neg, .string u, .int .i64 x] w fun e w' => (∃ r, e = .returned (nv r) ∧ Ex neg (val u.data.toList) x r) ∧ Below w.heap.size w w' := by
  have HE0 : Hid (valN (u.data.toList.drop 0) 0 = val u.data.toList) := rfl
  have HU : Hid (Digs u) := hu
  generalize val u.data.toList = E at *
  obtain ⟨W0, hW0⟩ : ∃ W0, w.alloc (Obj.cells #[Value.bool false, Value.int IntKind.u64 0, Value.int IntKind.i64 0] 73) = W0 := ⟨_, rfl⟩
  have HB : Hid (Below w.heap.size w W0) := hW0 ▸ (Below.refl _ _).alloc (Nat.le_refl _) _
  have HR : Hid (W0.rowIs w.heap.size 73 3 zf) := hW0 ▸ zrow w
  clear hu
  go_enter Tryz.func58, Tryz.ntmps58
  go_wp2
  go_loopg [7, 8] u.size (fun g s7 s8 wx => ∃ pos n : Nat, s7 = .int .u64 (n : Int) ∧ s8 = .int .i64 (pos : Int) ∧ g + pos = u.size ∧ n ≤ 9999999999999999 ∧ Hid (n < 10 ^ pos) ∧ Hid (valN (u.data.toList.drop pos) n = E) ∧ W0 = wx)
  case atStart => exact ⟨0, 0, rfl, rfl, by omega, by omega, by show 0 < 10 ^ 0; omega, HE0, rfl⟩
  case round =>
    clear HE0 hW0
    obtain ⟨pos, n, rfl, rfl, hg, hn8, HN, HE, rfl⟩ := hrel
    by_cases hp : pos < u.size
    · have hd := HU.out u[pos] (by
        have h2 : pos < u.data.size := hp
        have : u[pos] = u.data[pos] := rfl
        rw [this]
        exact Array.getElem_mem_toList h2)
      have h1 := HE.out
      rw [drop_byte hp, valN] at h1
      obtain ⟨c, hc⟩ : ∃ c, u[pos].toNat = c := ⟨_, rfl⟩
      rw [hc] at hd h1
      have HN2 : Hid (10 * n + (c - 48) < 10 ^ (pos + 1)) := by
        have := HN.out
        show _ < _
        rw [Nat.pow_succ]
        omega
      have hN8 : 10 * n + (c - 48) ≤ 9999999999999999 := by
        have h2 := HN2.out
        have h3 : 10 ^ (pos + 1) ≤ 10 ^ 16 := Nat.pow_le_pow_right (by omega) (by omega)
        omega
      have HE2 : Hid (valN (u.data.toList.drop (pos + 1)) (10 * n + (c - 48)) = E) := h1
      obtain ⟨d, hdd⟩ : ∃ d, c - 48 = d := ⟨_, rfl⟩
      rw [hdd] at HE2 HN2 hN8
      have hcd : (c : Int) - 48 = (d : Int) := by omega
      have hd9 : d ≤ 9 := by omega
      have hc57 : c ≤ 57 := by omega
      have hpI : (pos : Int) < (u.size : Int) := by omega
      clear h1 hdd hd HE HN
      go_wp2
      go_roundg (u.size - (pos + 1))
      case measure => omega
      case rel => exact ⟨pos + 1, 10 * n + d, by first | rfl | (simp; omega), by first | rfl | simp, by omega, hN8, HN2, HE2, rfl⟩
    · have hpI : ¬ ((pos : Int) < (u.size : Int)) := by omega
      have hE : n = E := by
        have h1 := HE.out
        rw [List.drop_eq_nil_of_le (by rw [Array.length_toList]; show u.size ≤ _; omega)] at h1
        exact h1
      subst hE
      clear HE HN
      obtain ⟨r0, r1, r2⟩ := zrow_cells HR.out
      have rf : ∀ i, W0.frozen? ⟨w.heap.size, i, none⟩ = false := fun i => HR.out.frozen i
      have hput := fun r => put3_cells HR.out r
      have hpb := fun r => put3_below HB.out r
      have HPC : Hid (∀ r : Nm, (put3 W0 w.heap.size r).cell? ⟨w.heap.size, 2, none⟩ = some (.int .i64 r.e)) := fun r => (hput r).2.2
      by_cases h0 : n = 0
      · have HN0 : Hid (n = 0) := h0
        have hI : ((n : Int) == 0) = true := by simp; exact h0
        obtain ⟨q0, q1, q2⟩ := hput ⟨false, 0, 0⟩
        have HQ : Hid _ := hpb ⟨false, 0, 0⟩
        clear h0 hput hpb
        unfold put3 at *
        dsimp only at *
        rw [show ((0 : Nat) : Int) = 0 from rfl] at *
        go_wp2
        refine bodyPost_ret (v := nv ⟨false, 0, 0⟩) (by simp [results, Tryz.results58, go_sem, nv, q0, q1, q2]) rfl ⟨⟨_, rfl, .inl ⟨HN0.out, rfl⟩⟩, HQ.out⟩
      · have hI : ((n : Int) == 0) = false := by simp; exact h0
        clear hg
        go_wp2
        go_loopg [7, 2] n (fun g s7 s2 wx => ∃ (m k : Nat) (y : Int), s7 = .int .u64 (m : Int) ∧ s2 = .int .i64 y ∧ g = m ∧ 0 < m ∧ m ≤ 9999999999999999 ∧ Hid (m * 10 ^ k = n) ∧ Hid (y = x + (k : Int)) ∧ y ≤ 1000000000000000020 ∧ -1000000000000000000 ≤ y ∧ W0 = wx)
        case atStart => exact ⟨n, 0, x, rfl, rfl, rfl, by omega, hn8, by show _ = _; simp, by show _ = _; simp, by omega, by omega, rfl⟩
        case round =>
          obtain ⟨m, k, y, rfl, rfl, rfl, hm, hm2, HM, HY, hy, hy2, rfl⟩ := hrel
          have hk : k < 20 := pow_small HM.out (Nat.lt_of_le_of_lt hn8 (by decide)) h0
          have hyk : y ≤ x + (k : Int) := by rw [HY.out]; exact Int.le_refl _
          by_cases hz : gk % 10 = 0
          · obtain ⟨q, hq⟩ : ∃ q, gk = 10 * q := ⟨gk / 10, by omega⟩
            subst hq
            have h1 : (((10 * q : Nat) : Int) % 10 == 0) = true := by simp
            have h2 : ((10 * q : Nat) : Int) / 10 = (q : Int) := by omega
            have HM2 : Hid (q * 10 ^ (k + 1) = n) := by show _ = _; rw [← HM.out, Nat.pow_succ]; ac_rfl
            clear hput hpb
            go_wp2
            go_roundg q
            case measure => omega
            case rel => exact ⟨q, k + 1, y + 1, by first | rfl | (simp [h2]), rfl, rfl, by omega, by omega, HM2, by show _ = _; rw [HY.out]; omega, by omega, by omega, rfl⟩
          · have h1 : ((gk : Int) % 10 == 0) = false := by simp; omega
            obtain ⟨q0, q1, q2⟩ := hput ⟨neg, gk, y⟩
            have HQ : Hid _ := hpb ⟨neg, gk, y⟩
            clear hput hpb
            unfold put3 at *
            dsimp only at *
            go_wp2
            refine bodyPost_ret (v := nv ⟨neg, gk, y⟩) (by simp [results, Tryz.results58, go_sem, nv, q0, q1, q2]) rfl ⟨⟨_, rfl, .inr ⟨h0, k, rfl, HM.out, hz, HY.out⟩⟩, HQ.out⟩
end Go.Proofs.YtehgeninocbpeaaGreatDoor.Nu
