import Derived.Test.YtaingbnfalibjaaDoorRc
import Derived.Test.YtaingbnfalibjaaDoorR
import Derived.Test.YtaingbnfalibjaaDoorDf
/-
  DERIVED. Digits by digits: the document's comparing, no program in it.
-/
namespace Go.Proofs.YtaingbnfalibjaaDoor
open Go Go.Proofs Go.RowKit NumLine

theorem and255 (x : Int) : bits .and .i64 x 255 = x % 256 := by
  unfold bits
  dsimp only
  have h1 : (BitVec.ofInt 64 x &&& BitVec.ofInt 64 255).toNat = (x % 256).toNat := by
    rw [BitVec.toNat_and, BitVec.toNat_ofInt, BitVec.toNat_ofInt]
    rw [show ((255 : Int) % ((2 ^ 64 : Nat) : Int)).toNat = 2 ^ 8 - 1 by decide, Nat.and_two_pow_sub_one_eq_mod]
    omega
  show IntKind.i64.wrap _ = _
  have h2 : ((BitVec.ofInt IntKind.i64.bits x &&& BitVec.ofInt IntKind.i64.bits 255).toNat : Int) = x % 256 := by
    show ((BitVec.ofInt 64 x &&& BitVec.ofInt 64 255).toNat : Int) = _
    rw [h1]
    omega
  rw [h2]
  obtain ⟨k, hk⟩ : ∃ k : Nat, x % 256 = (k : Int) := ⟨(x % 256).toNat, by omega⟩
  rw [hk]
  have hk2 : k < 256 := by omega
  first | go_num | (simp [go_sem]; omega) | (unfold IntKind.wrap; simp [IntKind.bits]; omega)

theorem valN_ge : ∀ (l : List UInt8) (n : Nat), n * 10 ^ l.length ≤ valN l n
  | [], n => by simp [valN]
  | b :: l, n => by
    rw [valN]
    have := valN_ge l (10 * n + (b.toNat - 48))
    refine Nat.le_trans ?_ this
    rw [List.length_cons, Nat.pow_succ, Nat.mul_comm (10 ^ l.length) 10, ← Nat.mul_assoc]
    exact Nat.mul_le_mul_right _ (by omega)

def dg0 (l : List UInt8) : Nat := match l with | [] => 48 | x :: _ => x.toNat
/-- Digit by digit, 0 behind the end; so many of them. -/
def lx : Nat → List UInt8 → List UInt8 → Int
  | 0, _, _ => 0
  | L + 1, X, Y => if cmpI (dg0 X : Int) (dg0 Y : Int) = 0 then lx L X.tail Y.tail else cmpI (dg0 X : Int) (dg0 Y : Int)

theorem rep_succ (k : Nat) : Lib.repeatL [48] (k + 1) = 48 :: Lib.repeatL [48] k := rfl
theorem rep_len (k : Nat) : (Lib.repeatL [48] k).length = k := by
  induction k with
  | zero => rfl
  | succ k ih => rw [rep_succ, List.length_cons, ih]
theorem pad_step (X : List UInt8) (L : Nat) (h : X.length ≤ L + 1) (n : Nat) : valN (X ++ Lib.repeatL [48] (L + 1 - X.length)) n = valN (X.tail ++ Lib.repeatL [48] (L - X.tail.length)) (10 * n + (dg0 X - 48)) := by
  cases X with
  | nil => show valN (Lib.repeatL [48] (L + 1)) n = _; rw [rep_succ]; rfl
  | cons x X =>
    have e : L + 1 - (x :: X).length = L - X.length := by rw [List.length_cons]; omega
    rw [e]
    rfl
theorem dg0_is {X : List UInt8} (h : ∀ b ∈ X, dig b = true) : 48 ≤ dg0 X ∧ dg0 X ≤ 57 := by
  cases X with
  | nil => exact ⟨by decide, by decide⟩
  | cons x X => exact dig_lt (h x (by simp))
theorem lx_val : ∀ (L n : Nat) (X Y : List UInt8), (∀ b ∈ X, dig b = true) → (∀ b ∈ Y, dig b = true) → X.length ≤ L → Y.length ≤ L →
    lx L X Y = cmpI (valN (X ++ Lib.repeatL [48] (L - X.length)) n : Nat) (valN (Y ++ Lib.repeatL [48] (L - Y.length)) n : Nat) := by
  intro L
  induction L with
  | zero =>
    intro n X Y _ _ h1 h2
    obtain rfl : X = [] := List.length_eq_zero_iff.1 (by omega)
    obtain rfl : Y = [] := List.length_eq_zero_iff.1 (by omega)
    simp [lx, cmpI]
  | succ L ih =>
    intro n X Y dX dY h1 h2
    rw [pad_step X L h1, pad_step Y L h2]
    have q1 := dg0_is dX
    have q2 := dg0_is dY
    have t1 : ∀ b ∈ X.tail, dig b = true := fun b hb => dX b (List.mem_of_mem_tail hb)
    have t2 : ∀ b ∈ Y.tail, dig b = true := fun b hb => dY b (List.mem_of_mem_tail hb)
    have l1 : X.tail.length ≤ L := by rw [List.length_tail]; omega
    have l2 : Y.tail.length ≤ L := by rw [List.length_tail]; omega
    rw [lx]
    have dz : ∀ (Z : List UInt8), (∀ b ∈ Z, dig b = true) → ∀ b ∈ Z ++ Lib.repeatL [48] (L - Z.length), 48 ≤ b.toNat ∧ b.toNat ≤ 57 := fun Z hZ b hb => by
      rw [List.mem_append] at hb
      rcases hb with hb | hb
      · exact dig_lt (hZ b hb)
      · exact dig_lt (zeros_dig _ b hb)
    have zl : ∀ (Z : List UInt8), Z.length ≤ L → (Z ++ Lib.repeatL [48] (L - Z.length)).length = L := fun Z hZ => by rw [List.length_append, rep_len]; omega
    rcases cmpI_cases (dg0 X : Int) (dg0 Y : Int) with ⟨h, e⟩ | ⟨h, e⟩ | ⟨h, e⟩
    · rw [e, if_neg (by decide)]
      have u := valN_lt _ (10 * n + (dg0 X - 48)) (dz _ t1)
      have v := valN_ge (Y.tail ++ Lib.repeatL [48] (L - Y.tail.length)) (10 * n + (dg0 Y - 48))
      rw [zl _ l1] at u
      rw [zl _ l2] at v
      have w : (10 * n + (dg0 X - 48) + 1) * 10 ^ L ≤ (10 * n + (dg0 Y - 48)) * 10 ^ L := Nat.mul_le_mul_right _ (by omega)
      generalize valN (X.tail ++ Lib.repeatL [48] (L - X.tail.length)) (10 * n + (dg0 X - 48)) = A at *
      generalize valN (Y.tail ++ Lib.repeatL [48] (L - Y.tail.length)) (10 * n + (dg0 Y - 48)) = B at *
      have hAB : (A : Int) < (B : Int) := by omega
      unfold cmpI
      rw [if_pos hAB]
    · rw [e, if_pos rfl, show dg0 X = dg0 Y by omega]
      exact ih _ _ _ t1 t2 l1 l2
    · rw [e, if_neg (by decide)]
      have u := valN_lt _ (10 * n + (dg0 Y - 48)) (dz _ t2)
      have v := valN_ge (X.tail ++ Lib.repeatL [48] (L - X.tail.length)) (10 * n + (dg0 X - 48))
      rw [zl _ l2] at u
      rw [zl _ l1] at v
      have w : (10 * n + (dg0 Y - 48) + 1) * 10 ^ L ≤ (10 * n + (dg0 X - 48)) * 10 ^ L := Nat.mul_le_mul_right _ (by omega)
      generalize valN (X.tail ++ Lib.repeatL [48] (L - X.tail.length)) (10 * n + (dg0 X - 48)) = A at *
      generalize valN (Y.tail ++ Lib.repeatL [48] (L - Y.tail.length)) (10 * n + (dg0 Y - 48)) = B at *
      have hAB : (B : Int) < (A : Int) := by omega
      unfold cmpI
      rw [if_neg (by omega), if_pos hAB]

theorem dec_low : ∀ (u : Nat), u ≠ 0 → 10 ^ ((Lib.decDigits u).length - 1) ≤ u := by
  intro u
  induction u using Nat.strongRecOn with
  | ind u ih =>
    intro h0
    rw [Lib.decDigits]
    split
    · show 10 ^ 0 ≤ u; omega
    · rename_i h
      have := ih (u / 10) (by omega) (by omega)
      rw [List.length_append, List.length_singleton, Nat.add_sub_cancel]
      have hp := dec_pos (u / 10)
      obtain ⟨k, hk⟩ : ∃ k, (Lib.decDigits (u / 10)).length = k + 1 := ⟨(Lib.decDigits (u / 10)).length - 1, by omega⟩
      rw [hk] at this ⊢
      rw [Nat.add_sub_cancel] at this
      rw [Nat.pow_succ]
      omega
theorem dec_high (u : Nat) : u < 10 ^ (Lib.decDigits u).length := by
  have h := valN_lt (Lib.decDigits u) 0 (fun b hb => dig_lt ((val_dec u).2 b hb))
  have e : valN (Lib.decDigits u) 0 = u := (val_dec u).1
  rw [e] at h
  omega

/-- What the document's size tells. -/
def szD (a b : Nm) : Int :=
  if cmpI (a.e + (Lib.decDigits a.d).length) (b.e + (Lib.decDigits b.d).length) = 0 then lx (max (Lib.decDigits a.d).length (Lib.decDigits b.d).length) (Lib.decDigits a.d) (Lib.decDigits b.d) else cmpI (a.e + (Lib.decDigits a.d).length) (b.e + (Lib.decDigits b.d).length)

theorem mag_lt {a b : Nm} (hb0 : b.d ≠ 0) {m : Int} (hma : m ≤ a.e) (hmb : m ≤ b.e) (h : a.e + (Lib.decDigits a.d).length < b.e + (Lib.decDigits b.d).length) : mag m a < mag m b := by
  unfold mag
  have h1 := dec_high a.d
  have h2 := dec_low b.d hb0
  have h3 := dec_pos b.d
  generalize (Lib.decDigits a.d).length = n at *
  generalize (Lib.decDigits b.d).length = k at *
  obtain ⟨x, hx⟩ : ∃ x : Nat, a.e - m = (x : Int) := ⟨(a.e - m).toNat, by omega⟩
  obtain ⟨y, hy⟩ : ∃ y : Nat, b.e - m = (y : Int) := ⟨(b.e - m).toNat, by omega⟩
  rw [show (a.e - m).toNat = x by omega, show (b.e - m).toNat = y by omega]
  have h4 : n + x ≤ (k - 1) + y := by omega
  have p1 : a.d * 10 ^ x < 10 ^ n * 10 ^ x := Nat.mul_lt_mul_of_pos_right h1 (Nat.pow_pos (by decide))
  have p2 : 10 ^ (k - 1) * 10 ^ y ≤ b.d * 10 ^ y := Nat.mul_le_mul_right _ h2
  have p3 : 10 ^ (n + x) ≤ 10 ^ ((k - 1) + y) := Nat.pow_le_pow_right (by decide) h4
  rw [Nat.pow_add, Nat.pow_add] at p3
  omega

theorem szD_csz {a b : Nm} (ha0 : a.d ≠ 0) (hb0 : b.d ≠ 0) (ha20 : a.d < 10 ^ 20) (hb20 : b.d < 10 ^ 20) : szD a b = csz a b := by
  unfold szD
  rcases cmpI_cases (a.e + (Lib.decDigits a.d).length) (b.e + (Lib.decDigits b.d).length) with ⟨h, e⟩ | ⟨h, e⟩ | ⟨h, e⟩
  · rw [e, if_neg (by decide)]
    obtain ⟨m, h1, h2⟩ : ∃ m : Int, m ≤ a.e ∧ m ≤ b.e := ⟨min a.e b.e, by omega, by omega⟩
    rw [csz_mag h1 h2 ha0 hb0 ha20 hb20]
    have := mag_lt hb0 h1 h2 h
    unfold cmpI
    rw [if_pos (by omega)]
  · rw [e, if_pos rfl]
    obtain ⟨L, hL⟩ : ∃ L : Nat, max (Lib.decDigits a.d).length (Lib.decDigits b.d).length = L := ⟨_, rfl⟩
    rw [hL]
    have l1 : (Lib.decDigits a.d).length ≤ L := by omega
    have l2 : (Lib.decDigits b.d).length ≤ L := by omega
    have h1 : a.e + (Lib.decDigits a.d).length - L ≤ a.e := by omega
    have h2 : a.e + (Lib.decDigits a.d).length - L ≤ b.e := by omega
    rw [csz_mag h1 h2 ha0 hb0 ha20 hb20, lx_val L 0 _ _ (val_dec a.d).2 (val_dec b.d).2 l1 l2, valN_app, valN_app, valN_zeros, valN_zeros]
    have e1 : valN (Lib.decDigits a.d) 0 = a.d := (val_dec a.d).1
    have e2 : valN (Lib.decDigits b.d) 0 = b.d := (val_dec b.d).1
    rw [e1, e2]
    unfold mag
    rw [show (a.e - (a.e + (Lib.decDigits a.d).length - L)).toNat = L - (Lib.decDigits a.d).length by omega, show (b.e - (a.e + (Lib.decDigits a.d).length - L)).toNat = L - (Lib.decDigits b.d).length by omega]
  · rw [e, if_neg (by decide)]
    obtain ⟨m, h1, h2⟩ : ∃ m : Int, m ≤ a.e ∧ m ≤ b.e := ⟨min a.e b.e, by omega, by omega⟩
    rw [csz_mag h1 h2 ha0 hb0 ha20 hb20]
    have := mag_lt ha0 h2 h1 h
    unfold cmpI
    rw [if_neg (by omega), if_pos (by omega)]
end Go.Proofs.YtaingbnfalibjaaDoor
