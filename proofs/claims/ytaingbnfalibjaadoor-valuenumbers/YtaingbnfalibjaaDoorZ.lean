import Derived.Test.YtaingbnfalibjaaDoorY
/-
  DERIVED. A number's plain text.
-/
namespace Go.Proofs.YtaingbnfalibjaaDoor
open Go Go.Proofs Go.RowKit

def ba (l : List UInt8) : ByteArray := ⟨l.toArray⟩
theorem ba_app (l m : List UInt8) : ba l ++ ba m = ba (l ++ m) := by
  apply ByteArray.ext
  simp [ba, ByteArray.data_append]
theorem ba_size (l : List UInt8) : (ba l).size = l.length := by simp [ba, ByteArray.size]
theorem ba_ext (l : List UInt8) (i j : Nat) : (ba l).extract i j = ba ((l.take j).drop i) := by
  apply ByteArray.ext
  rw [ByteArray.data_extract]
  simp [ba]
  rw [List.drop_take]

/-- Digits and zeros behind them. -/
def pPos (D : List UInt8) (n : Nat) : List UInt8 := D ++ Lib.repeatL [48] n
/-- Digits with a point, so many behind it; zeros ahead, so that one digit stands ahead of it. -/
def pNeg (D : List UInt8) (n : Nat) : List UInt8 :=
  let E := Lib.repeatL [48] (1 + n - D.length) ++ D
  E.take (E.length - n) ++ 46 :: E.drop (E.length - n)

set_option maxRecDepth 100000 in
theorem plain_pos (w : World) (D : List UInt8) (n : Nat) (hn : n ≤ 16) (hD : D.length ≤ 20) :
    Calls Tryd.prog 46 #[.string (ba D), .int .i64 (n : Int)] w fun e w' => e = .returned (.string (ba (pPos D n))) ∧ Below w.heap.size w w' := by
  have c := fun W => rep_any W n (by omega)
  have e1 : ba D ++ ba (Lib.repeatL [48] n) = ba (pPos D n) := ba_app _ _
  have hI : (0 : Int) ≤ (n : Int) := by omega
  go_enter Tryd.func46, Tryd.ntmps46
  go_wp2_with (go_at_call 56; refine Stop.mk ?_)
  refine Stop.out ((c _).mono ?_)
  rintro e w' ⟨rfl, hb⟩
  have HB : Hid (Below w.heap.size w w') := hb
  clear hb c
  show _
  rw [show (ByteArray.mk (Lib.repeatL [48] n).toArray) = ba (Lib.repeatL [48] n) from rfl]
  have z1 : (ba D).size ≤ 20 := by rw [ba_size]; exact hD
  have z2 : (ba (Lib.repeatL [48] n)).size ≤ 16 := by rw [ba_size, Lib.repeatL_length]; simpa using hn
  go_wp2
  go_ret
  exact ⟨rfl, HB.out⟩

/-- A text with a point put so many digits from its end. -/
def ptAt (E : List UInt8) (n : Nat) : List UInt8 := E.take (E.length - n) ++ 46 :: E.drop (E.length - n)

set_option maxRecDepth 100000 in
theorem plain_neg (w : World) (D : List UInt8) (n : Nat) (h0 : 0 < n) (hn : n ≤ 16) (hD : D.length ≤ 20) (hD0 : 0 < D.length) :
    Calls Tryd.prog 46 #[.string (ba D), .int .i64 (-(n : Int))] w fun e w' => e = .returned (.string (ba (ptAt (Lib.repeatL [48] (1 + n - D.length) ++ D) n))) ∧ Below w.heap.size w w' := by
  have hI : ¬ ((0 : Int) ≤ -(n : Int)) := by omega
  have hs := ba_size D
  have key : ∀ E : List UInt8, n < E.length → E.length ≤ 37 → (ba E).size = E.length ∧ ((ba E).size : Int) + -(n : Int) = ((E.length - n : Nat) : Int) ∧ (ba E).extract 0 (E.length - n) ++ ba [46] ++ (ba E).extract (E.length - n) (ba E).size = ba (ptAt E n) := by
    intro E h1 h2
    have hz := ba_size E
    refine ⟨hz, by omega, ?_⟩
    rw [ba_ext, ba_ext, ba_app, ba_app, hz, List.take_length]
    unfold ptAt
    simp
  by_cases hl : D.length ≤ n
  · have c := fun W => rep_any W (1 + n - D.length) (by omega)
    have hEl : (Lib.repeatL [48] (1 + n - D.length) ++ D).length = 1 + n := by rw [List.length_append, Lib.repeatL_length]; simp; omega
    obtain ⟨k1, k2, k3⟩ := key (Lib.repeatL [48] (1 + n - D.length) ++ D) (by omega) (by omega)
    have z2 : (ba (Lib.repeatL [48] (1 + n - D.length))).size ≤ 20 := by rw [ba_size, Lib.repeatL_length]; simp; omega
    have e1 : ba (Lib.repeatL [48] (1 + n - D.length)) ++ ba D = ba (Lib.repeatL [48] (1 + n - D.length) ++ D) := ba_app _ _
    obtain ⟨p, hp⟩ : ∃ p, (Lib.repeatL [48] (1 + n - D.length) ++ D).length - n = p := ⟨_, rfl⟩
    rw [hp] at k2 k3
    rw [← k3]
    rw [show ((1 + n - D.length : Nat) : Int) = 1 + (n : Int) - (D.length : Int) by omega] at c
    rw [show (ByteArray.mk (Lib.repeatL [48] (1 + n - D.length)).toArray) = ba (Lib.repeatL [48] (1 + n - D.length)) from rfl] at c
    have hp2 : p = 1 := by omega
    have hp3 : ((ba (Lib.repeatL [48] (1 + n - D.length) ++ D)).size : Int) = 1 + (n : Int) := by omega
    generalize Lib.repeatL [48] (1 + n - D.length) ++ D = E at *
    generalize Lib.repeatL [48] (1 + n - D.length) = R at *
    subst hp2
    go_enter Tryd.func46, Tryd.ntmps46
    go_wp2_with (go_at_call 56; refine Stop.mk ?_)
    refine Stop.out ((c _).mono ?_)
    rintro e w' ⟨rfl, hb⟩
    have HB : Hid (Below w.heap.size w w') := hb
    clear hb c key
    go_wp2
    go_quiet (fail)
    go_wp2
    go_ret
    refine ⟨?_, below_drewN HB.out _⟩
    have hx : ((1 : Int) + (n : Int) + -(n : Int)).toNat = 1 := by omega
    have hy : (ba E).size = 1 + n := by omega
    show Ending.returned (Value.string ((ba E).extract 0 (1 + (n : Int) + -(n : Int)).toNat ++ ba [46] ++ (ba E).extract (1 + (n : Int) + -(n : Int)).toNat (1 + n))) = _
    rw [hx, hy]
  · rw [show Lib.repeatL [48] (1 + n - D.length) = [] by rw [show 1 + n - D.length = 0 by omega]; rfl, List.nil_append]
    obtain ⟨k1, k2, k3⟩ := key D (by omega) (by omega)
    rw [← k3]
    have hc0 : ¬ ((0 : Int) < 1 - (-(n : Int)) - ((ba D).size : Int)) := by omega
    have hc1 : ¬ ((D.length : Int) < 1 + (n : Int)) := by omega
    have hc2 : (1 : Int) + (n : Int) ≤ (D.length : Int) := by omega
    clear key
    go_enter Tryd.func46, Tryd.ntmps46
    go_wp2
    go_quiet (fail)
    go_wp2
    go_ret
    refine ⟨?_, below_drewN (Below.refl _ _) _⟩
    have hx : ((D.length : Int) + -(n : Int)).toNat = D.length - n := by omega
    show Ending.returned (Value.string ((ba D).extract 0 ((D.length : Int) + -(n : Int)).toNat ++ ba [46] ++ (ba D).extract ((D.length : Int) + -(n : Int)).toNat D.length)) = _
    rw [hx, k1]
end Go.Proofs.YtaingbnfalibjaaDoor
