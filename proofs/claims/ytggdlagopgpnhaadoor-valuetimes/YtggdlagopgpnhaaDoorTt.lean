import Derived.Test.YtggdlagopgpnhaaDoorTs
/-
  DERIVED. Days that are read, and their doubts.
-/
namespace Go.Proofs.YtggdlagopgpnhaaDoor
open Go Go.Proofs Go.RowKit

theorem o8 (y m d : Nat) : nextD (nextD (nextD none (decide ((y : Int) < 1) || decide (9999 < (y : Int))) 0) (decide ((m : Int) < 1) || decide (12 < (m : Int))) 4) (decide ((d : Int) < 1) || decide (((md y m : Nat) : Int) < (d : Int))) 6 = ufO y m d := by
  unfold ufO uf nextD
  rw [Int.toNat_natCast, Int.toNat_natCast]
  generalize md y m = L
  by_cases p1 : (y : Int) < 1 ∨ 9999 < (y : Int)
  · have : (decide ((y : Int) < 1) || decide (9999 < (y : Int))) = true := by simpa using p1
    rw [this]
    simp [p1, pl]
  · have : (decide ((y : Int) < 1) || decide (9999 < (y : Int))) = false := by simpa using p1
    rw [this, if_neg p1]
    by_cases p2 : (m : Int) < 1 ∨ 12 < (m : Int)
    · have : (decide ((m : Int) < 1) || decide (12 < (m : Int))) = true := by simpa using p2
      rw [this, if_pos p2]
      simp [pl]
    · have : (decide ((m : Int) < 1) || decide (12 < (m : Int))) = false := by simpa using p2
      rw [this, if_neg p2]
      by_cases p3 : (d : Int) < 1 ∨ (L : Int) < (d : Int)
      · have : (decide ((d : Int) < 1) || decide ((L : Int) < (d : Int))) = true := by simpa using p3
        rw [this, if_pos p3]
        simp [pl]
      · have : (decide ((d : Int) < 1) || decide ((L : Int) < (d : Int))) = false := by simpa using p3
        rw [this, if_neg p3]
        simp
theorem o6 (y m : Nat) : nextD (nextD none (decide ((y : Int) < 1) || decide (9999 < (y : Int))) 0) (decide ((m : Int) < 1) || decide (12 < (m : Int))) 4 = ufO y m 1 := by
  rw [← o8 y m 1]
  unfold nextD
  by_cases p2 : (m : Int) < 1 ∨ 12 < (m : Int)
  · have : (decide ((m : Int) < 1) || decide (12 < (m : Int))) = true := by simpa using p2
    rw [this]
    by_cases p1 : (y : Int) < 1 ∨ 9999 < (y : Int)
    · have : (decide ((y : Int) < 1) || decide (9999 < (y : Int))) = true := by simpa using p1
      rw [this]; simp
    · have : (decide ((y : Int) < 1) || decide (9999 < (y : Int))) = false := by simpa using p1
      rw [this]; simp
  · have hm := md_pos y m (by omega) (by omega)
    have h3 : (decide (((1 : Nat) : Int) < 1) || decide (((md y m : Nat) : Int) < ((1 : Nat) : Int))) = false := by simp; omega
    rw [h3]; simp
theorem o4 (y : Nat) : nextD none (decide ((y : Int) < 1) || decide (9999 < (y : Int))) 0 = ufO y 1 1 := by
  rw [← o6 y 1]
  simp [nextD]

theorem more_all (s : ByteArray) {S : Mst} (h : S.p = 0) (hb : S.b = false) : fracS s (moreS s [hourS s, minuteS s, secondS s] S) = if 0 < cnt s S.a 2 then ck6 s S else S := by
  by_cases hc : 0 < cnt s S.a 2
  · rw [if_pos hc, more_go _ _ hb hc]
    rfl
  · rw [if_neg hc, more_stop _ (.inr (by omega)), frac_stop (.inl (by omega))]
end Go.Proofs.YtggdlagopgpnhaaDoor
