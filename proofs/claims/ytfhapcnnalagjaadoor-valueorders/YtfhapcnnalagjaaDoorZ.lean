import Derived.Test.YtfhapcnnalagjaaDoorX
/-
  DERIVED. What both read is the same.
-/
namespace Go.Proofs.YtfhapcnnalagjaaDoor
open Go Go.Proofs Go.RowKit

theorem oP_short {s : ByteArray} (h : cnt s 0 8 < 8) : oP s = some (((cnt s 0 8 : Nat) : Int), 100) := by
  have hb : b3 s = true ∧ k1 s + k2 s + k3 s = cnt s 0 8 := by
    have a1 := cnt_split s 4 4 0
    have a2 := cnt_split s 2 2 4
    have c1 := cnt_le s 4 0
    have c2 := cnt_le s 2 4
    have c3 := cnt_le s 2 6
    rw [show 4 + 4 = 8 by omega, show 0 + 4 = 4 by omega] at a1
    rw [show 2 + 2 = 4 by omega, show 4 + 2 = 6 by omega] at a2
    unfold b3 k3 b2 k2 k1
    by_cases h1 : cnt s 0 4 < 4
    · rw [if_pos h1] at a1
      simp [h1]
      omega
    · have h1' : cnt s 0 4 = 4 := by omega
      rw [if_neg h1] at a1
      by_cases h2 : cnt s 4 2 < 2
      · rw [if_pos h2] at a2
        simp [h1', h2]
        omega
      · have h2' : cnt s 4 2 = 2 := by omega
        rw [if_neg h2] at a2
        have h3 : cnt s 6 2 < 2 := by omega
        simp [h1', h2', h3]
        omega
  unfold oP oe
  rw [if_pos (.inl hb.1), hb.2]
  rfl

theorem ks {s : ByteArray} (h : cnt s 0 8 = 8) : k1 s = 4 ∧ k2 s = 2 ∧ k3 s = 2 ∧ b3 s = false := by
  have a1 := cnt_split s 4 4 0
  have a2 := cnt_split s 2 2 4
  have c1 := cnt_le s 4 0
  have c2 := cnt_le s 2 4
  have c3 := cnt_le s 2 6
  have c4 := cnt_le s 4 4
  rw [show 4 + 4 = 8 by omega, show 0 + 4 = 4 by omega] at a1
  rw [show 2 + 2 = 4 by omega, show 4 + 2 = 6 by omega] at a2
  have h1 : cnt s 0 4 = 4 := by split at a1 <;> omega
  rw [if_neg (by omega)] at a1
  have h2 : cnt s 4 2 = 2 := by split at a2 <;> omega
  rw [if_neg (by omega)] at a2
  have h3 : cnt s 6 2 = 2 := by omega
  unfold b3 k3 b2 k2 k1
  simp [h1, h2, h3]

theorem oP_long {s : ByteArray} (h : cnt s 0 8 = 8) (h8 : 8 < s.size) : oP s = some (8, 100) := by
  obtain ⟨e1, e2, e3, e4⟩ := ks h
  unfold oP oe
  rw [e1, e2, e3, if_pos (.inr (by omega))]
  rfl

theorem vals {s : ByteArray} (h : cnt s 0 8 = 8) : yy s = nv s 0 4 ∧ mm s = nv s 4 2 ∧ dd s = nv s 6 2 := by
  obtain ⟨e1, e2, e3, e4⟩ := ks h
  unfold yy mm dd
  rw [e1, e2, e3]
  exact ⟨rfl, rfl, rfl⟩

theorem oP_eight {s : ByteArray} (h : cnt s 0 8 = 8) (h8 : s.size = 8) :
    oP s = if uf (nv s 0 4 : Nat) (nv s 4 2 : Nat) (nv s 6 2 : Nat) = -1 then none else some (pl (uf (nv s 0 4 : Nat) (nv s 4 2 : Nat) (nv s 6 2 : Nat)), 101) := by
  obtain ⟨e1, e2, e3, e4⟩ := ks h
  obtain ⟨v1, v2, v3⟩ := vals h
  unfold oP oe o3 o2 o1
  rw [v1, v2, v3, e1, e2, e3, e4, if_neg (by simp; omega)]
  generalize nv s 0 4 = y
  generalize nv s 4 2 = m
  generalize nv s 6 2 = d
  unfold uf nextD
  rw [Int.toNat_natCast, Int.toNat_natCast]
  generalize md y m = L
  by_cases p1 : (y : Int) < 1 ∨ 9999 < (y : Int)
  · have : (decide ((y : Int) < 1) || decide (9999 < (y : Int))) = true := by simpa using p1
    rw [this]
    simp [p1, pl]
  · have : (decide ((y : Int) < 1) || decide (9999 < (y : Int))) = false := by simpa using p1
    rw [this, if_neg p1]
    by_cases p2 : (m : Int) < 1 ∨ 12 < (m : Int)
    · have : (decide ((m : Int) < 1) || decide (12 < (m : Int))) = true := by simpa using p2
      rw [this, if_pos p2]
      simp [pl]
    · have : (decide ((m : Int) < 1) || decide (12 < (m : Int))) = false := by simpa using p2
      rw [this, if_neg p2]
      by_cases p3 : (d : Int) < 1 ∨ (L : Int) < (d : Int)
      · have : (decide ((d : Int) < 1) || decide ((L : Int) < (d : Int))) = true := by simpa using p3
        rw [this, if_pos p3]
        simp [pl]
      · have : (decide ((d : Int) < 1) || decide ((L : Int) < (d : Int))) = false := by simpa using p3
        rw [this, if_neg p3]
        simp
/-- Both read a text the same way. -/
def rd (s : ByteArray) : Value := if oP s = none then dv (yy s : Nat) (mm s : Nat) (dd s : Nat) else dv 0 0 0

theorem parse11_any (w : World) (s : ByteArray) (hs : s.size ≤ 140737488351232) : Calls Tryd.prog 15 #[.string s] w (PostF w (rd s) (oP s)) := by
  have hc := cnt_le s 8 0
  have hz := cnt_size s 8 0 (by omega)
  by_cases h : cnt s 0 8 < 8
  · have e := oP_short h
    have er : rd s = dv 0 0 0 := by unfold rd; rw [e, if_neg (by simp)]
    rw [er, e]
    exact parse11_short w s hs h
  · have h' : cnt s 0 8 = 8 := by omega
    by_cases h8 : 8 < s.size
    · have e := oP_long h' h8
      have er : rd s = dv 0 0 0 := by unfold rd; rw [e, if_neg (by simp)]
      rw [er, e]
      exact parse11_long w s hs h' h8
    · have h8' : s.size = 8 := by omega
      have e := oP_eight h' h8'
      obtain ⟨v1, v2, v3⟩ := vals h'
      by_cases hu : uf (nv s 0 4 : Nat) (nv s 4 2 : Nat) (nv s 6 2 : Nat) = -1
      · rw [if_pos hu] at e
        have er : rd s = dv (nv s 0 4 : Nat) (nv s 4 2 : Nat) (nv s 6 2 : Nat) := by unfold rd; rw [e, if_pos rfl, v1, v2, v3]
        rw [er, e]
        exact parse11_ok w s hs h' h8' (by rw [hu]; rfl)
      · rw [if_neg hu] at e
        have er : rd s = dv 0 0 0 := by unfold rd; rw [e, if_neg (by simp)]
        rw [er, e]
        refine parse11_bad w s hs h' h8' ?_
        have := (uf_is (nv s 0 4 : Nat) (nv s 4 2 : Nat) (nv s 6 2 : Nat)).resolve_left hu
        generalize uf (nv s 0 4 : Nat) (nv s 4 2 : Nat) (nv s 6 2 : Nat) = U at *
        rcases (by omega : U = 0 ∨ U = 1 ∨ U = 2) with rfl | rfl | rfl <;> decide

end Go.Proofs.YtfhapcnnalagjaaDoor
