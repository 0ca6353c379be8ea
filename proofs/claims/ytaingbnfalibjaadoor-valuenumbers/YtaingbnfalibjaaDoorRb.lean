import Derived.Test.YtaingbnfalibjaaDoorRa
/-
  DERIVED. What is printed is read back.
-/
namespace Go.Proofs.YtaingbnfalibjaaDoor
open Go Go.Proofs Go.RowKit NumLine

def sgL (b : Bool) : List UInt8 := if b = true then [45] else []
theorem dig_lt {b : UInt8} (h : dig b = true) : 48 ≤ b.toNat ∧ b.toNat ≤ 57 := by
  unfold dig at h
  simpa using h
theorem hd_dig {D m : List UInt8} (hD : ∀ b ∈ D, dig b = true) (h : D ≠ []) : 48 ≤ hd0 (D ++ m) ∧ hd0 (D ++ m) ≤ 57 := by
  cases D with
  | nil => exact absurd rfl h
  | cons b D => exact dig_lt (hD b (by simp))
/-- A sign, if there is one, and digits behind it. -/
theorem sign_step {l D m : List UInt8} {a : Nat} (sg : Bool) (h : l.drop a = sgL sg ++ (D ++ m)) (hD : ∀ b ∈ D, dig b = true) (hne : D ≠ []) :
    tP (ba l) a 43 45 = a + (sgL sg).length ∧ (decide (tk (ba l) a 43 45 = 45)) = sg ∧ l.drop (a + (sgL sg).length) = D ++ m := by
  have hd := hd_dig (m := m) hD hne
  unfold tP tk
  rw [nx_ba, h]
  cases sg with
  | true =>
    refine ⟨?_, ?_, ?_⟩
    · rw [if_pos (.inr rfl)]; rfl
    · rw [if_pos (.inr rfl)]; rfl
    · rw [← List.drop_drop, h]; rfl
  | false =>
    have hs : sgL false = [] := rfl
    rw [hs, List.nil_append, if_neg (by omega), if_neg (by omega)]
    refine ⟨rfl, by decide, ?_⟩
    rw [List.length_nil, Nat.add_zero, h, hs, List.nil_append]
theorem drop_more {l A m : List UInt8} {a : Nat} (h : l.drop a = A ++ m) : l.drop (a + A.length) = m := by
  rw [← List.drop_drop, h, List.drop_left]

/-- The digits' part of a text. -/
structure Front (T D1 D2 X : List UInt8) (sg : Bool) : Prop where
  neg : nNeg (ba T) = sg
  dd : nD (ba T) = ba (D1 ++ D2)
  c3 : n3 (ba T) = D2.length
  nb : nB (ba T) = false
  dr : T.drop (n2 (ba T) + n3 (ba T)) = X
theorem front {T D1 P D2 X : List UInt8} {sg : Bool} (hT : T = sgL sg ++ (D1 ++ (P ++ (D2 ++ X)))) (h1 : ∀ b ∈ D1, dig b = true) (hne : D1 ≠ []) (h2 : ∀ b ∈ D2, dig b = true) (hP : (P = [] ∧ D2 = []) ∨ P = [46]) (hX : ∀ x ∈ X.head?, x = 69) : Front T D1 D2 X sg := by
  have hXd : ∀ x ∈ X.head?, dig x = false := fun x hx => by rw [hX x hx]; decide
  obtain ⟨s1, s2, s3⟩ := sign_step (l := T) (a := 0) sg (by rw [List.drop_zero]; exact hT) h1 hne
  have q0 : n0 (ba T) = 0 + (sgL sg).length := s1
  have q1 : n1 (ba T) = D1.length := by
    unfold n1
    rw [q0, cnt_all, s3]
    refine lead_all _ _ h1 ?_
    rcases hP with ⟨rfl, rfl⟩ | rfl
    · simpa using hXd
    · intro x hx; simp at hx; subst hx; decide
  have dr1 : T.drop (n0 (ba T) + n1 (ba T)) = P ++ (D2 ++ X) := by rw [q0, q1]; exact drop_more s3
  have q2 : n2 (ba T) = n0 (ba T) + n1 (ba T) + P.length := by
    unfold n2 dP
    rw [nx_ba, dr1]
    rcases hP with ⟨rfl, rfl⟩ | rfl
    · rw [if_neg]
      · rfl
      · cases X with
        | nil => decide
        | cons x X => rw [hX x (by simp)]; show ¬ ((69 : UInt8).toNat = 46); decide
    · rw [if_pos (show hd0 ([46] ++ (D2 ++ X)) = 46 from rfl)]; rfl
  have dr2 : T.drop (n2 (ba T)) = D2 ++ X := by rw [q2]; exact drop_more dr1
  have q3 : n3 (ba T) = D2.length := by
    unfold n3
    rw [cnt_all, dr2]
    exact lead_all _ _ h2 hXd
  refine ⟨s2, ?_, q3, ?_, ?_⟩
  · unfold nD
    rw [ext_ba, ext_ba, dr2, q3, q1, q0, s3, List.take_left, List.take_left, ba_app]
  · unfold nB
    rw [q1]
    have : 0 < D1.length := List.length_pos_iff.2 hne
    exact decide_eq_false (by omega)
  · rw [q3]; exact drop_more dr2

theorem back_plain {T D1 P D2 : List UInt8} {sg : Bool} (hT : T = sgL sg ++ (D1 ++ (P ++ D2))) (h1 : ∀ b ∈ D1, dig b = true) (hne : D1 ≠ []) (h2 : ∀ b ∈ D2, dig b = true) (hP : (P = [] ∧ D2 = []) ∨ P = [46]) (hl : T.length ≤ 16) :
    Ok (ba T) ∧ nNeg (ba T) = sg ∧ nD (ba T) = ba (D1 ++ D2) ∧ nX (ba T) = -(D2.length : Int) := by
  have F := front (T := T) (D1 := D1) (P := P) (D2 := D2) (X := []) (sg := sg) (by rw [List.append_nil]; exact hT) h1 hne h2 hP (by simp)
  have hE : isE (ba T) = false := by unfold isE tk; rw [nx_ba, F.dr, if_neg (by decide)]; rfl
  have h4 : n4 (ba T) = n2 (ba T) + n3 (ba T) := by unfold n4 tP; rw [nx_ba, F.dr, if_neg (by decide)]
  refine ⟨⟨by rw [ba_size]; exact hl, ?_, ?_⟩, F.neg, F.dd, ?_⟩
  · unfold nBad; rw [F.nb, hE]; rfl
  · unfold nEnd
    rw [if_neg (by rw [F.nb]; decide), if_neg (by rw [hE]; decide), h4, ba_size]
    have := List.drop_eq_nil_iff.1 F.dr
    omega
  · unfold nX; rw [if_neg (by rw [hE]; decide), F.c3]

theorem back_exp {T D1 Dx : List UInt8} {sg sx : Bool} (hT : T = sgL sg ++ (D1 ++ 69 :: (sgL sx ++ Dx))) (h1 : ∀ b ∈ D1, dig b = true) (hne : D1 ≠ []) (h2 : ∀ b ∈ Dx, dig b = true) (hnx : Dx ≠ []) (hl : T.length ≤ 16) :
    Ok (ba T) ∧ nNeg (ba T) = sg ∧ nD (ba T) = ba D1 ∧ nX (ba T) = (if sx = true then -(val Dx : Int) else (val Dx : Int)) := by
  have F := front (T := T) (D1 := D1) (P := []) (D2 := []) (X := 69 :: (sgL sx ++ Dx)) (sg := sg) hT h1 hne (by simp) (.inl ⟨rfl, rfl⟩) (by simp)
  have hE : isE (ba T) = true := by unfold isE tk; rw [nx_ba, F.dr, if_pos (.inl rfl)]; rfl
  have h4 : n4 (ba T) = n2 (ba T) + n3 (ba T) + 1 := by unfold n4 tP; rw [nx_ba, F.dr, if_pos (.inl rfl)]
  have dr4 : T.drop (n4 (ba T)) = sgL sx ++ (Dx ++ []) := by rw [h4, ← List.drop_drop, F.dr, List.append_nil]; rfl
  obtain ⟨s1, s2, s3⟩ := sign_step sx dr4 h2 hnx
  have q5 : n5 (ba T) = n4 (ba T) + (sgL sx).length := s1
  have q6 : n6 (ba T) = Dx.length := by
    unfold n6
    rw [q5, cnt_all, s3]
    exact lead_all _ _ h2 (by simp)
  have hwh : whV (ba T) (n4 (ba T)) = (if sx = true then -(val Dx : Int) else (val Dx : Int)) := by
    unfold whV
    dsimp only
    rw [s1, cnt_all, s3, lead_all _ _ h2 (by simp), ext_ba, s3, List.take_left]
    show (if tk (ba T) (n4 (ba T)) 43 45 = 45 then -((val Dx : Nat) : Int) else ((val Dx : Nat) : Int)) = _
    cases sx with
    | true => rw [if_pos (of_decide_eq_true s2), if_pos rfl]
    | false => rw [if_neg (of_decide_eq_false s2), if_neg (by decide)]
  have hpos : 0 < Dx.length := List.length_pos_iff.2 hnx
  refine ⟨⟨by rw [ba_size]; exact hl, ?_, ?_⟩, F.neg, by rw [F.dd, List.append_nil], ?_⟩
  · unfold nBad; rw [F.nb, hE, q6, decide_eq_false (by omega)]; rfl
  · unfold nEnd
    rw [if_neg (by rw [F.nb]; decide), if_pos hE, q5, q6, ba_size]
    have h6 := drop_more s3
    have := List.drop_eq_nil_iff.1 h6
    omega
  · unfold nX
    rw [if_pos hE, F.c3, hwh]
    simp
end Go.Proofs.YtaingbnfalibjaaDoor
