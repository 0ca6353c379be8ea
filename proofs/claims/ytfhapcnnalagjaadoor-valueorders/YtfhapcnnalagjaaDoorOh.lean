import Derived.Test.YtfhapcnnalagjaaDoorOc
import Derived.Test.YtfhapcnnalagjaaDoorOd
import Derived.Test.YtfhapcnnalagjaaDoorOf
/-
  DERIVED. Both orders are the same.
-/
namespace Go.Proofs.YtfhapcnnalagjaaDoor
open Go Go.Proofs Go.RowKit

def dF (s : ByteArray) : Int := if oP s = none then ((num (yy s) (mm s) (dd s) * 87840000000 + tt 0 0 0 0 : Nat) : Int) else 0
def tF (s : ByteArray) : Int := if rdO s (timeS s) = none then ((num 1 1 1 * 87840000000 + tt (timeS s).h (timeS s).mi (timeS s).sc (timeS s).mc : Nat) : Int) else 0

theorem num_le {y m d : Nat} (hd : Day y m d) : num y m d ≤ 3700000 := by
  have := dA_le (y := y) (by unfold Day at hd; omega)
  have := cu_le y (m - 1)
  have := md_le y m
  unfold Day at hd
  unfold num
  omega
theorem day111 : Day 1 1 1 := by unfold Day; decide
theorem dF_lt (s : ByteArray) : dF s < 4611686018427387904 := by
  unfold dF
  split
  · have := num_le (oP_day ‹_›)
    have : tt 0 0 0 0 = 0 := rfl
    omega
  · decide
theorem tF_lt (s : ByteArray) : tF s < 4611686018427387904 := by
  unfold tF
  split
  · have h := time_bnd ‹_›
    have := num_le day111
    unfold tt
    omega
  · decide

theorem q_of_r {w : World} {V : Value} {o : Option (Int × Int)} {e : Ending} {w' : World} (h : PostR w V o e w') : PostQ w V o e w' := by
  obtain ⟨v, h1, h2, h3⟩ := h
  exact ⟨v, h1, h2.ps, h3⟩

theorem firstDA (w : World) (s : ByteArray) (hs : s.size ≤ 140737488351232) (hT : Mt w) (hO : Ot w) :
    Calls Tryd.prog 8 #[.int .i64 5, .string s] w fun e w' => e = .returned (.int .i64 (ftk (dF s) (oP s))) ∧ Below w.heap.size w w' := by
  refine first_any w 5 s (dF s) (oP s) hT hO fun W hT hO => own11_any W 5 s (dF s) (oP s) hT hO fun W hT hO => ?_
  unfold dF
  cases ho : oP s with
  | none =>
    rw [if_pos rfl]
    obtain ⟨L, h⟩ := own14 W 5 s (yy s) (mm s) (dd s) 0 0 0 0 0 hT hO (oP_day ho) (by omega) (by omega) (by omega) (by omega) (by omega)
      (fun W hT => read_any W s hs hT none ho _ (.inl ⟨rfl, rfl⟩))
    exact ⟨L, h.mono fun e w' h => q_of_r h⟩
  | some x =>
    rw [if_neg (by simp)]
    exact ⟨0, own14_no W 5 s x hT (fun W hT => read_any W s hs hT (some x) ho _ (.inr ⟨by simp, rfl⟩))⟩

theorem firstTM (w : World) (s : ByteArray) (hs : s.size ≤ 140737488351232) (hT : Mt w) (hO : Ot w) :
    Calls Tryd.prog 8 #[.int .i64 21, .string s] w fun e w' => e = .returned (.int .i64 (ftk (tF s) (rdO s (timeS s)))) ∧ Below w.heap.size w w' := by
  refine first_any w 21 s (tF s) (rdO s (timeS s)) hT hO fun W hT hO => own11_any W 21 s (tF s) (rdO s (timeS s)) hT hO fun W hT hO => ?_
  have hr := fun W hT => readTM W s hs hT
  unfold tF
  cases ho : rdO s (timeS s) with
  | none =>
    rw [if_pos rfl]
    obtain ⟨h1, h2, h3, h4, h5, h6⟩ := time_bnd ho
    obtain ⟨e1, e2, e3, e4, e5, e6⟩ := (time_tb s).1.dat
    obtain ⟨L, h⟩ := own14 W 21 s 1 1 1 (timeS s).h (timeS s).mi (timeS s).sc (timeS s).mc (timeS s).p hT hO day111 h1 h2 h3 h4 h6
      (fun W hT => by
        have h := hr W hT
        unfold rdM mo11 at h
        rw [ho, if_pos rfl, e1, e2, e3, e4, e5, e6] at h
        exact h)
    exact ⟨L, h.mono fun e w' h => q_of_r h⟩
  | some x =>
    rw [if_neg (by simp)]
    exact ⟨0, own14_no W 21 s x hT (fun W hT => by
        have h := hr W hT
        unfold rdM mo11 at h
        rw [ho, if_neg (by simp)] at h
        exact h)⟩

theorem ownDA (s : ByteArray) (hs : s.size ≤ 140737488351232) : ∃ L, ∀ w, Calls Tryd.prog 12 #[.int .i64 5, .string s] w (PostG w (sp (dF s) L) (oP s)) := by
  unfold dF
  cases ho : oP s with
  | none =>
    have e : num (yy s) (mm s) (dd s) * 87840000000 + tt 0 0 0 0 = num (yy s) (mm s) (dd s) * 87840000000 := by
      rw [show tt 0 0 0 0 = 0 by decide, Nat.add_zero]
    rw [if_pos rfl, e]
    refine ⟨_, fun w => own12_DA w s (yy s) (mm s) (dd s) (oP_day ho) fun W => ?_⟩
    have h := parse11_any W s hs
    unfold rd at h
    rw [ho, if_pos rfl] at h
    exact h
  | some x =>
    rw [if_neg (by simp)]
    refine ⟨0, fun w => own12_DAno w s x.1 x.2 fun W => ?_⟩
    have h := parse11_any W s hs
    unfold rd at h
    rw [ho, if_neg (by simp)] at h
    exact h

theorem ownTM (s : ByteArray) (hs : s.size ≤ 140737488351232) : ∃ L, ∀ w, Calls Tryd.prog 12 #[.int .i64 21, .string s] w (PostG w (sp (tF s) L) (rdO s (timeS s))) := by
  have hr := fun W => parse17_any W s hs
  unfold tF
  cases ho : rdO s (timeS s) with
  | none =>
    rw [if_pos rfl]
    obtain ⟨h1, h2, h3, h4, h5, h6⟩ := time_bnd ho
    have e : num 1 1 1 * 87840000000 + tt (timeS s).h (timeS s).mi (timeS s).sc (timeS s).mc = tt (timeS s).h (timeS s).mi (timeS s).sc (timeS s).mc := by
      rw [show num 1 1 1 = 0 by decide]; omega
    rw [e]
    refine ⟨_, fun w => own12_TM w s (timeS s).h (timeS s).mi (timeS s).sc (timeS s).mc (timeS s).p (by omega) (by omega) (by omega) h4 h5 h6 fun W => ?_⟩
    have h := hr W
    unfold rdM tv at h
    rw [ho, if_pos rfl] at h
    exact h
  | some x =>
    rw [if_neg (by simp)]
    refine ⟨0, fun w => own12_TMno w s x.1 x.2 fun W => ?_⟩
    have h := hr W
    unfold rdM tv at h
    rw [ho, if_neg (by simp)] at h
    exact h

theorem cm_ltr {F1 F2 : Int} (o1 o2 : Option (Int × Int)) (h1 : F1 < 4611686018427387904) (h2 : F2 < 4611686018427387904) : cm (ftk F1 o1) (ftk F2 o2) = ltr F1 F2 o1 o2 := by
  cases o1 <;> cases o2 <;> simp [cm, ftk, ltr] <;> omega

end Go.Proofs.YtfhapcnnalagjaaDoor
