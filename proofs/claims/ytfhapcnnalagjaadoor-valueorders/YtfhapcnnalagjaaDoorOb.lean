import Derived.Test.YtfhapcnnalagjaaDoorOa
import Derived.Test.YtfhapcnnalagjaaDoorTl
import Derived.Test.YtfhapcnnalagjaaDoorZ
/-
  DERIVED. What is read lies within its bounds.
-/
namespace Go.Proofs.YtfhapcnnalagjaaDoor
open Go Go.Proofs Go.RowKit

theorem nextD_none {o : Option (Int × Int)} {bad : Bool} {pl : Nat} (h : nextD o bad pl = none) : o = none ∧ bad = false := by
  unfold nextD at h
  split at h
  · split at h
    · cases h
    · exact absurd h ‹_›
  · exact ⟨h, by simpa using ‹¬ bad = true›⟩

theorem oP_day {s : ByteArray} (h : oP s = none) : Day (yy s) (mm s) (dd s) := by
  unfold oP at h
  have h3 : o3 s = none := (Option.or_eq_none_iff.1 h).2
  unfold o3 at h3
  obtain ⟨h2, b3⟩ := nextD_none h3
  unfold o2 at h2
  obtain ⟨h1, b2⟩ := nextD_none h2
  unfold o1 at h1
  obtain ⟨_, b1⟩ := nextD_none h1
  simp only [Bool.or_eq_false_iff, decide_eq_false_iff_not] at b1 b2 b3
  unfold Day
  omega

/-- What stands in a reader of times. -/
structure TB (S : Mst) : Prop where
  dat : S.y = 1 ∧ S.m = 1 ∧ S.d = 1 ∧ S.dp = 3 ∧ S.zd = false ∧ S.z = 0
  bn : S.o = none → S.h ≤ 23 ∧ S.mi ≤ 59 ∧ S.sc ≤ 60
  mc : S.mc ≤ 999999

theorem pcO_none {s : ByteArray} {S : Mst} {k : Nat} {lo hi : Int} (h : pcO s S k lo hi = none) : S.o = none ∧ (pcN s S k : Int) ≤ hi := by
  unfold pcO at h
  obtain ⟨h1, h2⟩ := nextD_none h
  simp only [Bool.or_eq_false_iff, decide_eq_false_iff_not] at h2
  exact ⟨h1, by omega⟩

theorem TB.hour {s : ByteArray} {S : Mst} (h : TB S) : TB (hourS s S) :=
  ⟨h.dat, fun e => by obtain ⟨e1, e2⟩ := pcO_none e; obtain ⟨_, b, c⟩ := h.bn e1; refine ⟨?_, b, c⟩; show pcN s S 2 ≤ 23; omega, h.mc⟩
theorem TB.minute {s : ByteArray} {S : Mst} (h : TB S) : TB (minuteS s S) :=
  ⟨h.dat, fun e => by obtain ⟨e1, e2⟩ := pcO_none e; obtain ⟨a, _, c⟩ := h.bn e1; refine ⟨a, ?_, c⟩; show pcN s S 2 ≤ 59; omega, h.mc⟩
theorem TB.second {s : ByteArray} {S : Mst} (h : TB S) : TB (secondS s S) :=
  ⟨h.dat, fun e => by obtain ⟨e1, e2⟩ := pcO_none e; obtain ⟨a, b, _⟩ := h.bn e1; refine ⟨a, b, ?_⟩; show pcN s S 2 ≤ 60; omega, h.mc⟩
theorem TB.frac {s : ByteArray} {S : Mst} (h : TB S) : TB (fracS s S) := by
  unfold fracS
  split
  · exact h
  · split
    · refine ⟨h.dat, h.bn, ?_⟩
      show nv s (S.a + 1) (frC s S) * 10 ^ (6 - frC s S) ≤ 999999
      have h1 : nv s (S.a + 1) (frC s S) < 10 ^ frC s S := nv_lt s (S.a + 1) (frC s S) 6 (Nat.le_refl _)
      have h2 : frC s S ≤ 6 := cnt_le s 6 (S.a + 1)
      generalize nv s (S.a + 1) (frC s S) = N at *
      generalize frC s S = c at *
      rcases (by omega : c = 0 ∨ c = 1 ∨ c = 2 ∨ c = 3 ∨ c = 4 ∨ c = 5 ∨ c = 6) with rfl | rfl | rfl | rfl | rfl | rfl | rfl <;> simp at h1 ⊢ <;> omega
    · exact h
theorem frac_p {s : ByteArray} {S : Mst} (h : 1 ≤ S.p ∧ S.p ≤ 3) : 1 ≤ (fracS s S).p ∧ (fracS s S).p ≤ 9 := by
  unfold fracS
  have h2 : frC s S ≤ 6 := cnt_le s 6 (S.a + 1)
  split
  · omega
  · split
    · show 1 ≤ S.p + frC s S ∧ S.p + frC s S ≤ 9
      omega
    · omega

theorem time_tb (s : ByteArray) : TB (timeS s) ∧ 1 ≤ (timeS s).p ∧ (timeS s).p ≤ 9 := by
  have h0 : TB st0 := ⟨⟨rfl, rfl, rfl, rfl, rfl, rfl⟩, fun _ => by decide, by decide⟩
  unfold timeS
  have h1 : TB (hourS s st0) := h0.hour
  have : TB (moreS s [minuteS s, secondS s] (hourS s st0)) ∧ 1 ≤ (moreS s [minuteS s, secondS s] (hourS s st0)).p ∧ (moreS s [minuteS s, secondS s] (hourS s st0)).p ≤ 3 := by
    rw [moreS]
    split
    · rw [moreS]
      split
      · rw [moreS]
        exact ⟨h1.minute.second, by show 1 ≤ 3; omega, by show 3 ≤ 3; omega⟩
      · exact ⟨h1.minute, by show 1 ≤ 2; omega, by show 2 ≤ 3; omega⟩
    · exact ⟨h1, by show 1 ≤ 1; omega, by show 1 ≤ 3; omega⟩
  exact ⟨this.1.frac, frac_p this.2⟩

theorem rdO_none {s : ByteArray} {S : Mst} (h : rdO s S = none) : S.o = none := by
  unfold rdO at h
  exact (Option.or_eq_none_iff.1 h).2

/-- What a time that was read tells. -/
theorem time_bnd {s : ByteArray} (h : rdO s (timeS s) = none) : (timeS s).h ≤ 23 ∧ (timeS s).mi ≤ 59 ∧ (timeS s).sc ≤ 60 ∧ (timeS s).mc ≤ 999999 ∧ 1 ≤ (timeS s).p ∧ (timeS s).p ≤ 9 := by
  obtain ⟨hb, h1, h9⟩ := time_tb s
  obtain ⟨a, b, c⟩ := hb.bn (rdO_none h)
  exact ⟨a, b, c, hb.mc, h1, h9⟩

def sp (f l : Int) : Value := .agg #[.int .i64 f, .int .i64 l]

end Go.Proofs.YtfhapcnnalagjaaDoor
