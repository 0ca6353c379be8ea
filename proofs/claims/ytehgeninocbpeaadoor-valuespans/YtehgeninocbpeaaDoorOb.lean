import Derived.Test.YtehgeninocbpeaaDoorOa
/-
  DERIVED. What is read of days, times and moments, both ways the same.
-/
namespace Go.Proofs.YtehgeninocbpeaaDoor.Tm
open Go Go.Proofs Go.RowKit

theorem oP_day {s : ByteArray} (h : oP s = none) : Day (yy s) (mm s) (dd s) := by
  unfold oP at h
  have h3 : o3 s = none := (Option.or_eq_none_iff.1 h).2
  unfold o3 at h3
  obtain ⟨h2, b3⟩ := nextD_none h3
  unfold o2 at h2
  obtain ⟨h1, b2⟩ := nextD_none h2
  unfold o1 at h1
  obtain ⟨_, b1⟩ := nextD_none h1
  simp only [Bool.or_eq_false_iff, decide_eq_false_iff_not] at b1 b2 b3
  unfold Day
  omega

/-- What stands in a reader of times. -/
structure TB (S : Mst) : Prop where
  dat : S.y = 1 ∧ S.m = 1 ∧ S.d = 1 ∧ S.dp = 3 ∧ S.zd = false ∧ S.z = 0
  bn : S.o = none → S.h ≤ 23 ∧ S.mi ≤ 59 ∧ S.sc ≤ 60
  mc : S.mc ≤ 999999

theorem pcO_none {s : ByteArray} {S : Mst} {k : Nat} {lo hi : Int} (h : pcO s S k lo hi = none) : S.o = none ∧ (pcN s S k : Int) ≤ hi := by
  unfold pcO at h
  obtain ⟨h1, h2⟩ := nextD_none h
  simp only [Bool.or_eq_false_iff, decide_eq_false_iff_not] at h2
  exact ⟨h1, by omega⟩

theorem TB.hour {s : ByteArray} {S : Mst} (h : TB S) : TB (hourS s S) :=
  ⟨h.dat, fun e => by obtain ⟨e1, e2⟩ := pcO_none e; obtain ⟨_, b, c⟩ := h.bn e1; refine ⟨?_, b, c⟩; show pcN s S 2 ≤ 23; omega, h.mc⟩
theorem TB.minute {s : ByteArray} {S : Mst} (h : TB S) : TB (minuteS s S) :=
  ⟨h.dat, fun e => by obtain ⟨e1, e2⟩ := pcO_none e; obtain ⟨a, _, c⟩ := h.bn e1; refine ⟨a, ?_, c⟩; show pcN s S 2 ≤ 59; omega, h.mc⟩
theorem TB.second {s : ByteArray} {S : Mst} (h : TB S) : TB (secondS s S) :=
  ⟨h.dat, fun e => by obtain ⟨e1, e2⟩ := pcO_none e; obtain ⟨a, b, _⟩ := h.bn e1; refine ⟨a, b, ?_⟩; show pcN s S 2 ≤ 60; omega, h.mc⟩
theorem TB.frac {s : ByteArray} {S : Mst} (h : TB S) : TB (fracS s S) := by
  unfold fracS
  split
  · exact h
  · split
    · refine ⟨h.dat, h.bn, ?_⟩
      show nv s (S.a + 1) (frC s S) * 10 ^ (6 - frC s S) ≤ 999999
      have h1 : nv s (S.a + 1) (frC s S) < 10 ^ frC s S := nv_lt s (S.a + 1) (frC s S) 6 (Nat.le_refl _)
      have h2 : frC s S ≤ 6 := cnt_le s 6 (S.a + 1)
      generalize nv s (S.a + 1) (frC s S) = N at *
      generalize frC s S = c at *
      rcases (by omega : c = 0 ∨ c = 1 ∨ c = 2 ∨ c = 3 ∨ c = 4 ∨ c = 5 ∨ c = 6) with rfl | rfl | rfl | rfl | rfl | rfl | rfl <;> simp at h1 ⊢ <;> omega
    · exact h
theorem frac_p {s : ByteArray} {S : Mst} (h : 1 ≤ S.p ∧ S.p ≤ 3) : 1 ≤ (fracS s S).p ∧ (fracS s S).p ≤ 9 := by
  unfold fracS
  have h2 : frC s S ≤ 6 := cnt_le s 6 (S.a + 1)
  split
  · omega
  · split
    · show 1 ≤ S.p + frC s S ∧ S.p + frC s S ≤ 9
      omega
    · omega

theorem time_tb (s : ByteArray) : TB (timeS s) ∧ 1 ≤ (timeS s).p ∧ (timeS s).p ≤ 9 := by
  have h0 : TB st0 := ⟨⟨rfl, rfl, rfl, rfl, rfl, rfl⟩, fun _ => by decide, by decide⟩
  unfold timeS
  have h1 : TB (hourS s st0) := h0.hour
  have : TB (moreS s [minuteS s, secondS s] (hourS s st0)) ∧ 1 ≤ (moreS s [minuteS s, secondS s] (hourS s st0)).p ∧ (moreS s [minuteS s, secondS s] (hourS s st0)).p ≤ 3 := by
    rw [moreS]
    split
    · rw [moreS]
      split
      · rw [moreS]
        exact ⟨h1.minute.second, by show 1 ≤ 3; omega, by show 3 ≤ 3; omega⟩
      · exact ⟨h1.minute, by show 1 ≤ 2; omega, by show 2 ≤ 3; omega⟩
    · exact ⟨h1, by show 1 ≤ 1; omega, by show 1 ≤ 3; omega⟩
  exact ⟨this.1.frac, frac_p this.2⟩


theorem mon_f (s : ByteArray) (S : Mst) : (monthS s S).a = S.a + pcC s S 2 ∧ (monthS s S).b = (S.b || decide (pcC s S 2 < 2)) ∧ (monthS s S).o = pcO s S 2 1 12 ∧ (monthS s S).y = S.y ∧ (monthS s S).m = pcN s S 2 := ⟨rfl, rfl, rfl, rfl, rfl⟩
theorem day_f (s : ByteArray) (S : Mst) : (dayS s S).a = S.a + pcC s S 2 ∧ (dayS s S).b = (S.b || decide (pcC s S 2 < 2)) ∧ (dayS s S).o = pcO s S 2 1 (md S.y S.m : Nat) ∧ (dayS s S).y = S.y ∧ (dayS s S).m = S.m ∧ (dayS s S).d = pcN s S 2 := ⟨rfl, rfl, rfl, rfl, rfl, rfl⟩
theorem year_f (s : ByteArray) (S : Mst) : (yearS s S).a = S.a + pcC s S 4 ∧ (yearS s S).b = (S.b || decide (pcC s S 4 < 4)) ∧ (yearS s S).o = pcO s S 4 1 9999 ∧ (yearS s S).y = pcN s S 4 := ⟨rfl, rfl, rfl, rfl⟩
theorem date_is (s : ByteArray) : rdO s (dateF s 0) = oP s ∧ (dateF s 0).y = yy s ∧ (dateF s 0).m = mm s ∧ (dateF s 0).d = dd s := by
  unfold dateF
  have e0 : (stA 0).a = 0 ∧ (stA 0).b = false ∧ (stA 0).o = none := ⟨rfl, rfl, rfl⟩
  generalize stA 0 = S0 at *
  obtain ⟨a0, b0, c0⟩ := e0
  have p1 : pcC s S0 4 = k1 s := by unfold pcC k1; rw [a0, b0]; rfl
  obtain ⟨a1, b1, c1, d1⟩ := year_f s S0
  rw [p1, a0, Nat.zero_add] at a1
  rw [p1, b0, Bool.false_or] at b1
  have n1 : pcN s S0 4 = yy s := by unfold pcN yy; rw [p1, a0]
  have c1' : (yearS s S0).o = o1 s := by rw [c1]; unfold pcO o1; rw [n1, a0, c0]
  rw [n1] at d1
  clear c1
  generalize yearS s S0 = Y at *
  obtain ⟨a2, b2', c2, d2, m2⟩ := mon_f s Y
  have p2 : pcC s Y 2 = k2 s := by unfold pcC k2; rw [a1, b1]
  have n2 : pcN s Y 2 = mm s := by unfold pcN mm; rw [p2, a1]
  rw [p2, a1] at a2
  have b2'' : (monthS s Y).b = b2 s := by rw [b2', p2, b1]; rfl
  have c2' : (monthS s Y).o = o2 s := by rw [c2]; unfold pcO o2; rw [n2, a1, c1']
  rw [d1] at d2
  rw [n2] at m2
  clear c2 b2'
  generalize monthS s Y = M at *
  obtain ⟨a3, b3', c3, d3, m3, x3⟩ := day_f s M
  have p3 : pcC s M 2 = k3 s := by unfold pcC k3; rw [a2, b2'']
  have n3 : pcN s M 2 = dd s := by unfold pcN dd; rw [p3, a2]
  rw [p3, a2] at a3
  have b3'' : (dayS s M).b = b3 s := by rw [b3', p3, b2'']; rfl
  have c3' : (dayS s M).o = o3 s := by rw [c3]; unfold pcO o3; rw [n3, a2, c2', d2, m2]
  refine ⟨?_, by rw [d3, d2], by rw [m3, m2], by rw [x3, n3]⟩
  unfold rdO fmO oP oe
  rw [a3, b3'', c3']
theorem date_rest (s : ByteArray) : (dateF s 0).dp = 3 ∧ (dateF s 0).h = 0 ∧ (dateF s 0).mi = 0 ∧ (dateF s 0).sc = 0 ∧ (dateF s 0).mc = 0 ∧ (dateF s 0).p = 0 ∧ (dateF s 0).z = 0 := ⟨rfl, rfl, rfl, rfl, rfl, rfl, rfl⟩

/-- A moment has a time only behind a whole day. -/
def Iv (S : Mst) : Prop := (S.p = 0 ∧ S.h = 0 ∧ S.mi = 0 ∧ S.sc = 0 ∧ S.mc = 0) ∨ (1 ≤ S.p ∧ S.dp = 3)
theorem iv_frac {s : ByteArray} {S : Mst} (h : Iv S) : Iv (fracS s S) := by
  unfold fracS
  split
  · exact h
  · split
    · rcases h with h | h
      · omega
      · exact .inr ⟨by show 1 ≤ S.p + frC s S; omega, h.2⟩
    · exact h
theorem zone_p (s : ByteArray) (S : Mst) : (zoneS s S).p = S.p ∧ (zoneS s S).h = S.h ∧ (zoneS s S).mi = S.mi ∧ (zoneS s S).sc = S.sc ∧ (zoneS s S).mc = S.mc ∧ (zoneS s S).dp = S.dp := by
  unfold zoneS
  split <;> exact ⟨rfl, rfl, rfl, rfl, rfl, rfl⟩
theorem iv_zone {s : ByteArray} {S : Mst} (h : Iv S) : Iv (zoneS s S) := by
  obtain ⟨h1, h2, h3, h4, h5, h6⟩ := zone_p s S
  unfold Iv
  rw [h1, h2, h3, h4, h5, h6]
  exact h
theorem iv_mom (s : ByteArray) (a : Nat) : Iv (momF s a) := by
  unfold momF
  refine iv_zone (iv_frac ?_)
  rw [moreS]
  split
  · rw [moreS]
    split
    · rw [moreS]
      split
      · rw [moreS]
        split
        · rw [moreS]
          split
          · rw [moreS]; exact .inr ⟨by show 1 ≤ 3; omega, rfl⟩
          · exact .inr ⟨by show 1 ≤ 2; omega, rfl⟩
        · exact .inr ⟨by show 1 ≤ 1; omega, rfl⟩
      · exact .inl ⟨rfl, rfl, rfl, rfl, rfl⟩
    · exact .inl ⟨rfl, rfl, rfl, rfl, rfl⟩
  · exact .inl ⟨rfl, rfl, rfl, rfl, rfl⟩

/-- How a moment's ticks are told by the document. -/
theorem yl_dA (y : Nat) (h : 1 ≤ y) : (dA (y + 1) : Int) - (dA y : Int) = (yl y : Int) := by
  rw [dA_next y h]
  unfold yl
  split <;> omega
end Go.Proofs.YtehgeninocbpeaaDoor.Tm
