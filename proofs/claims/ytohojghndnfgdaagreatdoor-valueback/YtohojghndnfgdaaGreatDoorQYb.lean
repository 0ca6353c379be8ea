import Derived.Test.YtohojghndnfgdaaGreatDoorQYa
/-
  DERIVED. A moment that was read, written again.
-/
namespace Go.Proofs.YtohojghndnfgdaaGreatDoor.Tm
open Go Go.Proofs Go.RowKit

theorem md_pos {y m : Nat} (h1 : 1 ≤ m) (h2 : m ≤ 12) : 1 ≤ md y m := by
  unfold md
  rw [if_neg (by omega)]
  split
  · omega
  · rcases (by omega : m = 1 ∨ m = 2 ∨ m = 3 ∨ m = 4 ∨ m = 5 ∨ m = 6 ∨ m = 7 ∨ m = 8 ∨ m = 9 ∨ m = 10 ∨ m = 11 ∨ m = 12) with rfl | rfl | rfl | rfl | rfl | rfl | rfl | rfl | rfl | rfl | rfl | rfl <;> decide

/-- A day that was read. -/
structure Dy (s : ByteArray) (S : Mst) (a0 k : Nat) : Prop where
  y1 : 1 ≤ S.y
  y9 : S.y ≤ 9999
  m1 : 1 ≤ S.m
  m12 : S.m ≤ 12
  d1 : 1 ≤ S.d
  dm : S.d ≤ md S.y S.m
  dp : S.dp = k
  p1 : 1 ≤ k
  p3 : k ≤ 3
  a : a0 = 2 + 2 * k
  mo : k = 1 → S.m = 1
  da : k < 3 → S.d = 1
  zd : S.zd = false
  z : S.z = 0
  tx : (s.extract 0 a0).data.toList = (pd S.y 4 ++ pd S.m 2 ++ pd S.d 2).take (2 + 2 * k)

theorem Dy.of {s : ByteArray} {S S' : Mst} {a0 dp : Nat} (H : Dy s S a0 dp) (h : S'.y = S.y ∧ S'.m = S.m ∧ S'.d = S.d ∧ S'.dp = S.dp ∧ S'.zd = S.zd ∧ S'.z = S.z) : Dy s S' a0 dp := by
  obtain ⟨e1, e2, e3, e4, e5, e6⟩ := h
  exact ⟨by rw [e1]; exact H.y1, by rw [e1]; exact H.y9, by rw [e2]; exact H.m1, by rw [e2]; exact H.m12, by rw [e3]; exact H.d1, by rw [e3, e1, e2]; exact H.dm, by rw [e4]; exact H.dp, H.p1, H.p3, H.a, by rw [e2]; exact H.mo, by rw [e3]; exact H.da, by rw [e5]; exact H.zd, by rw [e6]; exact H.z, by rw [e1, e2, e3]; exact H.tx⟩

theorem year_dy {s : ByteArray} (g : Gd (yearS s st0)) : Dy s (yearS s st0) 4 1 ∧ Tt s (yearS s st0) 4 0 := by
  obtain ⟨hb, ho⟩ := g
  obtain ⟨_, hC, hz, h1, h2, ht⟩ := pc_good (s := s) (S := st0) (k := 4) (lo := 1) (hi := 9999) (by omega) hb ho
  have eA : (yearS s st0).a = 4 := by show st0.a + pcC s st0 4 = _; rw [hC]; rfl
  have hz' : 4 ≤ s.size := by have : st0.a = 0 := rfl; omega
  refine ⟨⟨?_, ?_, Nat.le_refl _, by show 1 ≤ 12; omega, Nat.le_refl _, md_pos (Nat.le_refl _) (by show 1 ≤ 12; omega), rfl, by omega, by omega, rfl, fun _ => rfl, fun _ => rfl, rfl, rfl, ?_⟩, ?_⟩
  · show 1 ≤ pcN s st0 4; omega
  · show pcN s st0 4 ≤ 9999; omega
  · have : (s.extract 0 4).data.toList = pd (pcN s st0 4) 4 := ht
    rw [this, List.append_assoc, List.take_append_of_le_length (by rw [pd_len]; omega), List.take_of_length_le (by rw [pd_len]; omega)]
    rfl
  · refine ⟨⟨hb, ho⟩, by rw [eA]; omega, by rw [eA]; omega, rfl, by omega, fun _ => ⟨eA, rfl, rfl, rfl, rfl⟩, Nat.zero_le _, Nat.zero_le _, Nat.zero_le _, Nat.zero_le _, fun _ => rfl, fun _ => rfl, fun _ => rfl, fun h => by omega, ?_⟩
    rw [tT_0, eA, ByteArray.data_extract]; simp

theorem zero_tt {s : ByteArray} {S : Mst} (g : Gd S) (hz : S.a ≤ s.size) (h : S.p = 0 ∧ S.h = 0 ∧ S.mi = 0 ∧ S.sc = 0 ∧ S.mc = 0) : Tt s S S.a 0 := by
  obtain ⟨e1, e2, e3, e4, e5⟩ := h
  refine ⟨g, Nat.le_refl _, hz, e1, by omega, fun _ => ⟨rfl, e2, e3, e4, e5⟩, by omega, by omega, by omega, by omega, fun _ => e3, fun _ => e4, fun _ => e5, fun h => by omega, ?_⟩
  rw [tT_0, ByteArray.data_extract]; simp

theorem month_dy {s : ByteArray} {S : Mst} (H : Dy s S 4 1) (T : Tt s S 4 0) (g : Gd (monthS s S)) : Dy s (monthS s S) 6 2 ∧ Tt s (monthS s S) 6 0 := by
  obtain ⟨hb, ho⟩ := g
  obtain ⟨_, hC, hz, h1, h2, ht⟩ := pc_good (by omega) hb ho
  obtain ⟨e1, e2, e3, e4, e5⟩ := T.z rfl
  have eA : (monthS s S).a = 6 := by show S.a + pcC s S 2 = _; rw [hC, e1]
  have hd := H.da (by omega)
  have tz : Tt s (monthS s S) (monthS s S).a 0 := zero_tt ⟨hb, ho⟩ (by rw [eA]; omega) ⟨T.p, e2, e3, e4, e5⟩
  rw [eA] at tz
  have m1 : 1 ≤ pcN s S 2 := by omega
  have m2 : pcN s S 2 ≤ 12 := by omega
  refine ⟨⟨H.y1, H.y9, m1, m2, H.d1, ?_, rfl, by omega, by omega, rfl, fun h => by omega, fun _ => hd, H.zd, H.z, ?_⟩, tz⟩
  · show S.d ≤ md S.y (pcN s S 2)
    rw [hd]; exact md_pos m1 m2
  · rw [ext_cat s (b := 4) (by omega) (by omega), H.tx]
    rw [e1] at ht
    rw [ht]
    show _ = (pd S.y 4 ++ pd (pcN s S 2) 2 ++ pd S.d 2).take 6
    rw [List.append_assoc, List.take_append_of_le_length (by rw [pd_len]; omega), List.take_of_length_le (by rw [pd_len]; omega), List.take_append_of_le_length (by rw [List.length_append, pd_len, pd_len]; omega), List.take_of_length_le (by rw [List.length_append, pd_len, pd_len]; omega)]

theorem day_dy {s : ByteArray} {S : Mst} (H : Dy s S 6 2) (T : Tt s S 6 0) (g : Gd (dayS s S)) : Dy s (dayS s S) 8 3 ∧ Tt s (dayS s S) 8 0 := by
  obtain ⟨hb, ho⟩ := g
  obtain ⟨_, hC, hz, h1, h2, ht⟩ := pc_good (by omega) hb ho
  obtain ⟨e1, e2, e3, e4, e5⟩ := T.z rfl
  have eA : (dayS s S).a = 8 := by show S.a + pcC s S 2 = _; rw [hC, e1]
  have tz : Tt s (dayS s S) (dayS s S).a 0 := zero_tt ⟨hb, ho⟩ (by rw [eA]; omega) ⟨T.p, e2, e3, e4, e5⟩
  rw [eA] at tz
  have m1 : 1 ≤ pcN s S 2 := by omega
  have m2 : pcN s S 2 ≤ md S.y S.m := by omega
  refine ⟨⟨H.y1, H.y9, H.m1, H.m12, m1, m2, rfl, by omega, by omega, rfl, fun h => by omega, fun h => by omega, H.zd, H.z, ?_⟩, tz⟩
  rw [ext_cat s (b := 6) (by omega) (by omega), H.tx]
  rw [e1] at ht
  rw [ht]
  show _ = (pd S.y 4 ++ pd S.m 2 ++ pd (pcN s S 2) 2).take 8
  rw [List.take_append_of_le_length (by rw [List.length_append, pd_len, pd_len]; omega), List.take_of_length_le (by rw [List.length_append, pd_len, pd_len]; omega), List.take_of_length_le (by rw [List.length_append, List.length_append, pd_len, pd_len, pd_len]; omega)]

/-- A day and a clock. -/
def Mm (s : ByteArray) (S : Mst) (q : Nat) : Prop := ∃ a0 dp p, Dy s S a0 dp ∧ Tt s S a0 p ∧ p ≤ q ∧ (p ≠ 0 → dp = 3)

theorem h_gd {s : ByteArray} : ∀ t ∈ [minuteS s, secondS s], ∀ S, Gd (t S) → Gd S := by
  intro t ht S; simp at ht; rcases ht with rfl | rfl; exact minute_gd; exact second_gd
theorem d_gd {s : ByteArray} : ∀ t ∈ [hourS s, minuteS s, secondS s], ∀ S, Gd (t S) → Gd S := by
  intro t ht S; simp at ht; rcases ht with rfl | rfl | rfl; exact hour_gd; exact minute_gd; exact second_gd
theorem m_gd {s : ByteArray} : ∀ t ∈ [dayS s, hourS s, minuteS s, secondS s], ∀ S, Gd (t S) → Gd S := by
  intro t ht S; simp at ht; rcases ht with rfl | rfl | rfl | rfl; exact day_gd; exact hour_gd; exact minute_gd; exact second_gd
theorem y_gd {s : ByteArray} : ∀ t ∈ [monthS s, dayS s, hourS s, minuteS s, secondS s], ∀ S, Gd (t S) → Gd S := by
  intro t ht S; simp at ht; rcases ht with rfl | rfl | rfl | rfl | rfl; exact month_gd; exact day_gd; exact hour_gd; exact minute_gd; exact second_gd

theorem more_day {s : ByteArray} {S : Mst} : (moreS s [minuteS s, secondS s] S).y = S.y ∧ (moreS s [minuteS s, secondS s] S).m = S.m ∧ (moreS s [minuteS s, secondS s] S).d = S.d ∧ (moreS s [minuteS s, secondS s] S).dp = S.dp ∧ (moreS s [minuteS s, secondS s] S).zd = S.zd ∧ (moreS s [minuteS s, secondS s] S).z = S.z := by
  rw [moreS]
  split
  · rw [moreS]
    split
    · exact ⟨rfl, rfl, rfl, rfl, rfl, rfl⟩
    · exact ⟨rfl, rfl, rfl, rfl, rfl, rfl⟩
  · exact ⟨rfl, rfl, rfl, rfl, rfl, rfl⟩

theorem m3_mm {s : ByteArray} {S : Mst} (H : Dy s S 8 3) (T : Tt s S 8 0) (g : Gd (moreS s [hourS s, minuteS s, secondS s] S)) : Mm s (moreS s [hourS s, minuteS s, secondS s] S) 3 := by
  rw [moreS] at g ⊢
  split at g
  · rename_i h
    rw [if_pos h]
    obtain ⟨p, h3, h1, HT⟩ := more2_tt (hour_tt T (more_gd _ _ h_gd g)) g
    exact ⟨8, 3, p, (H.of (S' := hourS s S) ⟨rfl, rfl, rfl, rfl, rfl, rfl⟩).of more_day, HT, h3, fun _ => rfl⟩
  · rename_i h
    rw [if_neg h]
    exact ⟨8, 3, 0, H, T, by omega, fun h => absurd rfl h⟩
theorem m4_mm {s : ByteArray} {S : Mst} (H : Dy s S 6 2) (T : Tt s S 6 0) (g : Gd (moreS s [dayS s, hourS s, minuteS s, secondS s] S)) : Mm s (moreS s [dayS s, hourS s, minuteS s, secondS s] S) 3 := by
  rw [moreS] at g ⊢
  split at g
  · rename_i h
    rw [if_pos h]
    obtain ⟨H', T'⟩ := day_dy H T (more_gd _ _ d_gd g)
    exact m3_mm H' T' g
  · rename_i h
    rw [if_neg h]
    exact ⟨6, 2, 0, H, T, by omega, fun h => absurd rfl h⟩
theorem m5_mm {s : ByteArray} {S : Mst} (H : Dy s S 4 1) (T : Tt s S 4 0) (g : Gd (moreS s [monthS s, dayS s, hourS s, minuteS s, secondS s] S)) : Mm s (moreS s [monthS s, dayS s, hourS s, minuteS s, secondS s] S) 3 := by
  rw [moreS] at g ⊢
  split at g
  · rename_i h
    rw [if_pos h]
    obtain ⟨H', T'⟩ := month_dy H T (more_gd _ _ m_gd g)
    exact m4_mm H' T' g
  · rename_i h
    rw [if_neg h]
    exact ⟨4, 1, 0, H, T, by omega, fun h => absurd rfl h⟩

theorem frac_mm {s : ByteArray} {S : Mst} (H : Mm s S 3) (g : Gd (fracS s S)) : Mm s (fracS s S) 9 := by
  obtain ⟨a0, dp, p, hd, ht, hp, h3⟩ := H
  obtain ⟨p', ht', h0, _⟩ := frac_tt ht hp g
  refine ⟨a0, dp, p', hd.of ?_, ht', ht'.p9, fun h => h3 (by omega)⟩
  unfold fracS
  split
  · exact ⟨rfl, rfl, rfl, rfl, rfl, rfl⟩
  · split
    · exact ⟨rfl, rfl, rfl, rfl, rfl, rfl⟩
    · exact ⟨rfl, rfl, rfl, rfl, rfl, rfl⟩

theorem Dy.uf {s : ByteArray} {S : Mst} {a0 dp : Nat} (H : Dy s S a0 dp) : Tm.uf (S.y : Int) (S.m : Int) (S.d : Int) = -1 := by
  have h1 := H.y1; have h2 := H.y9; have h3 := H.m1; have h4 := H.m12; have h5 := H.d1; have h6 := H.dm
  unfold Tm.uf
  rw [if_neg (by omega), if_neg (by omega), Int.toNat_natCast, Int.toNat_natCast, if_neg (by omega)]

theorem Mm.mN {s : ByteArray} {S : Mst} (H : Mm s S 9) (zd : Bool) (z : Int) (hz : (zd = true → -720 ≤ z ∧ z ≤ 840) ∧ (zd = false → z = 0)) : Tm.mN (S.y : Int) (S.m : Int) (S.d : Int) (S.dp : Int) (S.h : Int) (S.mi : Int) (S.sc : Int) (S.mc : Int) (S.p : Int) zd z = -1 := by
  obtain ⟨a0, dp, p, hd, ht, hp, h3⟩ := H
  have h1 := hd.uf
  have h2 := hd.mo; have h4 := hd.da; have h5 := hd.p1; have h6 := hd.p3
  unfold Tm.mN
  rw [hd.dp, ht.p, h1, if_neg (by omega), if_neg (by omega)]
  rw [if_neg (by
    intro ⟨ha, hb⟩
    by_cases h0 : p = 0
    · obtain ⟨_, e1, e2, e3, e4⟩ := ht.z h0
      exact ha ⟨by omega, by omega, by omega, by omega, by omega⟩
    · have := h3 h0
      have := ht.tN (by omega)
      rcases hb with hb | hb
      · omega
      · exact hb this)]
  rw [if_neg]
  rintro (⟨ha, hb⟩ | ⟨ha, hb⟩)
  · exact hb (hz.1 ha)
  · exact hb (hz.2 ha)

theorem dX_list (y m d dp : Nat) : (dX y m d dp).data.toList = (pd y 4 ++ pd m 2 ++ pd d 2).take (2 + 2 * dp) := by
  unfold dX txt
  rw [ByteArray.data_extract, Array.toList_extract, List.extract_eq_take_drop, ByteArray.data_append, ByteArray.data_append, Array.toList_append, Array.toList_append]
  simp only [List.drop_zero, Nat.sub_zero]
  rfl

theorem Mm.tx {s : ByteArray} {S : Mst} (H : Mm s S 9) : (s.extract 0 S.a).data.toList = (dX S.y S.m S.d S.dp ++ tT S.h S.mi S.sc S.mc S.p).data.toList := by
  obtain ⟨a0, dp, p, hd, ht, hp, h3⟩ := H
  rw [ext_cat s (Nat.zero_le _) ht.lo, hd.tx, ht.tx, ByteArray.data_append, Array.toList_append, dX_list, hd.dp, ht.p]

theorem zone_gd {s : ByteArray} {S : Mst} (g : Gd (zoneS s S)) : Gd S := by
  unfold zoneS at g
  split at g
  · rename_i h
    have := nx_pos (s := s) (a := S.a) (b := S.b) (by omega)
    exact ⟨this.1, (nextD_none g.2).1⟩
  · exact g

theorem zone_facts {s : ByteArray} {S : Mst} {x : Nat} (hx : x = 43 ∨ x = 45) (hn : nx s S.a S.b = x) (g : Gd (zoS s S x)) :
    (zoS s S x).a = S.a + 5 ∧ S.a + 5 ≤ s.size ∧ (-720 ≤ (zoS s S x).z ∧ (zoS s S x).z ≤ 840) ∧ (s.extract S.a (S.a + 5)).data.toList = (zX (zoS s S x).z).data.toList := by
  obtain ⟨hb, ho⟩ := g
  have hp := nx_pos (s := s) (a := S.a) (b := S.b) (by omega)
  have hg : s.get! S.a = UInt8.ofNat x := by
    unfold nx at hn
    rw [if_neg (by rw [hp.1]; simp [hp.2])] at hn
    rw [← hn, UInt8.ofNat_toNat]
  have hB := (nextD_none ho).2
  change (decide (zC1 s (S.a + 1) < 2) || decide (zC2 s (S.a + 1) < 2)) = false at hb
  rw [Bool.or_eq_false_iff] at hb
  have c1 := of_decide_eq_false hb.1
  have c2 := of_decide_eq_false hb.2
  have l1 : zC1 s (S.a + 1) ≤ 2 := cnt_le s 2 _
  have l2 : zC2 s (S.a + 1) ≤ cnt s (S.a + 1 + zC1 s (S.a + 1)) 2 := zC2_le s _
  have l3 := cnt_le s 2 (S.a + 1 + zC1 s (S.a + 1))
  have E1 : zC1 s (S.a + 1) = 2 := by omega
  have E2 : zC2 s (S.a + 1) = 2 := by omega
  have zs := (zC_size (s := s) (a := S.a + 1) (by omega)).2
  rw [E1, E2] at zs
  have t1 : (s.extract (S.a + 1) (S.a + 1 + 2)).data.toList = pd (zH s (S.a + 1)) 2 := by
    unfold zH; rw [E1]; exact piece_text (c := 2) (by show 2 ≤ zC1 s (S.a + 1); omega) (by omega)
  have t2 : (s.extract (S.a + 1 + 2) (S.a + 1 + 2 + 2)).data.toList = pd (zM s (S.a + 1)) 2 := by
    unfold zM; rw [E1, E2]; exact piece_text (c := 2) (by rw [E1] at l2; omega) (by omega)
  have hA : (zoS s S x).a = S.a + 5 := by show S.a + 1 + zC1 s (S.a + 1) + zC2 s (S.a + 1) = _; omega
  have hZ : (zoS s S x).z = zV s (S.a + 1) x := rfl
  unfold zBad at hB
  rw [Bool.or_eq_false_iff, Bool.or_eq_false_iff] at hB
  obtain ⟨⟨b1, b2⟩, b3⟩ := hB
  have b1' := of_decide_eq_false b1
  have b2' : -720 ≤ zV s (S.a + 1) x ∧ zV s (S.a + 1) x ≤ 840 := by
    simpa [Bool.not_eq_false'] using b2
  refine ⟨hA, by omega, by rw [hZ]; exact b2', ?_⟩
  rw [ext_cat s (b := S.a + 1) (by omega) (by omega), ext_cat s (a := S.a + 1) (b := S.a + 1 + 2) (c := S.a + 5) (by omega) (by omega), get_at hp.2, t1, show S.a + 5 = S.a + 1 + 2 + 2 by omega, t2, hZ, hg]
  have hv : zV s (S.a + 1) x = if x = 45 then - (60 * (zH s (S.a + 1) : Int) + (zM s (S.a + 1) : Int)) else 60 * (zH s (S.a + 1) : Int) + (zM s (S.a + 1) : Int) := rfl
  generalize zV s (S.a + 1) x = z at *
  generalize zH s (S.a + 1) = H at *
  generalize zM s (S.a + 1) = M at *
  unfold zX
  rw [ByteArray.data_append, ByteArray.data_append, Array.toList_append, Array.toList_append]
  rcases hx with rfl | rfl
  · rw [if_neg (by decide)] at hv
    rw [if_neg (by omega), show z.natAbs / 60 = H by omega, show z.natAbs % 60 = M by omega]
    simp [pdB]
  · rw [if_pos rfl] at hv
    have : z ≠ 0 := by simpa using b3
    rw [if_pos (by omega), show z.natAbs / 60 = H by omega, show z.natAbs % 60 = M by omega]
    simp [pdB]

theorem moment_back {s : ByteArray} (h : rdO s (momS s) = none) :
    mN ((momS s).y : Int) ((momS s).m : Int) ((momS s).d : Int) ((momS s).dp : Int) ((momS s).h : Int) ((momS s).mi : Int) ((momS s).sc : Int) ((momS s).mc : Int) ((momS s).p : Int) (momS s).zd (momS s).z = -1 ∧
    mX (momS s).y (momS s).m (momS s).d (momS s).dp (momS s).h (momS s).mi (momS s).sc (momS s).mc (momS s).p (momS s).zd (momS s).z = s := by
  unfold rdO fmO at h
  split at h
  · simp at h
  · rename_i hn
    rw [Option.none_or] at h
    have g : Gd (momS s) := ⟨by cases hb : (momS s).b with | true => exact absurd (Or.inl hb) hn | false => rfl, h⟩
    have hA : ¬ (momS s).a < s.size := fun h => hn (Or.inr h)
    unfold momS at g hA ⊢
    have g1 := zone_gd g
    have g2 := frac_gd g1
    have g3 : Gd (yearS s st0) := more_gd _ _ y_gd g2
    obtain ⟨H0, T0⟩ := year_dy g3
    have M1 := frac_mm (m5_mm H0 T0 g2) g1
    generalize fracS s (moreS s [monthS s, dayS s, hourS s, minuteS s, secondS s] (yearS s st0)) = S at *
    have hz : S.zd = false ∧ S.z = 0 := by
      obtain ⟨a0, dp, p, hd, _⟩ := M1
      exact ⟨hd.zd, hd.z⟩
    unfold zoneS at g hA ⊢
    by_cases hx : nx s S.a S.b = 43 ∨ nx s S.a S.b = 45
    · rw [if_pos hx] at g hA ⊢
      generalize hX : nx s S.a S.b = x at *
      obtain ⟨f1, f2, f3, f4⟩ := zone_facts hx hX g
      refine ⟨M1.mN true _ ⟨fun _ => f3, fun h => by simp at h⟩, ?_⟩
      apply ba_ext
      unfold mX
      show (dX S.y S.m S.d S.dp ++ tT S.h S.mi S.sc S.mc S.p ++ (if true = true then zX (zoS s S x).z else ⟨#[]⟩)).data.toList = _
      rw [if_pos rfl, ByteArray.data_append, Array.toList_append, ← M1.tx, ← f4, ← ext_cat s (Nat.zero_le _) (by omega), ext_all s (by omega)]
    · rw [if_neg hx] at g hA ⊢
      refine ⟨M1.mN _ _ ⟨fun h => by rw [hz.1] at h; simp at h, fun _ => hz.2⟩, ?_⟩
      apply ba_ext
      unfold mX
      rw [hz.1, if_neg (by simp), app_nil, ← M1.tx, ext_all s (by omega)]
end Go.Proofs.YtohojghndnfgdaaGreatDoor.Tm
