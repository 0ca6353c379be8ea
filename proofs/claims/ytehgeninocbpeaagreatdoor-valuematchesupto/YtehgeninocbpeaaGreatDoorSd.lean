import Derived.Test.YtehgeninocbpeaaGreatDoorSb
namespace Go.Proofs.YtehgeninocbpeaaGreatDoor.Tm
open Go Go.Proofs Go.RowKit
theorem PErr.two {W : World} {v : Value} {o : Option (Int × Int)} {r : Nat} {x : Int} (h : PErr W v o) (h0 : W.cell? ⟨r, 0, none⟩ = some (.int .i64 x)) (a b : Value) : PErr ((W.setCell ⟨r, 0, none⟩ a).setCell ⟨r, 1, none⟩ b) v o := by
  have hD : Dbt W r v o := ⟨h, fun p hp => by
    cases o with
    | none => rw [show v = .nilIface from h] at hp; cases hp
    | some y =>
      obtain ⟨q, hq, hf⟩ := h
      rw [hq] at hp
      obtain rfl : q = p := by simpa using hp
      rintro rfl
      have := hf.1
      rw [h0] at this
      cases this⟩
  exact (hD.grown (grown_set (grown_set (grown_refl _ _) 0 _) 1 _)).1
set_option maxRecDepth 100000 in
set_option maxHeartbeats 1000000 in
theorem own96_no (w : World) (vr : Int) (s : ByteArray) (a : Nat) (x : Int × Int) (hT : Mt w)
    (c23 : ∀ W, Mt W → Calls Tryz.prog 120 #[.int .i64 vr, .string s, .int .i64 (a : Int)] W (PostR W (.agg #[.int .i64 0, .int .i64 0, .int .i64 0, .int .i64 0, .int .i64 0, .int .i64 0, .int .i64 0, .int .i64 0, .int .i64 0, .bool false, .int .i64 0]) (some x))) :
    Calls Tryz.prog 96 #[.int .i64 vr, .string s, .int .i64 (a : Int)] w (PostR w (sp 0 0) (some x)) := by
  obtain ⟨r, hr⟩ : ∃ r, w.heap.size = r := ⟨_, rfl⟩
  obtain ⟨W0, hW0⟩ : ∃ W0, w.alloc (.cells #[.int .i64 0, .int .i64 0] 66) = W0 := ⟨_, rfl⟩
  have hb0 : Below r w W0 := by rw [← hW0, ← hr]; exact (Below.refl _ _).alloc (Nat.le_refl _) _
  have hs0 : W0.heap.size = r + 1 := by rw [← hW0, ← hr]; simp
  have HZ0 : Hid (W0.rowIs r 66 2 (fun k => #[Value.int .i64 0, .int .i64 0].getD k undef)) := by
    show W0.rowIs _ _ _ _
    rw [← hW0, ← hr]
    exact World.rowIs_alloc w _ 66 _ (row_lit _)
  have c23 := c23 W0 (hT.on (hr ▸ hb0))
  have HB0 : Hid (Below r w W0) := hb0
  have HW0 : Hid _ := hW0
  clear hW0 hT hb0
  go_enter Tryz.func96, Tryz.ntmps96
  go_wp2_with (go_at_call 120; refine Stop.mk ?_)
  rw [HW0.out]
  refine Stop.out (c23.mono ?_)
  rintro e W1 ⟨v, rfl, hv, hb1⟩
  have HV1 : Hid (PErr W1 v (some x)) := hv
  obtain ⟨g, rfl, _⟩ := hv
  go_upto_region 2 with fail
  obtain ⟨W2, hW2⟩ : ∃ W2, W1.alloc (.cells #[.int .i64 0, .int .i64 0, .int .i64 0, .int .i64 0, .int .i64 0, .int .i64 0, .int .i64 0, .int .i64 0, .int .i64 0, .bool false, .int .i64 0] 130) = W2 := ⟨_, rfl⟩
  have hb12 : Below W1.heap.size W1 W2 := hW2 ▸ (Below.refl _ W1).alloc (Nat.le_refl _) _
  have HV2 : Hid (PErr W2 (.iface 88 (.pointer (some ⟨g, 0, none⟩))) (some x)) := HV1.out.next hb12
  have hb2 : Below W0.heap.size W0 W2 := hb1.trans (hb12.mono hb1.size)
  have HZ2 := HZ0.out.of_block (hb2.block _ HZ0.out.lt)
  have z0 : W2.cell? ⟨r, 0, none⟩ = some (.int .i64 0) := HZ2.cell (i := 0) (by omega)
  have z1 : W2.cell? ⟨r, 1, none⟩ = some (.int .i64 0) := HZ2.cell (i := 1) (by omega)
  have zf := fun i => HZ2.frozen i
  have HB2 : Hid (Below r w W2) := HB0.out.trans (hb2.mono (by omega))
  rw [hW2]
  clear hW2 hb2 hb1 HZ2 HZ0 HB0 HW0 c23 hb12 HV1
  go_wp2
  refine bodyPost_ret (v := .tuple #[sp 0 0, .iface 88 (.pointer (some ⟨g, 0, none⟩))]) (by simp [results, Tryz.results96, go_sem, sp, z0, z1]) rfl ⟨_, rfl, HV2.out.two z0 _ _, ?_⟩
  rw [hr]
  exact (HB2.out.setCell (p := ⟨r, 0, none⟩) (Nat.le_refl _) _).setCell (p := ⟨r, 1, none⟩) (Nat.le_refl _) _
set_option maxRecDepth 100000 in
set_option maxHeartbeats 1000000 in
theorem own61_any (w : World) (vr : Int) (s : ByteArray) (F L : Int) (o : Option (Int × Int)) (hT : Mt w) (hO : Ot w)
    (c14 : ∀ W, Mt W → Ot W → Calls Tryz.prog 96 #[.int .i64 vr, .string s, .int .i64 0] W (PostR W (sp F L) o)) :
    Calls Tryz.prog 61 #[.int .i64 vr, .string s] w (PostR w (sp F L) o) := by
  obtain ⟨r, hr⟩ : ∃ r, w.heap.size = r := ⟨_, rfl⟩
  obtain ⟨W0, hW0⟩ : ∃ W0, w.alloc (.cells #[.int .i64 0, .int .i64 0] 66) = W0 := ⟨_, rfl⟩
  have hb0 : Below r w W0 := by rw [← hW0, ← hr]; exact (Below.refl _ _).alloc (Nat.le_refl _) _
  have hs0 : W0.heap.size = r + 1 := by rw [← hW0, ← hr]; simp
  have HZ0 : Hid (W0.rowIs r 66 2 (fun k => #[Value.int .i64 0, .int .i64 0].getD k undef)) := by
    show W0.rowIs _ _ _ _
    rw [← hW0, ← hr]
    exact World.rowIs_alloc w _ 66 _ (row_lit _)
  have c14 := c14 W0 (hT.on (hr ▸ hb0)) (hO.on (hr ▸ hb0))
  have HB0 : Hid (Below r w W0) := hb0
  have HW0 : Hid _ := hW0
  clear hW0 hT hb0 hO
  unfold sp at c14
  go_enter Tryz.func61, Tryz.ntmps61
  go_wp2_with (go_at_call 96; refine Stop.mk ?_)
  rw [HW0.out]
  refine Stop.out (c14.mono ?_)
  rintro e W2 ⟨v, rfl, hv, hb2⟩
  have HV : Hid (PErr W2 v o) := hv
  have HZ2 := HZ0.out.of_block (hb2.block _ HZ0.out.lt)
  have z0 : W2.cell? ⟨r, 0, none⟩ = some (.int .i64 0) := HZ2.cell (i := 0) (by omega)
  have z1 : W2.cell? ⟨r, 1, none⟩ = some (.int .i64 0) := HZ2.cell (i := 1) (by omega)
  have zf := fun i => HZ2.frozen i
  have HB2 : Hid (Below r w W2) := HB0.out.trans (hb2.mono (by omega))
  clear hb2 HZ2 HZ0 HB0 HW0 c14 hv
  go_wp2
  refine bodyPost_ret (v := .tuple #[sp F L, v]) (by simp [results, Tryz.results61, go_sem, sp, z0, z1]) rfl ⟨_, rfl, HV.out.two z0 _ _, ?_⟩
  rw [hr]
  exact (HB2.out.setCell (p := ⟨r, 0, none⟩) (Nat.le_refl _) _).setCell (p := ⟨r, 1, none⟩) (Nat.le_refl _) _
end Go.Proofs.YtehgeninocbpeaaGreatDoor.Tm

namespace Go.Proofs.YtehgeninocbpeaaGreatDoor.Tm
open Go Go.Proofs Go.RowKit
theorem md_pos {y m : Nat} (h1 : 1 ≤ m) (h2 : m ≤ 12) : 1 ≤ md y m := by
  unfold md
  rw [if_neg (by omega)]
  split
  · omega
  · rcases (by omega : m = 1 ∨ m = 2 ∨ m = 3 ∨ m = 4 ∨ m = 5 ∨ m = 6 ∨ m = 7 ∨ m = 8 ∨ m = 9 ∨ m = 10 ∨ m = 11 ∨ m = 12) with rfl | rfl | rfl | rfl | rfl | rfl | rfl | rfl | rfl | rfl | rfl | rfl <;> decide
theorem nextD_none {o : Option (Int × Int)} {bad : Bool} {pl : Nat} (h : nextD o bad pl = none) : o = none ∧ bad = false := by
  unfold nextD at h
  cases bad with
  | true =>
    rw [if_pos rfl] at h
    by_cases ho : o = none
    · rw [if_pos ho] at h; exact absurd h (by simp)
    · rw [if_neg ho] at h; exact absurd h ho
  | false => rw [if_neg (by simp)] at h; exact ⟨h, rfl⟩
def Gd (S : Mst) : Prop := S.b = false ∧ S.o = none
theorem pc_good {s : ByteArray} {S : Mst} {k : Nat} {lo hi : Int} (hb : (S.b || decide (pcC s S k < k)) = false) (ho : pcO s S k lo hi = none) :
    Gd S ∧ lo ≤ (pcN s S k : Int) ∧ (pcN s S k : Int) ≤ hi := by
  rw [Bool.or_eq_false_iff] at hb
  obtain ⟨h3, h4⟩ := nextD_none ho
  rw [Bool.or_eq_false_iff] at h4
  have h9 := of_decide_eq_false h4.1
  have h10 := of_decide_eq_false h4.2
  exact ⟨⟨hb.1, h3⟩, by omega, by omega⟩
structure Bo (S : Mst) : Prop where
  gd : Gd S
  y1 : 1 ≤ S.y
  y9 : S.y ≤ 9999
  m1 : 1 ≤ S.m
  m12 : S.m ≤ 12
  d1 : 1 ≤ S.d
  dm : S.d ≤ md S.y S.m
  p1 : 1 ≤ S.dp
  p3 : S.dp ≤ 3
  h : S.h ≤ 23
  mi : S.mi ≤ 59
  sc : S.sc ≤ 60
  mc : S.mc ≤ 999999
  p9 : S.p ≤ 9
  z1 : -720 ≤ S.z
  z2 : S.z ≤ 840
theorem Bo.start (a : Nat) : Bo (stA a) := ⟨⟨rfl, rfl⟩, Nat.le_refl _, by show 1 ≤ 9999; omega, Nat.le_refl _, by show 1 ≤ 12; omega, Nat.le_refl _, md_pos (Nat.le_refl _) (by show 1 ≤ 12; omega), by show 1 ≤ 3; omega, Nat.le_refl _, Nat.zero_le _, Nat.zero_le _, Nat.zero_le _, Nat.zero_le _, Nat.zero_le _, by show (-720 : Int) ≤ 0; omega, by show (0 : Int) ≤ 840; omega⟩
theorem Bo.year {s : ByteArray} {S : Mst} (H : Bo S) (hd : S.d = 1) (g : Gd (yearS s S)) : Bo (yearS s S) := by
  obtain ⟨_, h1, h2⟩ := pc_good (k := 4) g.1 g.2
  exact ⟨g, (by show 1 ≤ pcN s S 4; omega), (by show pcN s S 4 ≤ 9999; omega), H.m1, H.m12, H.d1, (by show S.d ≤ md (pcN s S 4) S.m; rw [hd]; exact md_pos H.m1 H.m12), (by show 1 ≤ 1; omega), (by show 1 ≤ 3; omega), H.h, H.mi, H.sc, H.mc, H.p9, H.z1, H.z2⟩
theorem Bo.month {s : ByteArray} {S : Mst} (H : Bo S) (hd : S.d = 1) (g : Gd (monthS s S)) : Bo (monthS s S) := by
  obtain ⟨_, h1, h2⟩ := pc_good (k := 2) g.1 g.2
  exact ⟨g, H.y1, H.y9, (by show 1 ≤ pcN s S 2; omega), (by show pcN s S 2 ≤ 12; omega), H.d1, (by show S.d ≤ md S.y (pcN s S 2); rw [hd]; exact md_pos (by omega) (by omega)), (by show 1 ≤ 2; omega), (by show 2 ≤ 3; omega), H.h, H.mi, H.sc, H.mc, H.p9, H.z1, H.z2⟩
theorem Bo.day {s : ByteArray} {S : Mst} (H : Bo S) (g : Gd (dayS s S)) : Bo (dayS s S) := by
  obtain ⟨_, h1, h2⟩ := pc_good (k := 2) g.1 g.2
  exact ⟨g, H.y1, H.y9, H.m1, H.m12, (by show 1 ≤ pcN s S 2; omega), (by show pcN s S 2 ≤ md S.y S.m; omega), (by show 1 ≤ 3; omega), (by show 3 ≤ 3; omega), H.h, H.mi, H.sc, H.mc, H.p9, H.z1, H.z2⟩
theorem Bo.hour {s : ByteArray} {S : Mst} (H : Bo S) (g : Gd (hourS s S)) : Bo (hourS s S) := by
  obtain ⟨_, h1, h2⟩ := pc_good (k := 2) g.1 g.2
  exact ⟨g, H.y1, H.y9, H.m1, H.m12, H.d1, H.dm, H.p1, H.p3, (by show pcN s S 2 ≤ 23; omega), H.mi, H.sc, H.mc, (by show 1 ≤ 9; omega), H.z1, H.z2⟩
theorem Bo.minute {s : ByteArray} {S : Mst} (H : Bo S) (g : Gd (minuteS s S)) : Bo (minuteS s S) := by
  obtain ⟨_, h1, h2⟩ := pc_good (k := 2) g.1 g.2
  exact ⟨g, H.y1, H.y9, H.m1, H.m12, H.d1, H.dm, H.p1, H.p3, H.h, (by show pcN s S 2 ≤ 59; omega), H.sc, H.mc, (by show 2 ≤ 9; omega), H.z1, H.z2⟩
theorem Bo.second {s : ByteArray} {S : Mst} (H : Bo S) (g : Gd (secondS s S)) : Bo (secondS s S) := by
  obtain ⟨_, h1, h2⟩ := pc_good (k := 2) g.1 g.2
  exact ⟨g, H.y1, H.y9, H.m1, H.m12, H.d1, H.dm, H.p1, H.p3, H.h, H.mi, (by show pcN s S 2 ≤ 60; omega), H.mc, (by show 3 ≤ 9; omega), H.z1, H.z2⟩
theorem frac_gd {s : ByteArray} {S : Mst} (g : Gd (fracS s S)) : Gd S := by
  unfold fracS at g
  split at g
  · exact g
  · split at g
    · rename_i h
      have := nx_pos (s := s) (a := S.a) (b := S.b) (by omega)
      exact ⟨this.1, g.2⟩
    · exact g
theorem Bo.frac {s : ByteArray} {S : Mst} (H : Bo S) (hp : S.p ≤ 3) (g : Gd (fracS s S)) : Bo (fracS s S) := by
  unfold fracS at g ⊢
  by_cases h : S.p < 3
  · rw [if_pos h]; exact H
  · rw [if_neg h] at g ⊢
    by_cases hx : nx s S.a S.b = 46
    · rw [if_pos hx] at g ⊢
      have h6 : frC s S ≤ 6 := cnt_le s 6 _
      have hv : nv s (S.a + 1) (frC s S) < 10 ^ frC s S := nv_lt s (S.a + 1) (frC s S) 6 (Nat.le_refl _)
      have hM : nv s (S.a + 1) (frC s S) * 10 ^ (6 - frC s S) < 10 ^ 6 := by
        have : nv s (S.a + 1) (frC s S) * 10 ^ (6 - frC s S) < 10 ^ (frC s S) * 10 ^ (6 - frC s S) := Nat.mul_lt_mul_of_pos_right hv (Nat.pow_pos (by omega))
        rw [← Nat.pow_add, show frC s S + (6 - frC s S) = 6 by omega] at this
        exact this
      exact ⟨g, H.y1, H.y9, H.m1, H.m12, H.d1, H.dm, H.p1, H.p3, H.h, H.mi, H.sc, (by show nv s (S.a + 1) (frC s S) * 10 ^ (6 - frC s S) ≤ 999999; omega), (by show S.p + frC s S ≤ 9; omega), H.z1, H.z2⟩
    · rw [if_neg hx]; exact H
theorem zone_gd {s : ByteArray} {S : Mst} (g : Gd (zoneS s S)) : Gd S := by
  unfold zoneS at g
  split at g
  · rename_i h
    have := nx_pos (s := s) (a := S.a) (b := S.b) (by omega)
    exact ⟨this.1, (nextD_none g.2).1⟩
  · exact g
theorem Bo.zone {s : ByteArray} {S : Mst} (H : Bo S) (g : Gd (zoneS s S)) : Bo (zoneS s S) := by
  unfold zoneS at g ⊢
  by_cases hx : nx s S.a S.b = 43 ∨ nx s S.a S.b = 45
  · rw [if_pos hx] at g ⊢
    have hB := (nextD_none g.2).2
    unfold zBad at hB
    rw [Bool.or_eq_false_iff, Bool.or_eq_false_iff] at hB
    obtain ⟨⟨b1, b2⟩, b3⟩ := hB
    have b2' : -720 ≤ zV s (S.a + 1) (nx s S.a S.b) ∧ zV s (S.a + 1) (nx s S.a S.b) ≤ 840 := by simpa [Bool.not_eq_false'] using b2
    exact ⟨g, H.y1, H.y9, H.m1, H.m12, H.d1, H.dm, H.p1, H.p3, H.h, H.mi, H.sc, H.mc, H.p9, b2'.1, b2'.2⟩
  · rw [if_neg hx]; exact H
theorem more_gd {s : ByteArray} : ∀ (l : List (Mst → Mst)) (S : Mst), (∀ t ∈ l, ∀ S, Gd (t S) → Gd S) → Gd (moreS s l S) → Gd S
  | [], S, _, h => h
  | t :: l, S, ht, h => by
    unfold moreS at h
    split at h
    · exact ht t (by simp) S (more_gd l (t S) (fun u hu => ht u (by simp [hu])) h)
    · exact h
theorem hour_gd {s : ByteArray} {S : Mst} (g : Gd (hourS s S)) : Gd S := (pc_good (k := 2) g.1 g.2).1
theorem minute_gd {s : ByteArray} {S : Mst} (g : Gd (minuteS s S)) : Gd S := (pc_good (k := 2) g.1 g.2).1
theorem second_gd {s : ByteArray} {S : Mst} (g : Gd (secondS s S)) : Gd S := (pc_good (k := 2) g.1 g.2).1
theorem month_gd {s : ByteArray} {S : Mst} (g : Gd (monthS s S)) : Gd S := (pc_good (k := 2) g.1 g.2).1
theorem day_gd {s : ByteArray} {S : Mst} (g : Gd (dayS s S)) : Gd S := (pc_good (k := 2) g.1 g.2).1
theorem h_gd {s : ByteArray} : ∀ t ∈ [minuteS s, secondS s], ∀ S, Gd (t S) → Gd S := by
  intro t ht S; simp at ht; rcases ht with rfl | rfl; exact minute_gd; exact second_gd
theorem d_gd {s : ByteArray} : ∀ t ∈ [hourS s, minuteS s, secondS s], ∀ S, Gd (t S) → Gd S := by
  intro t ht S; simp at ht; rcases ht with rfl | rfl | rfl; exact hour_gd; exact minute_gd; exact second_gd
theorem m_gd {s : ByteArray} : ∀ t ∈ [dayS s, hourS s, minuteS s, secondS s], ∀ S, Gd (t S) → Gd S := by
  intro t ht S; simp at ht; rcases ht with rfl | rfl | rfl | rfl; exact day_gd; exact hour_gd; exact minute_gd; exact second_gd
theorem y_gd {s : ByteArray} : ∀ t ∈ [monthS s, dayS s, hourS s, minuteS s, secondS s], ∀ S, Gd (t S) → Gd S := by
  intro t ht S; simp at ht; rcases ht with rfl | rfl | rfl | rfl | rfl; exact month_gd; exact day_gd; exact hour_gd; exact minute_gd; exact second_gd
theorem Bo.more3 {s : ByteArray} {S : Mst} (H : Bo S) (hp : S.p ≤ 3) (g : Gd (moreS s [secondS s] S)) : Bo (moreS s [secondS s] S) ∧ (moreS s [secondS s] S).p ≤ 3 := by
  rw [moreS] at g ⊢
  split at g
  · rename_i h
    rw [if_pos h]
    exact ⟨H.second g, by show 3 ≤ 3; omega⟩
  · rename_i h
    rw [if_neg h]
    exact ⟨H, hp⟩
theorem Bo.more2 {s : ByteArray} {S : Mst} (H : Bo S) (hp : S.p ≤ 3) (g : Gd (moreS s [minuteS s, secondS s] S)) : Bo (moreS s [minuteS s, secondS s] S) ∧ (moreS s [minuteS s, secondS s] S).p ≤ 3 := by
  rw [moreS] at g ⊢
  split at g
  · rename_i h
    rw [if_pos h]
    exact (H.minute (more_gd _ _ (by intro t ht S; simp at ht; subst ht; exact second_gd) g)).more3 (by show 2 ≤ 3; omega) g
  · rename_i h
    rw [if_neg h]
    exact ⟨H, hp⟩
theorem Bo.more1 {s : ByteArray} {S : Mst} (H : Bo S) (hp : S.p ≤ 3) (g : Gd (moreS s [hourS s, minuteS s, secondS s] S)) : Bo (moreS s [hourS s, minuteS s, secondS s] S) ∧ (moreS s [hourS s, minuteS s, secondS s] S).p ≤ 3 := by
  rw [moreS] at g ⊢
  split at g
  · rename_i h
    rw [if_pos h]
    exact (H.hour (more_gd _ _ h_gd g)).more2 (by show 1 ≤ 3; omega) g
  · rename_i h
    rw [if_neg h]
    exact ⟨H, hp⟩
theorem Bo.more4 {s : ByteArray} {S : Mst} (H : Bo S) (hp : S.p ≤ 3) (g : Gd (moreS s [dayS s, hourS s, minuteS s, secondS s] S)) : Bo (moreS s [dayS s, hourS s, minuteS s, secondS s] S) ∧ (moreS s [dayS s, hourS s, minuteS s, secondS s] S).p ≤ 3 := by
  rw [moreS] at g ⊢
  split at g
  · rename_i h
    rw [if_pos h]
    exact (H.day (more_gd _ _ d_gd g)).more1 hp g
  · rename_i h
    rw [if_neg h]
    exact ⟨H, hp⟩
theorem Bo.more5 {s : ByteArray} {S : Mst} (H : Bo S) (hp : S.p ≤ 3) (hd : S.d = 1) (g : Gd (moreS s [monthS s, dayS s, hourS s, minuteS s, secondS s] S)) : Bo (moreS s [monthS s, dayS s, hourS s, minuteS s, secondS s] S) ∧ (moreS s [monthS s, dayS s, hourS s, minuteS s, secondS s] S).p ≤ 3 := by
  rw [moreS] at g ⊢
  split at g
  · rename_i h
    rw [if_pos h]
    exact (H.month hd (more_gd _ _ m_gd g)).more4 hp g
  · rename_i h
    rw [if_neg h]
    exact ⟨H, hp⟩
theorem rd_gd {s : ByteArray} {S : Mst} (h : rdO s S = none) : Gd S ∧ s.size ≤ S.a := by
  unfold rdO fmO at h
  split at h
  · simp at h
  · rename_i hn
    rw [Option.none_or] at h
    exact ⟨⟨by cases hb : S.b with | true => exact absurd (Or.inl hb) hn | false => rfl, h⟩, Nat.le_of_not_lt fun h => hn (Or.inr h)⟩
def rdS (vr : Int) (s : ByteArray) (a : Nat) : Mst := if vr = 5 then dateF s a else if vr = 21 then timeF s a else momF s a
def oR (vr : Int) (s : ByteArray) (a : Nat) : Option (Int × Int) := rdO s (rdS vr s a)
theorem bounds {vr : Int} {s : ByteArray} {a : Nat} (h : oR vr s a = none) : Bo (rdS vr s a) := by
  obtain ⟨g, _⟩ := rd_gd h
  unfold rdS at g ⊢
  split at g
  · rename_i h; rw [if_pos h]
    unfold dateF at g ⊢
    have g1 := day_gd g
    exact (((Bo.start a).year rfl (month_gd g1)).month rfl g1).day g
  · rename_i h; rw [if_neg h]
    split at g
    · rename_i h; rw [if_pos h]
      unfold timeF at g ⊢
      have g1 := frac_gd g
      obtain ⟨b, hp⟩ := ((Bo.start a).hour (more_gd _ _ h_gd g1)).more2 (by show 1 ≤ 3; omega) g1
      exact b.frac hp g
    · rename_i h; rw [if_neg h]
      unfold momF at g ⊢
      have g1 := zone_gd g
      have g2 := frac_gd g1
      obtain ⟨b, hp⟩ := ((Bo.start a).year rfl (more_gd _ _ y_gd g2)).more5 (by show 0 ≤ 3; omega) rfl g2
      exact (b.frac hp g1).zone g
def fS (S : Mst) : Int := fI S.y S.m S.d S.h S.mi S.sc S.mc S.z
def lS (S : Mst) : Int := fS S + oT S.y S.m S.dp S.p - 1
def ow (vr : Int) (s : ByteArray) (a : Nat) : Int × Int := if oR vr s a = none then (fS (rdS vr s a), lS (rdS vr s a)) else (0, 0)
def isSp (vr : Int) : Prop := vr = 5 ∨ vr = 7 ∨ vr = 21
theorem read_vr (vr : Int) (hv : isSp vr) (s : ByteArray) (hs : s.size ≤ 140737488351232) (a : Nat) (ha : a ≤ s.size) (W : World) (hT : Mt W) : Calls Tryz.prog 120 #[.int .i64 vr, .string s, .int .i64 (a : Int)] W (PostR W (mo11 (rdM s (rdS vr s a))) (oR vr s a)) := by
  unfold oR rdS
  rcases hv with rfl | rfl | rfl
  · rw [if_pos rfl]; exact readDA_at W s hs a ha hT
  · rw [if_neg (by decide), if_neg (by decide)]; exact readDT_at W s hs a ha hT
  · rw [if_neg (by decide), if_pos rfl]; exact readTM_at W s hs a ha hT
theorem own_at (w : World) (vr : Int) (hv : isSp vr) (s : ByteArray) (hs : s.size ≤ 140737488351232) (a : Nat) (ha : a ≤ s.size) (hT : Mt w) (hO : Ot w) : Calls Tryz.prog 96 #[.int .i64 vr, .string s, .int .i64 (a : Int)] w (PostR w (sp (ow vr s a).1 (ow vr s a).2) (oR vr s a)) := by
  have c := read_vr vr hv s hs a ha
  unfold ow
  by_cases h : oR vr s a = none
  · have b := bounds h
    rw [if_pos h, h]
    have hM : rdM s (rdS vr s a) = rdS vr s a := if_pos h
    rw [hM, h] at c
    exact own96 w vr s a _ _ _ _ _ _ _ _ _ _ _ hT hO ⟨b.y1, b.y9, b.m1, b.m12, b.d1, b.dm⟩ b.p1 b.p3 b.h b.mi b.sc b.mc b.p9 b.z1 b.z2 (fun W hM => c W hM)
  · rw [if_neg h]
    have hM : rdM s (rdS vr s a) = zeroS := if_neg h
    rw [hM] at c
    obtain ⟨x, hx⟩ := Option.ne_none_iff_exists'.1 h
    rw [hx] at c ⊢
    exact own96_no w vr s a x hT (fun W hM => c W hM)
theorem own_any (w : World) (vr : Int) (hv : isSp vr) (s : ByteArray) (hs : s.size ≤ 140737488351232) (hT : Mt w) (hO : Ot w) : Calls Tryz.prog 61 #[.int .i64 vr, .string s] w (PostR w (sp (ow vr s 0).1 (ow vr s 0).2) (oR vr s 0)) :=
  own61_any w vr s _ _ _ hT hO (fun W h1 h2 => own_at W vr hv s hs 0 (Nat.zero_le _) h1 h2)
end Go.Proofs.YtehgeninocbpeaaGreatDoor.Tm
