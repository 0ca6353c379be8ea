import Derived.Test.YtfhapcnnalagjaaDoorOh
/-
  DERIVED. The law of orders.
-/
namespace Go.Proofs.YtfhapcnnalagjaaDoor
open Go Go.Proofs Go.RowKit

def oD (a b : ByteArray) : Int := ltr (dF a) (dF b) (oP a) (oP b)
def oT (a b : ByteArray) : Int := ltr (tF a) (tF b) (rdO a (timeS a)) (rdO b (timeS b))

set_option maxRecDepth 100000 in
set_option maxHeartbeats 1000000 in
theorem order4_any (w : World) (a b c d : ByteArray) (ha : a.size ≤ 140737488351232) (hb : b.size ≤ 140737488351232) (hc : c.size ≤ 140737488351232) (hd : d.size ≤ 140737488351232) (hT : Mt w) (hO : Ot w) :
    Calls Tryd.prog 4 #[.string a, .string b, .string c, .string d] w fun e w' => e = .returned (.int .i64 (orI (oD a c) (oT b d))) ∧ Below w.heap.size w w' := by
  have c1 := firstDA w a ha hT hO
  have C2 : Hid _ := fun W hT hO => firstDA W c hc hT hO
  have C3 : Hid _ := fun W hT hO => firstTM W b hb hT hO
  have C4 : Hid _ := fun W hT hO => firstTM W d hd hT hO
  have E1 : Hid (cm (ftk (dF a) (oP a)) (ftk (dF c) (oP c)) = oD a c) := cm_ltr _ _ (dF_lt a) (dF_lt c)
  have E2 : Hid (cm (ftk (tF b) (rdO b (timeS b))) (ftk (tF d) (rdO d (timeS d))) = oT b d) := cm_ltr _ _ (tF_lt b) (tF_lt d)
  generalize ftk (dF a) (oP a) = A at *
  generalize ftk (dF c) (oP c) = C at *
  generalize ftk (tF b) (rdO b (timeS b)) = B at *
  generalize ftk (tF d) (rdO d (timeS d)) = D at *
  obtain ⟨q, hq⟩ : ∃ q, w.heap.size = q := ⟨_, rfl⟩
  have HT : Hid (Mt w) := hT
  have HO : Hid (Ot w) := hO
  clear hT hO ha hb hc hd
  have k1 := fun W => cmp_any W A C
  have k2 := fun W => cmp_any W B D
  rw [E1.out] at k1
  rw [E2.out] at k2
  generalize oD a c = X at *
  generalize oT b d = Y at *
  have H1 : Hid _ := k1
  have H2 : Hid _ := k2
  clear k1 k2 E1 E2
  go_enter Tryd.func4, Tryd.ntmps4
  go_wp2_with (go_at_call 8; refine Stop.mk ?_)
  refine Stop.out (c1.mono ?_)
  rintro e W1 ⟨rfl, hb1⟩
  have T1 : Hid (Mt W1) := HT.out.on hb1
  have O1 : Hid (Ot W1) := HO.out.on hb1
  have B1 : Hid (Below q w W1) := hq ▸ hb1
  clear hb1 HT HO c1
  go_wp2_with (go_at_call 8; refine Stop.mk ?_)
  refine Stop.out ((C2.out _ T1.out O1.out).mono ?_)
  rintro e W2 ⟨rfl, hb2⟩
  have T2 : Hid (Mt W2) := T1.out.on hb2
  have O2 : Hid (Ot W2) := O1.out.on hb2
  have B2 : Hid (Below q w W2) := B1.out.trans (hb2.mono (by have := B1.out.size; omega))
  clear hb2 C2 T1 O1 B1
  go_wp2_with (first | (go_at_call 8; refine Stop.mk ?_) | (go_at_call 7; refine (H1.out _).mono ?_; rintro e w' ⟨rfl, rfl⟩))
  refine Stop.out ((C3.out _ T2.out O2.out).mono ?_)
  rintro e W3 ⟨rfl, hb3⟩
  have T3 : Hid (Mt W3) := T2.out.on hb3
  have O3 : Hid (Ot W3) := O2.out.on hb3
  have B3 : Hid (Below q w W3) := B2.out.trans (hb3.mono (by have := B2.out.size; omega))
  clear hb3 C3 T2 O2 B2
  go_wp2_with (go_at_call 8; refine Stop.mk ?_)
  refine Stop.out ((C4.out _ T3.out O3.out).mono ?_)
  rintro e W4 ⟨rfl, hb4⟩
  have B4 : Hid (Below q w W4) := B3.out.trans (hb4.mono (by have := B3.out.size; omega))
  clear hb4 C4 T3 O3 B3
  go_wp2_with (first | (go_at_call 6; refine Stop.mk ?_) | (go_at_call 7; refine (H2.out _).mono ?_; rintro e w' ⟨rfl, rfl⟩))
  refine Stop.out ((or_any _ _ X Y (by simp) (by simp)).mono ?_)
  rintro e W5 ⟨rfl, hb5⟩
  have B5 : Hid (Below q w W5) := (B4.out.alloc (by have := B4.out.size; omega) _).trans (hb5.mono (by have := B4.out.size; simp; omega))
  clear hb5 B4 H1 H2
  go_wp2
  go_ret
  exact ⟨rfl, hq ▸ B5.out⟩

set_option maxRecDepth 100000 in
set_option maxHeartbeats 1000000 in
theorem order5_any (w : World) (a b c d : ByteArray) (ha : a.size ≤ 140737488351232) (hb : b.size ≤ 140737488351232) (hc : c.size ≤ 140737488351232) (hd : d.size ≤ 140737488351232) :
    Calls Tryd.prog 5 #[.string a, .string b, .string c, .string d] w fun e w' => e = .returned (.int .i64 (orI (oD a c) (oT b d))) ∧ Below w.heap.size w w' := by
  obtain ⟨L1, c1⟩ := ownDA a ha
  obtain ⟨L2, c2⟩ := ownDA c hc
  obtain ⟨L3, c3⟩ := ownTM b hb
  obtain ⟨L4, c4⟩ := ownTM d hd
  have k1 : ∀ w, Calls Tryd.prog 9 #[.int .i64 5, .string a, .string c] w fun e w' => e = .returned (.int .i64 (oD a c)) ∧ Below w.heap.size w w' := fun w => later_any w 5 a c _ _ _ _ _ _ c1 c2
  have k2 : ∀ w, Calls Tryd.prog 9 #[.int .i64 21, .string b, .string d] w fun e w' => e = .returned (.int .i64 (oT b d)) ∧ Below w.heap.size w w' := fun w => later_any w 21 b d _ _ _ _ _ _ c3 c4
  clear c1 c2 c3 c4 ha hb hc hd
  generalize oD a c = X at *
  generalize oT b d = Y at *
  unfold orI
  have H2 : Hid _ := k2
  clear k2
  by_cases h : X = 0
  · rw [if_pos h]
    have hX : (X != 0) = false := by simpa using h
    go_enter Tryd.func5, Tryd.ntmps5
    go_wp2_with (go_at_call 9; refine Stop.mk ?_)
    refine Stop.out ((k1 _).mono ?_)
    rintro e W1 ⟨rfl, hb1⟩
    have B1 : Hid _ := hb1
    clear hb1 k1
    go_wp2_with (go_at_call 9; refine Stop.mk ?_)
    refine Stop.out ((H2.out _).mono ?_)
    rintro e W2 ⟨rfl, hb2⟩
    have B2 : Hid (Below w.heap.size w W2) := B1.out.trans (hb2.mono B1.out.size)
    clear hb2 B1 H2
    go_wp2
    go_ret
    exact ⟨rfl, B2.out⟩
  · rw [if_neg h]
    have hX : (X != 0) = true := by simpa using h
    go_enter Tryd.func5, Tryd.ntmps5
    go_wp2_with (go_at_call 9; refine Stop.mk ?_)
    refine Stop.out ((k1 _).mono ?_)
    rintro e W1 ⟨rfl, hb1⟩
    have B1 : Hid _ := hb1
    clear hb1 k1
    go_wp2
    go_ret
    exact ⟨rfl, B1.out⟩

set_option maxRecDepth 100000 in
theorem orders_any (w : World) (a b c d : ByteArray) (ha : a.size ≤ 140737488351232) (hb : b.size ≤ 140737488351232) (hc : c.size ≤ 140737488351232) (hd : d.size ≤ 140737488351232) (hT : Mt w) (hO : Ot w) :
    Calls Tryd.prog 3 #[.string a, .string b, .string c, .string d] w fun e w' => e = .returned (.bool true) ∧ Below w.heap.size w w' := by
  have k1 := order4_any w a b c d ha hb hc hd hT hO
  have H2 : Hid _ := fun W => order5_any W a b c d ha hb hc hd
  generalize orI (oD a c) (oT b d) = X at *
  clear hT hO ha hb hc hd
  have hX : (X == X) = true := by simp
  go_enter Tryd.func3, Tryd.ntmps3
  go_wp2_with (go_at_call 4; refine Stop.mk ?_)
  refine Stop.out (k1.mono ?_)
  rintro e W1 ⟨rfl, hb1⟩
  have B1 : Hid _ := hb1
  clear hb1 k1
  go_wp2_with (go_at_call 5; refine Stop.mk ?_)
  refine Stop.out ((H2.out _).mono ?_)
  rintro e W2 ⟨rfl, hb2⟩
  have B2 : Hid (Below w.heap.size w W2) := B1.out.trans (hb2.mono B1.out.size)
  clear hb2 B1 H2
  go_wp2
  go_ret
  exact ⟨rfl, B2.out⟩

end Go.Proofs.YtfhapcnnalagjaaDoor
