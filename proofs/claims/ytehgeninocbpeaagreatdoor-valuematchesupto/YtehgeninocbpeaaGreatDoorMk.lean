import Derived.Test.YtehgeninocbpeaaGreatDoorMi
namespace Go.Proofs.YtehgeninocbpeaaGreatDoor.Tm
open Go Go.Proofs Go.RowKit
structure Kst (w wx : World) (R : List (Nat × TypeId × Nat × (Nat → Value))) (P Q : List (Value × Option (Int × Int))) : Prop where
  r : ∀ x ∈ R, wx.rowIs x.1 x.2.1 x.2.2.1 x.2.2.2
  p : ∀ x ∈ P, PErr wx x.1 x.2
  q : ∀ x ∈ Q, RErr wx x.1 x.2
  b : Below w.heap.size w wx
theorem Kst.on {w wx wy : World} {R : List (Nat × TypeId × Nat × (Nat → Value))} {P Q : List (Value × Option (Int × Int))} (h : Kst w wx R P Q) (hb : Below wx.heap.size wx wy) : Kst w wy R P Q :=
  ⟨fun x hx => (h.r x hx).of_block (hb.block _ (h.r x hx).lt), fun x hx => (h.p x hx).next hb, fun x hx => (h.q x hx).next hb, h.b.trans (hb.mono h.b.size)⟩
theorem Kst.addP {w wx : World} {R : List (Nat × TypeId × Nat × (Nat → Value))} {P Q : List (Value × Option (Int × Int))} {v : Value} {o : Option (Int × Int)} (h : Kst w wx R P Q) (hv : PErr wx v o) : Kst w wx R ((v, o) :: P) Q :=
  ⟨h.r, fun x hx => by rcases List.mem_cons.1 hx with rfl | hx; exact hv; exact h.p x hx, h.q, h.b⟩
theorem Kst.addQ {w wx : World} {R : List (Nat × TypeId × Nat × (Nat → Value))} {P Q : List (Value × Option (Int × Int))} {v : Value} {o : Option (Int × Int)} (h : Kst w wx R P Q) (hv : RErr wx v o) : Kst w wx R P ((v, o) :: Q) :=
  ⟨h.r, h.p, fun x hx => by rcases List.mem_cons.1 hx with rfl | hx; exact hv; exact h.q x hx, h.b⟩
def fK (a b : Value) : Nat → Value := fun k => if k = 0 then a else b
theorem Kst.span {w wx : World} {R : List (Nat × TypeId × Nat × (Nat → Value))} {P Q : List (Value × Option (Int × Int))} (h : Kst w wx R P Q) (a b : Value) : Kst w (wx.alloc (.cells #[a, b] 66)) ((wx.heap.size, 66, 2, fK a b) :: R) P Q := by
  have k := h.on ((Below.refl _ wx).alloc (Nat.le_refl _) (.cells #[a, b] 66))
  refine ⟨fun x hx => ?_, k.p, k.q, k.b⟩
  rcases List.mem_cons.1 hx with rfl | hx
  · exact World.rowIs_alloc wx _ 66 _ (fun i hi => by
      rcases (by simp at hi; omega : i = 0 ∨ i = 1) with rfl | rfl <;> rfl)
  · exact k.r x hx
theorem Kst.fault {w wx : World} {R : List (Nat × TypeId × Nat × (Nat → Value))} {P Q : List (Value × Option (Int × Int))} (h : Kst w wx R P Q) (a b : Value) : Kst w (wx.alloc (.cells #[a, b] 35)) ((wx.heap.size, 35, 2, fK a b) :: R) P Q := by
  have k := h.on ((Below.refl _ wx).alloc (Nat.le_refl _) (.cells #[a, b] 35))
  refine ⟨fun x hx => ?_, k.p, k.q, k.b⟩
  rcases List.mem_cons.1 hx with rfl | hx
  · exact World.rowIs_alloc wx _ 35 _ (fun i hi => by
      rcases (by simp at hi; omega : i = 0 ∨ i = 1) with rfl | rfl <;> rfl)
  · exact k.r x hx
theorem Kst.two {w wx : World} {R : List (Nat × TypeId × Nat × (Nat → Value))} {P Q : List (Value × Option (Int × Int))} {q : Nat} {t : TypeId} {a b : Value} (h : Kst w wx R P Q) (hx : (q, t, 2, fK a b) ∈ R) : wx.cell? ⟨q, 0, none⟩ = some a ∧ wx.cell? ⟨q, 1, none⟩ = some b :=
  ⟨(h.r _ hx).cell (i := 0) (by simp), (h.r _ hx).cell (i := 1) (by simp)⟩
theorem Kst.start (w : World) : Kst w w [] [] [] := ⟨(fun _ h => by cases h), (fun _ h => by cases h), (fun _ h => by cases h), Below.refl _ _⟩
set_option maxRecDepth 100000 in
set_option maxHeartbeats 4000000 in
theorem piece_5 (w : World) (key u : ByteArray) (hk : key.size ≤ 2097152) (hu : u.size ≤ 2097152) : Calls Tryz.prog 30 #[.int .i64 5, .string key, .string u] w (BoolP w (spM 5 (ask 5 key).1.1 (ask 5 key).1.2 u)) := by
  have cA := fun W => asked7_5 W key (by omega)
  have cO := fun W => own5_any W 5 (by unfold isSp; omega) u (by omega)
  unfold spM
  unfold sp at cA cO
  generalize (ask 5 key).1.1 = F at *
  generalize (ask 5 key).1.2 = L at *
  generalize (ask 5 key).2 = o1 at *
  generalize (ow 5 u 0).1 = X at *
  generalize (ow 5 u 0).2 = Y at *
  generalize oR 5 u 0 = o at *
  obtain ⟨Z, hZ⟩ : ∃ Z, (decide (o = none) && (decide (F ≤ X) && decide (X ≤ L))) = Z := ⟨_, rfl⟩
  have HZ : Hid ((decide (o = none) && (decide (F ≤ X) && decide (X ≤ L))) = Z) := hZ
  rw [hZ]
  clear hZ
  go_enter Tryz.func30, Tryz.ntmps30
  go_wp2_with (go_at_call 32; refine Stop.mk ?_)
  refine Stop.out ((cA w).mono ?_)
  rintro e W1 ⟨v1, rfl, hv1, hb1⟩
  have K1 : Hid _ := (Kst.start w).on hb1
  obtain ⟨p1, l1, k1, d1, rfl⟩ := RErr.shape hv1
  clear cA hv1 hb1
  go_upto_region 6 with fail
  obtain ⟨B1, hB1⟩ : ∃ B1, W1.heap.size = B1 := ⟨_, rfl⟩
  obtain ⟨Wa, hWa⟩ : ∃ Wa, (W1.alloc (.cells #[.int .i64 F, .int .i64 L] 66)).alloc (.cells #[.slice p1 l1 k1, .int .i64 d1] 35) = Wa := ⟨_, rfl⟩
  have hz : (W1.alloc (.cells #[.int .i64 F, .int .i64 L] 66)).heap.size = B1 + 1 := by simp [hB1]
  have Ka := (K1.out.span (.int .i64 F) (.int .i64 L)).fault (.slice p1 l1 k1) (.int .i64 d1)
  rw [hWa, hz, hB1] at Ka
  rw [hWa, hB1]
  have Ka' : Hid _ := Ka
  clear Ka K1 hWa hB1 hz
  go_wp2_with (go_at_call 50; refine Stop.mk ?_)
  refine Stop.out ((cO Wa).mono ?_)
  rintro e W2 ⟨v2, rfl, hv2, hb2⟩
  have K2 : Hid _ := (Ka'.out.on hb2).addQ hv2
  have HS : Hid (RErr W2 v2 o) := hv2
  obtain ⟨p2, l2, k2, d2, rfl⟩ := RErr.shape hv2
  clear cO hv2 hb2 Ka'
  go_upto_region 7 with fail
  obtain ⟨B2, hB2⟩ : ∃ B2, W2.heap.size = B2 := ⟨_, rfl⟩
  obtain ⟨Wb, hWb⟩ : ∃ Wb, (W2.alloc (.cells #[.int .i64 X, .int .i64 Y] 66)).alloc (.cells #[.slice p2 l2 k2, .int .i64 d2] 35) = Wb := ⟨_, rfl⟩
  have hz : (W2.alloc (.cells #[.int .i64 X, .int .i64 Y] 66)).heap.size = B2 + 1 := by simp [hB2]
  have Kb := (K2.out.span (.int .i64 X) (.int .i64 Y)).fault (.slice p2 l2 k2) (.int .i64 d2)
  rw [hWb, hz, hB2] at Kb
  rw [hWb, hB2]
  have Kb' : Hid _ := Kb
  obtain ⟨g0, g1⟩ := Kb.two (q := B2 + 1) (t := 35) (a := .slice p2 l2 k2) (b := .int .i64 d2) (by simp)
  clear Kb K2 hWb hB2 hz
  cases o with
  | none =>
    have hs := HS.out
    simp only [RErr, Value.agg.injEq, Array.mk.injEq, List.cons.injEq, Value.slice.injEq, Value.int.injEq, and_true, true_and] at hs
    obtain ⟨⟨rfl, rfl, rfl⟩, rfl⟩ := hs
    have cY := fun W => any_none W
    go_wp2_with (go_at_call 28; refine Stop.mk ?_)
    refine Stop.out ((cY _).mono ?_)
    rintro e W3 ⟨rfl, hb3⟩
    have K3 := Kb'.out.on hb3
    obtain ⟨a0, a1⟩ := K3.two (q := B1) (t := 66) (a := .int .i64 F) (b := .int .i64 L) (by simp)
    obtain ⟨c0, c1⟩ := K3.two (q := B2) (t := 66) (a := .int .i64 X) (b := .int .i64 Y) (by simp)
    have HB3 : Hid _ := K3.b
    clear hb3 Kb' cY g0 g1 K3 HS
    by_cases hF : F ≤ X
    · obtain rfl : Z = decide (X ≤ L) := by rw [← HZ.out, decide_eq_true hF]; rfl
      go_wp2
      go_ret
      exact ⟨rfl, HB3.out⟩
    · obtain rfl : Z = false := by rw [← HZ.out, decide_eq_false hF]; rfl
      go_wp2
      go_ret
      exact ⟨rfl, HB3.out⟩
  | some x =>
    obtain ⟨g, k, he, _⟩ := HS.out
    simp only [Value.agg.injEq, Array.mk.injEq, List.cons.injEq, Value.slice.injEq, Value.int.injEq, and_true, true_and] at he
    obtain ⟨⟨rfl, rfl, rfl⟩, rfl⟩ := he
    have cY := fun W => any_some W g k2 x.2
    go_wp2_with (go_at_call 28; refine Stop.mk ?_)
    refine Stop.out ((cY _).mono ?_)
    rintro e W3 ⟨rfl, hb3⟩
    have HB3 : Hid _ := (Kb'.out.on hb3).b
    obtain rfl : Z = false := by rw [← HZ.out]; rfl
    clear hb3 Kb' cY g0 g1 HS
    go_wp2
    go_ret
    exact ⟨rfl, HB3.out⟩
set_option maxRecDepth 100000 in
set_option maxHeartbeats 4000000 in
theorem piece_7 (w : World) (key u : ByteArray) (hk : key.size ≤ 2097152) (hu : u.size ≤ 2097152) : Calls Tryz.prog 30 #[.int .i64 7, .string key, .string u] w (BoolP w (spM 7 (ask 7 key).1.1 (ask 7 key).1.2 u)) := by
  have cA := fun W => asked7_7 W key (by omega)
  have cO := fun W => own5_any W 7 (by unfold isSp; omega) u (by omega)
  unfold spM
  unfold sp at cA cO
  generalize (ask 7 key).1.1 = F at *
  generalize (ask 7 key).1.2 = L at *
  generalize (ask 7 key).2 = o1 at *
  generalize (ow 7 u 0).1 = X at *
  generalize (ow 7 u 0).2 = Y at *
  generalize oR 7 u 0 = o at *
  obtain ⟨Z, hZ⟩ : ∃ Z, (decide (o = none) && (decide (F ≤ X) && decide (X ≤ L))) = Z := ⟨_, rfl⟩
  have HZ : Hid ((decide (o = none) && (decide (F ≤ X) && decide (X ≤ L))) = Z) := hZ
  rw [hZ]
  clear hZ
  go_enter Tryz.func30, Tryz.ntmps30
  go_wp2_with (go_at_call 32; refine Stop.mk ?_)
  refine Stop.out ((cA w).mono ?_)
  rintro e W1 ⟨v1, rfl, hv1, hb1⟩
  have K1 : Hid _ := (Kst.start w).on hb1
  obtain ⟨p1, l1, k1, d1, rfl⟩ := RErr.shape hv1
  clear cA hv1 hb1
  go_upto_region 6 with fail
  obtain ⟨B1, hB1⟩ : ∃ B1, W1.heap.size = B1 := ⟨_, rfl⟩
  obtain ⟨Wa, hWa⟩ : ∃ Wa, (W1.alloc (.cells #[.int .i64 F, .int .i64 L] 66)).alloc (.cells #[.slice p1 l1 k1, .int .i64 d1] 35) = Wa := ⟨_, rfl⟩
  have hz : (W1.alloc (.cells #[.int .i64 F, .int .i64 L] 66)).heap.size = B1 + 1 := by simp [hB1]
  have Ka := (K1.out.span (.int .i64 F) (.int .i64 L)).fault (.slice p1 l1 k1) (.int .i64 d1)
  rw [hWa, hz, hB1] at Ka
  rw [hWa, hB1]
  have Ka' : Hid _ := Ka
  clear Ka K1 hWa hB1 hz
  go_wp2_with (go_at_call 50; refine Stop.mk ?_)
  refine Stop.out ((cO Wa).mono ?_)
  rintro e W2 ⟨v2, rfl, hv2, hb2⟩
  have K2 : Hid _ := (Ka'.out.on hb2).addQ hv2
  have HS : Hid (RErr W2 v2 o) := hv2
  obtain ⟨p2, l2, k2, d2, rfl⟩ := RErr.shape hv2
  clear cO hv2 hb2 Ka'
  go_upto_region 7 with fail
  obtain ⟨B2, hB2⟩ : ∃ B2, W2.heap.size = B2 := ⟨_, rfl⟩
  obtain ⟨Wb, hWb⟩ : ∃ Wb, (W2.alloc (.cells #[.int .i64 X, .int .i64 Y] 66)).alloc (.cells #[.slice p2 l2 k2, .int .i64 d2] 35) = Wb := ⟨_, rfl⟩
  have hz : (W2.alloc (.cells #[.int .i64 X, .int .i64 Y] 66)).heap.size = B2 + 1 := by simp [hB2]
  have Kb := (K2.out.span (.int .i64 X) (.int .i64 Y)).fault (.slice p2 l2 k2) (.int .i64 d2)
  rw [hWb, hz, hB2] at Kb
  rw [hWb, hB2]
  have Kb' : Hid _ := Kb
  obtain ⟨g0, g1⟩ := Kb.two (q := B2 + 1) (t := 35) (a := .slice p2 l2 k2) (b := .int .i64 d2) (by simp)
  clear Kb K2 hWb hB2 hz
  cases o with
  | none =>
    have hs := HS.out
    simp only [RErr, Value.agg.injEq, Array.mk.injEq, List.cons.injEq, Value.slice.injEq, Value.int.injEq, and_true, true_and] at hs
    obtain ⟨⟨rfl, rfl, rfl⟩, rfl⟩ := hs
    have cY := fun W => any_none W
    go_wp2_with (go_at_call 28; refine Stop.mk ?_)
    refine Stop.out ((cY _).mono ?_)
    rintro e W3 ⟨rfl, hb3⟩
    have K3 := Kb'.out.on hb3
    obtain ⟨a0, a1⟩ := K3.two (q := B1) (t := 66) (a := .int .i64 F) (b := .int .i64 L) (by simp)
    obtain ⟨c0, c1⟩ := K3.two (q := B2) (t := 66) (a := .int .i64 X) (b := .int .i64 Y) (by simp)
    have HB3 : Hid _ := K3.b
    clear hb3 Kb' cY g0 g1 K3 HS
    by_cases hF : F ≤ X
    · obtain rfl : Z = decide (X ≤ L) := by rw [← HZ.out, decide_eq_true hF]; rfl
      go_wp2
      go_ret
      exact ⟨rfl, HB3.out⟩
    · obtain rfl : Z = false := by rw [← HZ.out, decide_eq_false hF]; rfl
      go_wp2
      go_ret
      exact ⟨rfl, HB3.out⟩
  | some x =>
    obtain ⟨g, k, he, _⟩ := HS.out
    simp only [Value.agg.injEq, Array.mk.injEq, List.cons.injEq, Value.slice.injEq, Value.int.injEq, and_true, true_and] at he
    obtain ⟨⟨rfl, rfl, rfl⟩, rfl⟩ := he
    have cY := fun W => any_some W g k2 x.2
    go_wp2_with (go_at_call 28; refine Stop.mk ?_)
    refine Stop.out ((cY _).mono ?_)
    rintro e W3 ⟨rfl, hb3⟩
    have HB3 : Hid _ := (Kb'.out.on hb3).b
    obtain rfl : Z = false := by rw [← HZ.out]; rfl
    clear hb3 Kb' cY g0 g1 HS
    go_wp2
    go_ret
    exact ⟨rfl, HB3.out⟩
set_option maxRecDepth 100000 in
set_option maxHeartbeats 4000000 in
theorem piece_21 (w : World) (key u : ByteArray) (hk : key.size ≤ 2097152) (hu : u.size ≤ 2097152) : Calls Tryz.prog 30 #[.int .i64 21, .string key, .string u] w (BoolP w (spM 21 (ask 21 key).1.1 (ask 21 key).1.2 u)) := by
  have cA := fun W => asked7_21 W key (by omega)
  have cO := fun W => own5_any W 21 (by unfold isSp; omega) u (by omega)
  unfold spM
  unfold sp at cA cO
  generalize (ask 21 key).1.1 = F at *
  generalize (ask 21 key).1.2 = L at *
  generalize (ask 21 key).2 = o1 at *
  generalize (ow 21 u 0).1 = X at *
  generalize (ow 21 u 0).2 = Y at *
  generalize oR 21 u 0 = o at *
  obtain ⟨Z, hZ⟩ : ∃ Z, (decide (o = none) && (decide (F ≤ X) && decide (X ≤ L))) = Z := ⟨_, rfl⟩
  have HZ : Hid ((decide (o = none) && (decide (F ≤ X) && decide (X ≤ L))) = Z) := hZ
  rw [hZ]
  clear hZ
  go_enter Tryz.func30, Tryz.ntmps30
  go_wp2_with (go_at_call 32; refine Stop.mk ?_)
  refine Stop.out ((cA w).mono ?_)
  rintro e W1 ⟨v1, rfl, hv1, hb1⟩
  have K1 : Hid _ := (Kst.start w).on hb1
  obtain ⟨p1, l1, k1, d1, rfl⟩ := RErr.shape hv1
  clear cA hv1 hb1
  go_upto_region 6 with fail
  obtain ⟨B1, hB1⟩ : ∃ B1, W1.heap.size = B1 := ⟨_, rfl⟩
  obtain ⟨Wa, hWa⟩ : ∃ Wa, (W1.alloc (.cells #[.int .i64 F, .int .i64 L] 66)).alloc (.cells #[.slice p1 l1 k1, .int .i64 d1] 35) = Wa := ⟨_, rfl⟩
  have hz : (W1.alloc (.cells #[.int .i64 F, .int .i64 L] 66)).heap.size = B1 + 1 := by simp [hB1]
  have Ka := (K1.out.span (.int .i64 F) (.int .i64 L)).fault (.slice p1 l1 k1) (.int .i64 d1)
  rw [hWa, hz, hB1] at Ka
  rw [hWa, hB1]
  have Ka' : Hid _ := Ka
  clear Ka K1 hWa hB1 hz
  go_wp2_with (go_at_call 50; refine Stop.mk ?_)
  refine Stop.out ((cO Wa).mono ?_)
  rintro e W2 ⟨v2, rfl, hv2, hb2⟩
  have K2 : Hid _ := (Ka'.out.on hb2).addQ hv2
  have HS : Hid (RErr W2 v2 o) := hv2
  obtain ⟨p2, l2, k2, d2, rfl⟩ := RErr.shape hv2
  clear cO hv2 hb2 Ka'
  go_upto_region 7 with fail
  obtain ⟨B2, hB2⟩ : ∃ B2, W2.heap.size = B2 := ⟨_, rfl⟩
  obtain ⟨Wb, hWb⟩ : ∃ Wb, (W2.alloc (.cells #[.int .i64 X, .int .i64 Y] 66)).alloc (.cells #[.slice p2 l2 k2, .int .i64 d2] 35) = Wb := ⟨_, rfl⟩
  have hz : (W2.alloc (.cells #[.int .i64 X, .int .i64 Y] 66)).heap.size = B2 + 1 := by simp [hB2]
  have Kb := (K2.out.span (.int .i64 X) (.int .i64 Y)).fault (.slice p2 l2 k2) (.int .i64 d2)
  rw [hWb, hz, hB2] at Kb
  rw [hWb, hB2]
  have Kb' : Hid _ := Kb
  obtain ⟨g0, g1⟩ := Kb.two (q := B2 + 1) (t := 35) (a := .slice p2 l2 k2) (b := .int .i64 d2) (by simp)
  clear Kb K2 hWb hB2 hz
  cases o with
  | none =>
    have hs := HS.out
    simp only [RErr, Value.agg.injEq, Array.mk.injEq, List.cons.injEq, Value.slice.injEq, Value.int.injEq, and_true, true_and] at hs
    obtain ⟨⟨rfl, rfl, rfl⟩, rfl⟩ := hs
    have cY := fun W => any_none W
    go_wp2_with (go_at_call 28; refine Stop.mk ?_)
    refine Stop.out ((cY _).mono ?_)
    rintro e W3 ⟨rfl, hb3⟩
    have K3 := Kb'.out.on hb3
    obtain ⟨a0, a1⟩ := K3.two (q := B1) (t := 66) (a := .int .i64 F) (b := .int .i64 L) (by simp)
    obtain ⟨c0, c1⟩ := K3.two (q := B2) (t := 66) (a := .int .i64 X) (b := .int .i64 Y) (by simp)
    have HB3 : Hid _ := K3.b
    clear hb3 Kb' cY g0 g1 K3 HS
    by_cases hF : F ≤ X
    · obtain rfl : Z = decide (X ≤ L) := by rw [← HZ.out, decide_eq_true hF]; rfl
      go_wp2
      go_ret
      exact ⟨rfl, HB3.out⟩
    · obtain rfl : Z = false := by rw [← HZ.out, decide_eq_false hF]; rfl
      go_wp2
      go_ret
      exact ⟨rfl, HB3.out⟩
  | some x =>
    obtain ⟨g, k, he, _⟩ := HS.out
    simp only [Value.agg.injEq, Array.mk.injEq, List.cons.injEq, Value.slice.injEq, Value.int.injEq, and_true, true_and] at he
    obtain ⟨⟨rfl, rfl, rfl⟩, rfl⟩ := he
    have cY := fun W => any_some W g k2 x.2
    go_wp2_with (go_at_call 28; refine Stop.mk ?_)
    refine Stop.out ((cY _).mono ?_)
    rintro e W3 ⟨rfl, hb3⟩
    have HB3 : Hid _ := (Kb'.out.on hb3).b
    obtain rfl : Z = false := by rw [← HZ.out]; rfl
    clear hb3 Kb' cY g0 g1 HS
    go_wp2
    go_ret
    exact ⟨rfl, HB3.out⟩
theorem piece_15 (w : World) (key u : ByteArray) (hk : key.size ≤ 2097152) (hu : u.size ≤ 2097152) : Calls Tryz.prog 30 #[.int .i64 15, .string key, .string u] w (BoolP w (nmM key u)) := by
  have c := person_any w key u hk hu
  generalize nmM key u = Z at *
  go_enter Tryz.func30, Tryz.ntmps30
  go_wp2_with (go_at_call 51; refine Stop.mk ?_)
  refine Stop.out (c.mono ?_)
  rintro e W1 ⟨rfl, hb⟩
  go_wp2
  go_ret
  exact ⟨rfl, hb⟩
theorem piece_1 (w : World) (key u : ByteArray) (hk : key.size ≤ 2097152) (hu : u.size ≤ 2097152) : Calls Tryz.prog 30 #[.int .i64 1, .string key, .string u] w (BoolP w (fits key u)) := by
  have c := rglob_fits w key u hk hu
  generalize fits key u = Z at *
  go_enter Tryz.func30, Tryz.ntmps30
  go_wp2_with (go_at_call 52; refine Stop.mk ?_)
  refine Stop.out (c.mono ?_)
  rintro e W1 ⟨rfl, hb⟩
  go_wp2
  go_ret
  exact ⟨rfl, hb⟩
theorem piece_4 (w : World) (key u : ByteArray) (hk : key.size ≤ 2097152) (hu : u.size ≤ 2097152) : Calls Tryz.prog 30 #[.int .i64 4, .string key, .string u] w (BoolP w (fits key u)) := by
  have c := rglob_fits w key u hk hu
  generalize fits key u = Z at *
  go_enter Tryz.func30, Tryz.ntmps30
  go_wp2_with (go_at_call 52; refine Stop.mk ?_)
  refine Stop.out (c.mono ?_)
  rintro e W1 ⟨rfl, hb⟩
  go_wp2
  go_ret
  exact ⟨rfl, hb⟩
theorem piece_11 (w : World) (key u : ByteArray) (hk : key.size ≤ 2097152) (hu : u.size ≤ 2097152) : Calls Tryz.prog 30 #[.int .i64 11, .string key, .string u] w (BoolP w (fits key u)) := by
  have c := rglob_fits w key u hk hu
  generalize fits key u = Z at *
  go_enter Tryz.func30, Tryz.ntmps30
  go_wp2_with (go_at_call 52; refine Stop.mk ?_)
  refine Stop.out (c.mono ?_)
  rintro e W1 ⟨rfl, hb⟩
  go_wp2
  go_ret
  exact ⟨rfl, hb⟩
theorem piece_12 (w : World) (key u : ByteArray) (hk : key.size ≤ 2097152) (hu : u.size ≤ 2097152) : Calls Tryz.prog 30 #[.int .i64 12, .string key, .string u] w (BoolP w (fits key u)) := by
  have c := rglob_fits w key u hk hu
  generalize fits key u = Z at *
  go_enter Tryz.func30, Tryz.ntmps30
  go_wp2_with (go_at_call 52; refine Stop.mk ?_)
  refine Stop.out (c.mono ?_)
  rintro e W1 ⟨rfl, hb⟩
  go_wp2
  go_ret
  exact ⟨rfl, hb⟩
theorem piece_16 (w : World) (key u : ByteArray) (hk : key.size ≤ 2097152) (hu : u.size ≤ 2097152) : Calls Tryz.prog 30 #[.int .i64 16, .string key, .string u] w (BoolP w (fits key u)) := by
  have c := rglob_fits w key u hk hu
  generalize fits key u = Z at *
  go_enter Tryz.func30, Tryz.ntmps30
  go_wp2_with (go_at_call 52; refine Stop.mk ?_)
  refine Stop.out (c.mono ?_)
  rintro e W1 ⟨rfl, hb⟩
  go_wp2
  go_ret
  exact ⟨rfl, hb⟩
theorem piece_20 (w : World) (key u : ByteArray) (hk : key.size ≤ 2097152) (hu : u.size ≤ 2097152) : Calls Tryz.prog 30 #[.int .i64 20, .string key, .string u] w (BoolP w (fits key u)) := by
  have c := rglob_fits w key u hk hu
  generalize fits key u = Z at *
  go_enter Tryz.func30, Tryz.ntmps30
  go_wp2_with (go_at_call 52; refine Stop.mk ?_)
  refine Stop.out (c.mono ?_)
  rintro e W1 ⟨rfl, hb⟩
  go_wp2
  go_ret
  exact ⟨rfl, hb⟩
theorem piece_22 (w : World) (key u : ByteArray) (hk : key.size ≤ 2097152) (hu : u.size ≤ 2097152) : Calls Tryz.prog 30 #[.int .i64 22, .string key, .string u] w (BoolP w (fits key u)) := by
  have c := rglob_fits w key u hk hu
  generalize fits key u = Z at *
  go_enter Tryz.func30, Tryz.ntmps30
  go_wp2_with (go_at_call 52; refine Stop.mk ?_)
  refine Stop.out (c.mono ?_)
  rintro e W1 ⟨rfl, hb⟩
  go_wp2
  go_ret
  exact ⟨rfl, hb⟩
theorem piece_26 (w : World) (key u : ByteArray) (hk : key.size ≤ 2097152) (hu : u.size ≤ 2097152) : Calls Tryz.prog 30 #[.int .i64 26, .string key, .string u] w (BoolP w (fits key u)) := by
  have c := rglob_fits w key u hk hu
  generalize fits key u = Z at *
  go_enter Tryz.func30, Tryz.ntmps30
  go_wp2_with (go_at_call 52; refine Stop.mk ?_)
  refine Stop.out (c.mono ?_)
  rintro e W1 ⟨rfl, hb⟩
  go_wp2
  go_ret
  exact ⟨rfl, hb⟩
theorem piece_28 (w : World) (key u : ByteArray) (hk : key.size ≤ 2097152) (hu : u.size ≤ 2097152) : Calls Tryz.prog 30 #[.int .i64 28, .string key, .string u] w (BoolP w (fits key u)) := by
  have c := rglob_fits w key u hk hu
  generalize fits key u = Z at *
  go_enter Tryz.func30, Tryz.ntmps30
  go_wp2_with (go_at_call 52; refine Stop.mk ?_)
  refine Stop.out (c.mono ?_)
  rintro e W1 ⟨rfl, hb⟩
  go_wp2
  go_ret
  exact ⟨rfl, hb⟩
end Go.Proofs.YtehgeninocbpeaaGreatDoor.Tm

namespace Go.Proofs.YtehgeninocbpeaaGreatDoor.Tm
open Go Go.Proofs Go.RowKit
open Go.Proofs.NumLine (Nm Canon cmpN line)
theorem Kst.numb {w wx : World} {R : List (Nat × TypeId × Nat × (Nat → Value))} {P Q : List (Value × Option (Int × Int))} (h : Kst w wx R P Q) (a : Nm) : Kst w (wx.alloc (.cells #[.bool a.neg, .int .u64 (a.d : Int), .int .i64 a.e] 73)) ((wx.heap.size, 73, 3, fNm a) :: R) P Q := by
  have k := h.on ((Below.refl _ wx).alloc (Nat.le_refl _) (.cells #[.bool a.neg, .int .u64 (a.d : Int), .int .i64 a.e] 73))
  refine ⟨fun x hx => ?_, k.p, k.q, k.b⟩
  rcases List.mem_cons.1 hx with rfl | hx
  · exact World.rowIs_alloc wx _ 73 _ (row_lit _)
  · exact k.r x hx
theorem Kst.three {w wx : World} {R : List (Nat × TypeId × Nat × (Nat → Value))} {P Q : List (Value × Option (Int × Int))} {q : Nat} {a : Nm} (h : Kst w wx R P Q) (hx : (q, 73, 3, fNm a) ∈ R) : wx.cell? ⟨q, 0, none⟩ = some (.bool a.neg) ∧ wx.cell? ⟨q, 1, none⟩ = some (.int .u64 (a.d : Int)) ∧ wx.cell? ⟨q, 2, none⟩ = some (.int .i64 a.e) :=
  ⟨(h.r _ hx).cell (i := 0) (by simp), (h.r _ hx).cell (i := 1) (by simp), (h.r _ hx).cell (i := 2) (by simp)⟩
set_option maxRecDepth 100000 in
set_option maxHeartbeats 4000000 in
theorem piece_10 (w : World) (key u : ByteArray) : Calls Tryz.prog 30 #[.int .i64 10, .string key, .string u] w (BoolP w (whM (Nu.WR key).1 u)) := by
  have cA := fun W => rparse33 W key
  have cO := fun W => rparse33 W u
  unfold whM
  generalize (Nu.WR key).1 = A at *
  generalize (Nu.WR key).2 = o1 at *
  generalize (Nu.WR u).1 = X at *
  generalize (Nu.WR u).2 = o at *
  obtain ⟨Z, hZ⟩ : ∃ Z, (decide (o = none) && (X == A)) = Z := ⟨_, rfl⟩
  have HZ : Hid ((decide (o = none) && (X == A)) = Z) := hZ
  rw [hZ]
  clear hZ
  go_enter Tryz.func30, Tryz.ntmps30
  go_wp2_with (go_at_call 33; refine Stop.mk ?_)
  refine Stop.out ((cA w).mono ?_)
  rintro e W1 ⟨v1, rfl, hv1, hb1⟩
  have K1 : Hid _ := (Kst.start w).on hb1
  obtain ⟨p1, l1, k1, d1, rfl⟩ := RErr.shape hv1
  clear cA hv1 hb1
  go_upto_region 22 with fail
  obtain ⟨B1, hB1⟩ : ∃ B1, W1.heap.size = B1 := ⟨_, rfl⟩
  obtain ⟨Wa, hWa⟩ : ∃ Wa, W1.alloc (.cells #[.slice p1 l1 k1, .int .i64 d1] 35) = Wa := ⟨_, rfl⟩
  have Ka := K1.out.fault (.slice p1 l1 k1) (.int .i64 d1)
  rw [hWa, hB1] at Ka
  rw [hWa, hB1]
  have Ka' : Hid _ := Ka
  clear Ka K1 hWa hB1
  go_wp2_with (go_at_call 33; refine Stop.mk ?_)
  refine Stop.out ((cO Wa).mono ?_)
  rintro e W2 ⟨v2, rfl, hv2, hb2⟩
  have K2 : Hid _ := Ka'.out.on hb2
  have HS : Hid (RErr W2 v2 o) := hv2
  obtain ⟨p2, l2, k2, d2, rfl⟩ := RErr.shape hv2
  clear cO hv2 hb2 Ka'
  go_upto_region 23 with fail
  obtain ⟨B2, hB2⟩ : ∃ B2, W2.heap.size = B2 := ⟨_, rfl⟩
  obtain ⟨Wb, hWb⟩ : ∃ Wb, W2.alloc (.cells #[.slice p2 l2 k2, .int .i64 d2] 35) = Wb := ⟨_, rfl⟩
  have Kb := K2.out.fault (.slice p2 l2 k2) (.int .i64 d2)
  rw [hWb, hB2] at Kb
  rw [hWb, hB2]
  have Kb' : Hid _ := Kb
  obtain ⟨g0, g1⟩ := Kb.two (q := B2) (t := 35) (a := .slice p2 l2 k2) (b := .int .i64 d2) (by simp)
  clear Kb K2 hWb hB2
  cases o with
  | none =>
    have hs := HS.out
    simp only [RErr, Value.agg.injEq, Array.mk.injEq, List.cons.injEq, Value.slice.injEq, Value.int.injEq, and_true, true_and] at hs
    obtain ⟨⟨rfl, rfl, rfl⟩, rfl⟩ := hs
    have cY := fun W => any_none W
    obtain rfl : (A == X) = Z := by rw [← HZ.out, Bool.beq_comm]; rfl
    go_wp2_with (go_at_call 28; refine Stop.mk ?_)
    refine Stop.out ((cY _).mono ?_)
    rintro e W3 ⟨rfl, hb3⟩
    have HB3 : Hid _ := (Kb'.out.on hb3).b
    clear hb3 Kb' cY g0 g1 HS HZ
    go_wp2
    go_ret
    exact ⟨rfl, HB3.out⟩
  | some x =>
    obtain ⟨g, k, he, _⟩ := HS.out
    simp only [Value.agg.injEq, Array.mk.injEq, List.cons.injEq, Value.slice.injEq, Value.int.injEq, and_true, true_and] at he
    obtain ⟨⟨rfl, rfl, rfl⟩, rfl⟩ := he
    have cY := fun W => any_some W g k2 x.2
    obtain rfl : Z = false := by rw [← HZ.out]; rfl
    go_wp2_with (go_at_call 28; refine Stop.mk ?_)
    refine Stop.out ((cY _).mono ?_)
    rintro e W3 ⟨rfl, hb3⟩
    have HB3 : Hid _ := (Kb'.out.on hb3).b
    clear hb3 Kb' cY g0 g1 HS HZ
    go_wp2
    go_ret
    exact ⟨rfl, HB3.out⟩
theorem cmp_eqN {a b : Nm} (ha : NmOk a) (hb : NmOk b) : (cmpN a b == 0) = eqN b a := by
  rw [Bool.eq_iff_iff, eqN_iff, beq_iff_eq, nm_same ha hb]
  exact eq_comm
set_option maxRecDepth 100000 in
set_option maxHeartbeats 4000000 in
theorem piece_6 (w : World) (key u : ByteArray) (hP : Nu.Pow w) : Calls Tryz.prog 30 #[.int .i64 6, .string key, .string u] w (BoolP w (dcM (nmR key).1 u)) := by
  have cA := fun W => rparse34 W key
  have cO := fun W => rparse34 W u
  have ok1 := nmR_ok key
  have ok2 := nmR_ok u
  unfold dcM
  generalize (nmR key).1 = A at *
  generalize (nmR key).2 = o1 at *
  generalize (nmR u).1 = X at *
  generalize (nmR u).2 = o at *
  have cC := fun W h => Nu.rcompare_any W A X (Nat.lt_trans ok1.2.1 (by decide)) (Nat.lt_trans ok2.2.1 (by decide)) (by have := ok1.2.2.1; omega) (by have := ok1.2.2.2; omega) (by have := ok2.2.2.1; omega) (by have := ok2.2.2.2; omega) h
  have ce := cmp_eqN ok1 ok2
  have hcb := (line (a := A) (b := X) (c := A) (Nat.lt_trans ok1.2.1 (by decide)) (Nat.lt_trans ok2.2.1 (by decide)) (Nat.lt_trans ok1.2.1 (by decide))).2.2
  have hc1 := hcb.1
  have hc2 := hcb.2.1
  clear hcb
  generalize cmpN A X = R at *
  obtain ⟨Z, hZ⟩ : ∃ Z, (decide (o = none) && eqN X A) = Z := ⟨_, rfl⟩
  have HZ : Hid ((decide (o = none) && (R == 0)) = Z) := by show _ = _; rw [ce]; exact hZ
  rw [hZ]
  unfold Nu.nv at cA cO cC
  have HP : Hid (Nu.Pow w) := hP
  have HC : Hid _ := cC
  clear hZ ce hP ok1 ok2 cC
  go_enter Tryz.func30, Tryz.ntmps30
  go_wp2_with (go_at_call 34; refine Stop.mk ?_)
  refine Stop.out ((cA w).mono ?_)
  rintro e W1 ⟨v1, rfl, hv1, hb1⟩
  have K1 : Hid _ := (Kst.start w).on hb1
  obtain ⟨p1, l1, k1, d1, rfl⟩ := RErr.shape hv1
  clear cA hv1 hb1
  go_upto_region 26 with fail
  obtain ⟨B1, hB1⟩ : ∃ B1, W1.heap.size = B1 := ⟨_, rfl⟩
  obtain ⟨Wa, hWa⟩ : ∃ Wa, (W1.alloc (.cells #[.bool A.neg, .int .u64 (A.d : Int), .int .i64 A.e] 73)).alloc (.cells #[.slice p1 l1 k1, .int .i64 d1] 35) = Wa := ⟨_, rfl⟩
  have hz : (W1.alloc (.cells #[.bool A.neg, .int .u64 (A.d : Int), .int .i64 A.e] 73)).heap.size = B1 + 1 := by simp [hB1]
  have Ka := (K1.out.numb A).fault (.slice p1 l1 k1) (.int .i64 d1)
  rw [hWa, hz, hB1] at Ka
  rw [hWa, hB1]
  have Ka' : Hid _ := Ka
  clear Ka K1 hWa hB1 hz
  go_wp2_with (go_at_call 34; refine Stop.mk ?_)
  refine Stop.out ((cO Wa).mono ?_)
  rintro e W2 ⟨v2, rfl, hv2, hb2⟩
  have K2 : Hid _ := Ka'.out.on hb2
  have HS : Hid (RErr W2 v2 o) := hv2
  obtain ⟨p2, l2, k2, d2, rfl⟩ := RErr.shape hv2
  clear cO hv2 hb2 Ka'
  go_upto_region 27 with fail
  obtain ⟨B2, hB2⟩ : ∃ B2, W2.heap.size = B2 := ⟨_, rfl⟩
  obtain ⟨Wb, hWb⟩ : ∃ Wb, (W2.alloc (.cells #[.bool X.neg, .int .u64 (X.d : Int), .int .i64 X.e] 73)).alloc (.cells #[.slice p2 l2 k2, .int .i64 d2] 35) = Wb := ⟨_, rfl⟩
  have hz : (W2.alloc (.cells #[.bool X.neg, .int .u64 (X.d : Int), .int .i64 X.e] 73)).heap.size = B2 + 1 := by simp [hB2]
  have Kb := (K2.out.numb X).fault (.slice p2 l2 k2) (.int .i64 d2)
  rw [hWb, hz, hB2] at Kb
  rw [hWb, hB2]
  have Kb' : Hid _ := Kb
  obtain ⟨g0, g1⟩ := Kb.two (q := B2 + 1) (t := 35) (a := .slice p2 l2 k2) (b := .int .i64 d2) (by simp)
  clear Kb K2 hWb hB2 hz
  cases o with
  | none =>
    have hs := HS.out
    simp only [RErr, Value.agg.injEq, Array.mk.injEq, List.cons.injEq, Value.slice.injEq, Value.int.injEq, and_true, true_and] at hs
    obtain ⟨⟨rfl, rfl, rfl⟩, rfl⟩ := hs
    have cY := fun W => any_none W
    obtain rfl : (R == 0) = Z := by rw [← HZ.out]; rfl
    go_wp2_with (go_at_call 28; refine Stop.mk ?_)
    refine Stop.out ((cY _).mono ?_)
    rintro e W3 ⟨rfl, hb3⟩
    have K3 := Kb'.out.on hb3
    have K3' : Hid _ := K3
    obtain ⟨a0, a1, a2⟩ := K3.three (q := B1) (a := A) (by simp)
    obtain ⟨c0, c1, c2⟩ := K3.three (q := B2) (a := X) (by simp)
    have cc := HC.out W3 (HP.out.on K3.b)
    clear hb3 Kb' cY g0 g1 HS HZ K3 HC
    go_wp2_with (go_at_call 53; refine Stop.mk ?_)
    refine Stop.out (cc.mono ?_)
    rintro e W4 ⟨rfl, hb4⟩
    have HB4 : Hid _ := (K3'.out.on hb4).b
    clear hb4 cc K3' a0 a1 a2 c0 c1 c2
    go_wp2
    go_ret
    exact ⟨rfl, HB4.out⟩
  | some x =>
    obtain ⟨g, k, he, _⟩ := HS.out
    simp only [Value.agg.injEq, Array.mk.injEq, List.cons.injEq, Value.slice.injEq, Value.int.injEq, and_true, true_and] at he
    obtain ⟨⟨rfl, rfl, rfl⟩, rfl⟩ := he
    have cY := fun W => any_some W g k2 x.2
    obtain rfl : Z = false := by rw [← HZ.out]; rfl
    go_wp2_with (go_at_call 28; refine Stop.mk ?_)
    refine Stop.out ((cY _).mono ?_)
    rintro e W3 ⟨rfl, hb3⟩
    have HB3 : Hid _ := (Kb'.out.on hb3).b
    clear hb3 Kb' cY g0 g1 HS HZ HC
    go_wp2
    go_ret
    exact ⟨rfl, HB3.out⟩
set_option maxRecDepth 100000 in
set_option maxHeartbeats 2000000 in
theorem piece_else (w : World) (vr : Int) (hv : vr = 2 ∨ vr = 3 ∨ vr = 8 ∨ vr = 9 ∨ vr = 13 ∨ vr = 14 ∨ vr = 17 ∨ vr = 19 ∨ vr = 24 ∨ vr = 25 ∨ vr = 27) (key u : ByteArray) : Calls Tryz.prog 30 #[.int .i64 vr, .string key, .string u] w (BoolP w (eqB u key)) := by
  rw [eqB_comm, ← eqB_of]
  have e5 : (vr == 5) = false := beq_eq_false_iff_ne.2 (by omega)
  have e21 : (vr == 21) = false := beq_eq_false_iff_ne.2 (by omega)
  have e7 : (vr == 7) = false := beq_eq_false_iff_ne.2 (by omega)
  have e15 : (vr == 15) = false := beq_eq_false_iff_ne.2 (by omega)
  have e1 : (vr == 1) = false := beq_eq_false_iff_ne.2 (by omega)
  have e4 : (vr == 4) = false := beq_eq_false_iff_ne.2 (by omega)
  have e11 : (vr == 11) = false := beq_eq_false_iff_ne.2 (by omega)
  have e12 : (vr == 12) = false := beq_eq_false_iff_ne.2 (by omega)
  have e16 : (vr == 16) = false := beq_eq_false_iff_ne.2 (by omega)
  have e20 : (vr == 20) = false := beq_eq_false_iff_ne.2 (by omega)
  have e22 : (vr == 22) = false := beq_eq_false_iff_ne.2 (by omega)
  have e26 : (vr == 26) = false := beq_eq_false_iff_ne.2 (by omega)
  have e28 : (vr == 28) = false := beq_eq_false_iff_ne.2 (by omega)
  have e10 : (vr == 10) = false := beq_eq_false_iff_ne.2 (by omega)
  have e6 : (vr == 6) = false := beq_eq_false_iff_ne.2 (by omega)
  clear hv
  go_enter Tryz.func30, Tryz.ntmps30
  go_wp2
  go_ret
  exact ⟨rfl, Below.refl _ _⟩
noncomputable def pcM (vr : Int) (key u : ByteArray) : Bool :=
  if rB vr = 1 then spM vr (ask vr key).1.1 (ask vr key).1.2 u else if rB vr = 2 then nmM key u else if rB vr = 3 then fits key u else if rB vr = 5 then whM (Nu.WR key).1 u else if rB vr = 6 then dcM (nmR key).1 u else eqB u key
theorem rpiece_any (w : World) (vr : Int) (h0 : rB vr ≠ 0) (h4 : rB vr ≠ 4) (key u : ByteArray) (hk : key.size ≤ 2097152) (hu : u.size ≤ 2097152) (hP : Nu.Pow w) : Calls Tryz.prog 30 #[.int .i64 vr, .string key, .string u] w (BoolP w (pcM vr key u)) := by
  unfold pcM
  rcases kinds vr with ⟨h, _⟩ | ⟨_, _, _, h⟩
  · exact absurd h h0
  · rcases h with ⟨h, _, hs⟩ | ⟨h, _, rfl⟩ | ⟨h, _, hs⟩ | ⟨h, _, hs⟩ | ⟨h, _, _⟩ | ⟨h, _, rfl⟩ | ⟨h, _, rfl⟩ | ⟨h, _, hs⟩
    · rw [if_pos h]
      rcases hs with rfl | rfl | rfl
      · exact piece_5 w key u hk hu
      · exact piece_7 w key u hk hu
      · exact piece_21 w key u hk hu
    · rw [if_neg (by omega), if_pos h]; exact piece_15 w key u hk hu
    · rw [if_neg (by omega), if_neg (by omega), if_pos h]
      rcases hs with rfl | rfl | rfl | rfl | rfl
      · exact piece_1 w key u hk hu
      · exact piece_4 w key u hk hu
      · exact piece_11 w key u hk hu
      · exact piece_16 w key u hk hu
      · exact piece_22 w key u hk hu
    · rw [if_neg (by omega), if_neg (by omega), if_pos h]
      rcases hs with rfl | rfl | rfl | rfl
      · exact piece_12 w key u hk hu
      · exact piece_20 w key u hk hu
      · exact piece_26 w key u hk hu
      · exact piece_28 w key u hk hu
    · exact absurd h h4
    · rw [if_neg (by omega), if_neg (by omega), if_neg (by omega), if_pos h]; exact piece_10 w key u
    · rw [if_neg (by omega), if_neg (by omega), if_neg (by omega), if_neg (by omega), if_pos h]; exact piece_6 w key u hP
    · rw [if_neg (by omega), if_neg (by omega), if_neg (by omega), if_neg (by omega), if_neg (by omega)]; exact piece_else w vr hs key u
end Go.Proofs.YtehgeninocbpeaaGreatDoor.Tm
