import Derived.Test.YteglammdigmmfaaGreatDoorMk
/-
  DERIVED. The program's Valid.
-/
namespace Go.Proofs.YteglammdigmmfaaGreatDoor.Ck
open Go Go.Proofs Go.RowKit
open Go.Proofs.YteglammdigmmfaaGreatDoor.Sp (okV spT u8s)

/-- A function's value, or none. -/
def FnV (f : Value) : Prop := f = .nilFunc ∨ ∃ j, f = .func (.func j) #[] #[]
theorem row_shape (v : Int) (h : okV v = true) : ∃ (n : ByteArray) (p u m : Int) (t c q l : Bool) (cf ff : Value), (Rp.rowOf (Rp.vn v)).toArray = #[.string n, .int .u8 p, .int .i64 u, .int .i64 m, .bool t, .bool c, .bool q, .bool l, cf, ff] ∧ FnV cf ∧ FnV ff := by
  have hv : 1 ≤ v ∧ v ≤ 28 ∧ v ≠ 18 := by unfold okV at h; simpa using h
  have hk : v = 1 ∨ v = 2 ∨ v = 3 ∨ v = 4 ∨ v = 5 ∨ v = 6 ∨ v = 7 ∨ v = 8 ∨ v = 9 ∨ v = 10 ∨ v = 11 ∨ v = 12 ∨ v = 13 ∨ v = 14 ∨ v = 15 ∨ v = 16 ∨ v = 17 ∨ v = 19 ∨ v = 20 ∨ v = 21 ∨ v = 22 ∨ v = 23 ∨ v = 24 ∨ v = 25 ∨ v = 26 ∨ v = 27 ∨ v = 28 := by omega
  rcases hk with rfl | rfl | rfl | rfl | rfl | rfl | rfl | rfl | rfl | rfl | rfl | rfl | rfl | rfl | rfl | rfl | rfl | rfl | rfl | rfl | rfl | rfl | rfl | rfl | rfl | rfl | rfl
  all_goals exact ⟨_, _, _, _, _, _, _, _, _, _, rfl, by first | exact .inl rfl | exact .inr ⟨_, rfl⟩, by first | exact .inl rfl | exact .inr ⟨_, rfl⟩⟩
theorem values_no (W : World) (v : Int) (h : okV v = false) : Calls Tryz.prog 13 #[.int .i64 v] W fun e w' => e = .returned (.tuple #[.agg #[.string { data := #[] }, .int .u8 0, .int .i64 0, .int .i64 0, .bool false, .bool false, .bool false, .bool false, .nilFunc, .nilFunc], .bool false]) ∧ Below W.heap.size W w' := by
  by_cases h18 : v = 18
  · rw [h18]; exact values_18 W
  · have hv := values_row W v h18
    have h0 : Rp.vn v = 0 := by
      unfold okV at h
      simp only [decide_eq_false_iff_not] at h
      unfold Rp.vn
      rw [if_neg (by omega)]
    rw [h, h0] at hv
    exact hv
theorem values_yes (W : World) (v : Int) (h : okV v = true) : ∃ (n : ByteArray) (p u m : Int) (t c q l : Bool) (cf ff : Value), FnV cf ∧ FnV ff ∧ Calls Tryz.prog 13 #[.int .i64 v] W fun e w' => e = .returned (.tuple #[.agg #[.string n, .int .u8 p, .int .i64 u, .int .i64 m, .bool t, .bool c, .bool q, .bool l, cf, ff], .bool true]) ∧ Below W.heap.size W w' := by
  obtain ⟨n, p, u, m, t, c, q, l, cf, ff, e, h1, h2⟩ := row_shape v h
  have hv : v ≠ 18 := by unfold okV at h; simp at h; omega
  have c := values_row W v hv
  rw [e, h] at c
  exact ⟨n, p, u, m, t, _, q, l, cf, ff, h1, h2, c⟩
set_option maxRecDepth 100000 in
set_option maxHeartbeats 8000000 in
theorem whole_big_nn (w : World) (v : Int) (n : ByteArray) (p u m : Int) (t c q l : Bool) (s : ByteArray) (hb : 65534 < s.size)
    (C13 : Calls Tryz.prog 13 #[.int .i64 v] w fun e w' => e = .returned (.tuple #[.agg #[.string n, .int .u8 p, .int .i64 u, .int .i64 m, .bool t, .bool c, .bool q, .bool l, .nilFunc, .nilFunc], .bool true]) ∧ Below w.heap.size w w') : Calls Tryz.prog 23 #[.int .i64 v, .string s] w (CkP w (some ([(dB, 65534)], 63))) := by
  have i1 : (s.size : Int) > 65534 := by omega
  go_enter Tryz.func23, Tryz.ntmps23
  go_wp2_with (go_at_call 13; refine Stop.mk ?_)
  refine Stop.out (C13.mono ?_)
  rintro e W1 ⟨rfl, hb1⟩
  have hb2 : Below W1.heap.size W1 (W1.alloc (.cells #[.string n, .int .u8 p, .int .i64 u, .int .i64 m, .bool t, .bool c, .bool q, .bool l, .nilFunc, .nilFunc] 44)) := (Below.refl _ _).alloc (Nat.le_refl _) _
  have HB2 : Hid (Below w.heap.size w (W1.alloc (.cells #[.string n, .int .u8 p, .int .i64 u, .int .i64 m, .bool t, .bool c, .bool q, .bool l, .nilFunc, .nilFunc] 44))) := hb1.trans (hb2.mono hb1.size)
  clear hb1 hb2
  go_wp2_with (go_at_call 14; refine Stop.mk ?_)
  refine Stop.out ((refusal_new _ 65534 63).mono ?_)
  rintro e W9 ⟨q9, rfl, hq9, hb9⟩
  have HB9 : Hid (Below w.heap.size w W9) := HB2.out.trans (hb9.mono HB2.out.size)
  have HQ : Hid _ := hq9
  clear hb9 hq9
  go_wp2
  go_ret
  exact ⟨_, rfl, HQ.out, HB9.out⟩
set_option maxRecDepth 100000 in
set_option maxHeartbeats 8000000 in
theorem whole_ok_nn (w : World) (v : Int) (n : ByteArray) (p u m : Int) (t c q l : Bool) (s : ByteArray) (hb : s.size ≤ 65534)
    (C13 : Calls Tryz.prog 13 #[.int .i64 v] w fun e w' => e = .returned (.tuple #[.agg #[.string n, .int .u8 p, .int .i64 u, .int .i64 m, .bool t, .bool c, .bool q, .bool l, .nilFunc, .nilFunc], .bool true]) ∧ Below w.heap.size w w') : Calls Tryz.prog 23 #[.int .i64 v, .string s] w (CkP w (none)) := by
  have i1 : ¬ ((s.size : Int) > 65534) := by omega
  go_enter Tryz.func23, Tryz.ntmps23
  go_wp2_with (go_at_call 13; refine Stop.mk ?_)
  refine Stop.out (C13.mono ?_)
  rintro e W1 ⟨rfl, hb1⟩
  have hb2 : Below W1.heap.size W1 (W1.alloc (.cells #[.string n, .int .u8 p, .int .i64 u, .int .i64 m, .bool t, .bool c, .bool q, .bool l, .nilFunc, .nilFunc] 44)) := (Below.refl _ _).alloc (Nat.le_refl _) _
  have HB2 : Hid (Below w.heap.size w (W1.alloc (.cells #[.string n, .int .u8 p, .int .i64 u, .int .i64 m, .bool t, .bool c, .bool q, .bool l, .nilFunc, .nilFunc] 44))) := hb1.trans (hb2.mono hb1.size)
  clear hb1 hb2
  go_wp2
  go_ret
  exact ⟨_, rfl, rfl, HB2.out⟩
set_option maxRecDepth 100000 in
set_option maxHeartbeats 8000000 in
theorem whole_big_fn (w : World) (v : Int) (n : ByteArray) (p u m : Int) (t c q l : Bool) (j1 : Nat) (s : ByteArray) (hb : 65534 < s.size)
    (C13 : Calls Tryz.prog 13 #[.int .i64 v] w fun e w' => e = .returned (.tuple #[.agg #[.string n, .int .u8 p, .int .i64 u, .int .i64 m, .bool t, .bool c, .bool q, .bool l, (.func (.func j1) #[] #[]), .nilFunc], .bool true]) ∧ Below w.heap.size w w') : Calls Tryz.prog 23 #[.int .i64 v, .string s] w (CkP w (some ([(dB, 65534)], 63))) := by
  have i1 : (s.size : Int) > 65534 := by omega
  go_enter Tryz.func23, Tryz.ntmps23
  go_wp2_with (go_at_call 13; refine Stop.mk ?_)
  refine Stop.out (C13.mono ?_)
  rintro e W1 ⟨rfl, hb1⟩
  have hb2 : Below W1.heap.size W1 (W1.alloc (.cells #[.string n, .int .u8 p, .int .i64 u, .int .i64 m, .bool t, .bool c, .bool q, .bool l, (.func (.func j1) #[] #[]), .nilFunc] 44)) := (Below.refl _ _).alloc (Nat.le_refl _) _
  have HB2 : Hid (Below w.heap.size w (W1.alloc (.cells #[.string n, .int .u8 p, .int .i64 u, .int .i64 m, .bool t, .bool c, .bool q, .bool l, (.func (.func j1) #[] #[]), .nilFunc] 44))) := hb1.trans (hb2.mono hb1.size)
  clear hb1 hb2
  go_wp2_with (go_at_call 14; refine Stop.mk ?_)
  refine Stop.out ((refusal_new _ 65534 63).mono ?_)
  rintro e W9 ⟨q9, rfl, hq9, hb9⟩
  have HB9 : Hid (Below w.heap.size w W9) := HB2.out.trans (hb9.mono HB2.out.size)
  have HQ : Hid _ := hq9
  clear hb9 hq9
  go_wp2
  go_ret
  exact ⟨_, rfl, HQ.out, HB9.out⟩
set_option maxRecDepth 100000 in
set_option maxHeartbeats 8000000 in
theorem whole_ok_fn (w : World) (v : Int) (n : ByteArray) (p u m : Int) (t c q l : Bool) (j1 : Nat) (s : ByteArray) (hb : s.size ≤ 65534)
    (C13 : Calls Tryz.prog 13 #[.int .i64 v] w fun e w' => e = .returned (.tuple #[.agg #[.string n, .int .u8 p, .int .i64 u, .int .i64 m, .bool t, .bool c, .bool q, .bool l, (.func (.func j1) #[] #[]), .nilFunc], .bool true]) ∧ Below w.heap.size w w') : Calls Tryz.prog 23 #[.int .i64 v, .string s] w (CkP w (none)) := by
  have i1 : ¬ ((s.size : Int) > 65534) := by omega
  go_enter Tryz.func23, Tryz.ntmps23
  go_wp2_with (go_at_call 13; refine Stop.mk ?_)
  refine Stop.out (C13.mono ?_)
  rintro e W1 ⟨rfl, hb1⟩
  have hb2 : Below W1.heap.size W1 (W1.alloc (.cells #[.string n, .int .u8 p, .int .i64 u, .int .i64 m, .bool t, .bool c, .bool q, .bool l, (.func (.func j1) #[] #[]), .nilFunc] 44)) := (Below.refl _ _).alloc (Nat.le_refl _) _
  have HB2 : Hid (Below w.heap.size w (W1.alloc (.cells #[.string n, .int .u8 p, .int .i64 u, .int .i64 m, .bool t, .bool c, .bool q, .bool l, (.func (.func j1) #[] #[]), .nilFunc] 44))) := hb1.trans (hb2.mono hb1.size)
  clear hb1 hb2
  go_wp2
  go_ret
  exact ⟨_, rfl, rfl, HB2.out⟩
set_option maxRecDepth 100000 in
set_option maxHeartbeats 8000000 in
theorem whole_big_nf (w : World) (v : Int) (n : ByteArray) (p u m : Int) (t c q l : Bool) (j2 : Nat) (s : ByteArray) (hb : 65534 < s.size)
    (C13 : Calls Tryz.prog 13 #[.int .i64 v] w fun e w' => e = .returned (.tuple #[.agg #[.string n, .int .u8 p, .int .i64 u, .int .i64 m, .bool t, .bool c, .bool q, .bool l, .nilFunc, (.func (.func j2) #[] #[])], .bool true]) ∧ Below w.heap.size w w') : Calls Tryz.prog 23 #[.int .i64 v, .string s] w (CkP w (some ([(dB, 65534)], 63))) := by
  have i1 : (s.size : Int) > 65534 := by omega
  go_enter Tryz.func23, Tryz.ntmps23
  go_wp2_with (go_at_call 13; refine Stop.mk ?_)
  refine Stop.out (C13.mono ?_)
  rintro e W1 ⟨rfl, hb1⟩
  have hb2 : Below W1.heap.size W1 (W1.alloc (.cells #[.string n, .int .u8 p, .int .i64 u, .int .i64 m, .bool t, .bool c, .bool q, .bool l, .nilFunc, (.func (.func j2) #[] #[])] 44)) := (Below.refl _ _).alloc (Nat.le_refl _) _
  have HB2 : Hid (Below w.heap.size w (W1.alloc (.cells #[.string n, .int .u8 p, .int .i64 u, .int .i64 m, .bool t, .bool c, .bool q, .bool l, .nilFunc, (.func (.func j2) #[] #[])] 44))) := hb1.trans (hb2.mono hb1.size)
  clear hb1 hb2
  go_wp2_with (go_at_call 14; refine Stop.mk ?_)
  refine Stop.out ((refusal_new _ 65534 63).mono ?_)
  rintro e W9 ⟨q9, rfl, hq9, hb9⟩
  have HB9 : Hid (Below w.heap.size w W9) := HB2.out.trans (hb9.mono HB2.out.size)
  have HQ : Hid _ := hq9
  clear hb9 hq9
  go_wp2
  go_ret
  exact ⟨_, rfl, HQ.out, HB9.out⟩
set_option maxRecDepth 100000 in
set_option maxHeartbeats 8000000 in
theorem whole_ok_nf (w : World) (v : Int) (n : ByteArray) (p u m : Int) (t c q l : Bool) (j2 : Nat) (s : ByteArray) (hb : s.size ≤ 65534)
    (C13 : Calls Tryz.prog 13 #[.int .i64 v] w fun e w' => e = .returned (.tuple #[.agg #[.string n, .int .u8 p, .int .i64 u, .int .i64 m, .bool t, .bool c, .bool q, .bool l, .nilFunc, (.func (.func j2) #[] #[])], .bool true]) ∧ Below w.heap.size w w') : Calls Tryz.prog 23 #[.int .i64 v, .string s] w (CkP w (none)) := by
  have i1 : ¬ ((s.size : Int) > 65534) := by omega
  go_enter Tryz.func23, Tryz.ntmps23
  go_wp2_with (go_at_call 13; refine Stop.mk ?_)
  refine Stop.out (C13.mono ?_)
  rintro e W1 ⟨rfl, hb1⟩
  have hb2 : Below W1.heap.size W1 (W1.alloc (.cells #[.string n, .int .u8 p, .int .i64 u, .int .i64 m, .bool t, .bool c, .bool q, .bool l, .nilFunc, (.func (.func j2) #[] #[])] 44)) := (Below.refl _ _).alloc (Nat.le_refl _) _
  have HB2 : Hid (Below w.heap.size w (W1.alloc (.cells #[.string n, .int .u8 p, .int .i64 u, .int .i64 m, .bool t, .bool c, .bool q, .bool l, .nilFunc, (.func (.func j2) #[] #[])] 44))) := hb1.trans (hb2.mono hb1.size)
  clear hb1 hb2
  go_wp2
  go_ret
  exact ⟨_, rfl, rfl, HB2.out⟩
set_option maxRecDepth 100000 in
set_option maxHeartbeats 8000000 in
theorem whole_big_ff (w : World) (v : Int) (n : ByteArray) (p u m : Int) (t c q l : Bool) (j1 j2 : Nat) (s : ByteArray) (hb : 65534 < s.size)
    (C13 : Calls Tryz.prog 13 #[.int .i64 v] w fun e w' => e = .returned (.tuple #[.agg #[.string n, .int .u8 p, .int .i64 u, .int .i64 m, .bool t, .bool c, .bool q, .bool l, (.func (.func j1) #[] #[]), (.func (.func j2) #[] #[])], .bool true]) ∧ Below w.heap.size w w') : Calls Tryz.prog 23 #[.int .i64 v, .string s] w (CkP w (some ([(dB, 65534)], 63))) := by
  have i1 : (s.size : Int) > 65534 := by omega
  go_enter Tryz.func23, Tryz.ntmps23
  go_wp2_with (go_at_call 13; refine Stop.mk ?_)
  refine Stop.out (C13.mono ?_)
  rintro e W1 ⟨rfl, hb1⟩
  have hb2 : Below W1.heap.size W1 (W1.alloc (.cells #[.string n, .int .u8 p, .int .i64 u, .int .i64 m, .bool t, .bool c, .bool q, .bool l, (.func (.func j1) #[] #[]), (.func (.func j2) #[] #[])] 44)) := (Below.refl _ _).alloc (Nat.le_refl _) _
  have HB2 : Hid (Below w.heap.size w (W1.alloc (.cells #[.string n, .int .u8 p, .int .i64 u, .int .i64 m, .bool t, .bool c, .bool q, .bool l, (.func (.func j1) #[] #[]), (.func (.func j2) #[] #[])] 44))) := hb1.trans (hb2.mono hb1.size)
  clear hb1 hb2
  go_wp2_with (go_at_call 14; refine Stop.mk ?_)
  refine Stop.out ((refusal_new _ 65534 63).mono ?_)
  rintro e W9 ⟨q9, rfl, hq9, hb9⟩
  have HB9 : Hid (Below w.heap.size w W9) := HB2.out.trans (hb9.mono HB2.out.size)
  have HQ : Hid _ := hq9
  clear hb9 hq9
  go_wp2
  go_ret
  exact ⟨_, rfl, HQ.out, HB9.out⟩
set_option maxRecDepth 100000 in
set_option maxHeartbeats 8000000 in
theorem whole_ok_ff (w : World) (v : Int) (n : ByteArray) (p u m : Int) (t c q l : Bool) (j1 j2 : Nat) (s : ByteArray) (hb : s.size ≤ 65534)
    (C13 : Calls Tryz.prog 13 #[.int .i64 v] w fun e w' => e = .returned (.tuple #[.agg #[.string n, .int .u8 p, .int .i64 u, .int .i64 m, .bool t, .bool c, .bool q, .bool l, (.func (.func j1) #[] #[]), (.func (.func j2) #[] #[])], .bool true]) ∧ Below w.heap.size w w') : Calls Tryz.prog 23 #[.int .i64 v, .string s] w (CkP w (none)) := by
  have i1 : ¬ ((s.size : Int) > 65534) := by omega
  go_enter Tryz.func23, Tryz.ntmps23
  go_wp2_with (go_at_call 13; refine Stop.mk ?_)
  refine Stop.out (C13.mono ?_)
  rintro e W1 ⟨rfl, hb1⟩
  have hb2 : Below W1.heap.size W1 (W1.alloc (.cells #[.string n, .int .u8 p, .int .i64 u, .int .i64 m, .bool t, .bool c, .bool q, .bool l, (.func (.func j1) #[] #[]), (.func (.func j2) #[] #[])] 44)) := (Below.refl _ _).alloc (Nat.le_refl _) _
  have HB2 : Hid (Below w.heap.size w (W1.alloc (.cells #[.string n, .int .u8 p, .int .i64 u, .int .i64 m, .bool t, .bool c, .bool q, .bool l, (.func (.func j1) #[] #[]), (.func (.func j2) #[] #[])] 44))) := hb1.trans (hb2.mono hb1.size)
  clear hb1 hb2
  go_wp2
  go_ret
  exact ⟨_, rfl, rfl, HB2.out⟩
set_option maxRecDepth 100000 in
set_option maxHeartbeats 8000000 in
theorem whole_no (w : World) (v : Int) (s : ByteArray) (h : okV v = false) : Calls Tryz.prog 23 #[.int .i64 v, .string s] w (CkP w (some ([(dB, 0)], 62))) := by
  go_enter Tryz.func23, Tryz.ntmps23
  go_wp2_with (go_at_call 13; refine Stop.mk ?_)
  refine Stop.out ((values_no w v h).mono ?_)
  rintro e W1 ⟨rfl, hb1⟩
  have hb2 : Below W1.heap.size W1 (W1.alloc (.cells #[.string { data := #[] }, .int .u8 0, .int .i64 0, .int .i64 0, .bool false, .bool false, .bool false, .bool false, .nilFunc, .nilFunc] 44)) := (Below.refl _ _).alloc (Nat.le_refl _) _
  have HB2 : Hid (Below w.heap.size w (W1.alloc (.cells #[.string { data := #[] }, .int .u8 0, .int .i64 0, .int .i64 0, .bool false, .bool false, .bool false, .bool false, .nilFunc, .nilFunc] 44))) := hb1.trans (hb2.mono hb1.size)
  clear hb1 hb2
  go_wp2_with (go_at_call 14; refine Stop.mk ?_)
  refine Stop.out ((refusal_new _ 0 62).mono ?_)
  rintro e W9 ⟨q9, rfl, hq9, hb9⟩
  have HB9 : Hid (Below w.heap.size w W9) := HB2.out.trans (hb9.mono HB2.out.size)
  have HQ : Hid _ := hq9
  clear hb9 hq9
  go_wp2
  go_ret
  exact ⟨_, rfl, HQ.out, HB9.out⟩
theorem whole_any (w : World) (v : Int) (s : ByteArray) : Calls Tryz.prog 23 #[.int .i64 v, .string s] w (CkP w (bdO v s)) := by
  unfold bdO
  cases h : okV v with
  | false => rw [if_pos rfl]; exact whole_no w v s h
  | true =>
    rw [if_neg (by decide)]
    obtain ⟨n, p, u, m, t, c, q, l, cf, ff, h1, h2, C⟩ := values_yes w v h
    by_cases hb : 65534 < s.size
    · rw [if_pos hb]
      rcases h1 with rfl | ⟨j1, rfl⟩
      · rcases h2 with rfl | ⟨j2, rfl⟩
        · exact whole_big_nn w v n p u m t c q l s hb C
        · exact whole_big_nf w v n p u m t c q l j2 s hb C
      · rcases h2 with rfl | ⟨j2, rfl⟩
        · exact whole_big_fn w v n p u m t c q l j1 s hb C
        · exact whole_big_ff w v n p u m t c q l j1 j2 s hb C
    · rw [if_neg hb]
      have hb' : s.size ≤ 65534 := by omega
      rcases h1 with rfl | ⟨j1, rfl⟩
      · rcases h2 with rfl | ⟨j2, rfl⟩
        · exact whole_ok_nn w v n p u m t c q l s hb' C
        · exact whole_ok_nf w v n p u m t c q l j2 s hb' C
      · rcases h2 with rfl | ⟨j2, rfl⟩
        · exact whole_ok_fn w v n p u m t c q l j1 s hb' C
        · exact whole_ok_ff w v n p u m t c q l j1 j2 s hb' C
theorem whole_nil (w : World) (v : Int) (s : ByteArray) (h : bdO v s = none) : Calls Tryz.prog 23 #[.int .i64 v, .string s] w fun e w' => e = .returned .nilIface ∧ Below w.heap.size w w' := by
  refine (whole_any w v s).mono ?_
  rintro e W ⟨r, rfl, hf, hb⟩
  rw [h] at hf
  exact ⟨by rw [show r = _ from hf], hb⟩
theorem chain_ptr {W : World} {x : Lk} {ls : List Lk} {c : Int} {r : Value} (h : Chain W (x :: ls) c r) : ∃ q, r = .iface 65 (.pointer (some ⟨q, 0, none⟩)) := by
  obtain ⟨q, _, h1, _⟩ := h; exact ⟨q, h1⟩
theorem whole_some (w : World) (v : Int) (s : ByteArray) (a c : Int) (h : bdO v s = some ([(dB, a)], c)) : Calls Tryz.prog 23 #[.int .i64 v, .string s] w fun e w' => ∃ q, e = .returned (.iface 65 (.pointer (some ⟨q, 0, none⟩))) ∧ Chain w' [(dB, a)] c (.iface 65 (.pointer (some ⟨q, 0, none⟩))) ∧ Below w.heap.size w w' := by
  refine (whole_any w v s).mono ?_
  rintro e W ⟨r, rfl, hf, hb⟩
  rw [h] at hf
  obtain ⟨q, rfl⟩ := chain_ptr hf
  exact ⟨q, rfl, hf, hb⟩
theorem check_nil (w : World) (v : Int) (s : ByteArray) (hs : s.size ≤ 140737488351232) (hG : Gb w) (h : ckK v s = none) : Calls Tryz.prog 5 #[.int .i64 v, .string s] w fun e w' => e = .returned .nilIface ∧ Below w.heap.size w w' := by
  refine (check_any w v s hs hG).mono ?_
  rintro e W ⟨r, rfl, hf, hb⟩
  rw [h] at hf
  exact ⟨by rw [show r = _ from hf], hb⟩
theorem check_some (w : World) (v : Int) (s : ByteArray) (hs : s.size ≤ 140737488351232) (hG : Gb w) (a c : Int) (h : ckK v s = some ([(dB, a)], c)) : Calls Tryz.prog 5 #[.int .i64 v, .string s] w fun e w' => ∃ q, e = .returned (.iface 65 (.pointer (some ⟨q, 0, none⟩))) ∧ Chain w' [(dB, a)] c (.iface 65 (.pointer (some ⟨q, 0, none⟩))) ∧ Below w.heap.size w w' := by
  refine (check_any w v s hs hG).mono ?_
  rintro e W ⟨r, rfl, hf, hb⟩
  rw [h] at hf
  obtain ⟨q, rfl⟩ := chain_ptr hf
  exact ⟨q, rfl, hf, hb⟩
set_option maxRecDepth 100000 in
set_option maxHeartbeats 8000000 in
theorem valid_bad (w : World) (v : Int) (s : ByteArray) (a c : Int) (h : bdO v s = some ([(dB, a)], c)) : Calls Tryz.prog 7 #[.int .i64 v, .string s] w (CkP w (some ([(dB, a)], c))) := by
  go_enter Tryz.func7, Tryz.ntmps7
  go_wp2_with (go_at_call 23; refine Stop.mk ?_)
  refine Stop.out ((whole_some _ v s a c h).mono ?_)
  rintro e W1 ⟨q, rfl, hq, hb1⟩
  have HQ : Hid _ := hq
  have HB : Hid _ := hb1
  clear hq hb1
  go_wp2
  go_ret
  exact ⟨_, rfl, HQ.out, HB.out⟩
set_option maxRecDepth 100000 in
set_option maxHeartbeats 8000000 in
theorem valid_good (w : World) (v : Int) (s : ByteArray) (h : bdO v s = none) (hs : s.size ≤ 65534) (hG : Gb w) : Calls Tryz.prog 7 #[.int .i64 v, .string s] w (CkP w (vdL v (spT v s) 0)) := by
  have c24 := fun W => Sp.split_any W v s (by omega)
  have hlen := Sp.spT_len v s
  have HE : Hid (∀ p ∈ spT v s, p.size ≤ s.size) := spT_mem v s
  generalize spT v s = T at *
  obtain ⟨R, hR⟩ : ∃ R, vdL v T 0 = R := ⟨_, rfl⟩
  have HR : Hid (vdL v (T.drop 0) 0 = R) := hR
  rw [hR]
  obtain ⟨n, hl⟩ : ∃ n, T.length = n := ⟨_, rfl⟩
  have HL : Hid (T.length = n) := hl
  have HG : Hid (Gb w) := hG
  rw [hl] at hlen
  clear hR hl hG
  go_enter Tryz.func7, Tryz.ntmps7
  go_wp2_with (go_at_call 23; refine Stop.mk ?_)
  refine Stop.out ((whole_nil _ v s h).mono ?_)
  rintro e W1 ⟨rfl, hb1⟩
  have HB1 : Hid (Below w.heap.size w W1) := hb1
  clear hb1 h
  go_wp2_with (go_at_call 24; refine Stop.mk ?_)
  refine Stop.out ((c24 _).mono ?_)
  rintro e W3 ⟨x, rfl, hx⟩
  obtain ⟨ao, cp, rfl, ht⟩ := row_of hx.out.1
  have HT : Hid (TxAt W3 ao T ∧ Below w.heap.size w W3) := ⟨ht, HB1.out.trans (hx.out.2.1.mono HB1.out.size)⟩
  rw [HL.out]
  clear hx ht c24 HB1
  go_wp2
  go_loopg [19] n (fun k s19 wx => ∃ i : Nat, s19 = .int .i64 (i : Int) ∧ i ≤ n ∧ k + i = n ∧ Hid (vdL v (T.drop i) i = R) ∧ Hid (TxAt wx ao T ∧ Below w.heap.size w wx))
  case atStart => exact ⟨0, rfl, by omega, by omega, HR, HT⟩
  case round =>
    clear HR HT
    obtain ⟨i, rfl, hi, hg, HI, HT⟩ := hrel
    by_cases hlt : i < n
    · have iI : (i : Int) < (n : Int) := by omega
      have hlx : i < T.length := by have := HL.out; omega
      obtain ⟨u, hu⟩ : ∃ u, T[i] = u := ⟨_, rfl⟩
      obtain ⟨g, hao, cl⟩ := HT.out.1 i hlx
      rw [hu] at cl
      subst hao
      have hsz : u.size ≤ s.size := HE.out u (by rw [← hu]; exact List.getElem_mem hlx)
      have HI2 := HI.out
      rw [List.drop_eq_getElem_cons hlx, hu, vdL] at HI2
      have HGw : Hid (Gb wr) := HG.out.on HT.out.2
      clear HI hlx hu
      rcases ck_one v u with hk | ⟨a, c, hk, hc⟩
      · rw [hk] at HI2
        have HI3 : Hid (vdL v (T.drop (i + 1)) (i + 1) = R) := HI2
        clear HI2
        go_wp2_with (go_at_call 5; refine Stop.mk ?_)
        refine Stop.out ((check_nil _ v u (by omega) HGw.out hk).mono ?_)
        rintro e4 W4 ⟨rfl, hb4⟩
        have HT4 : Hid (TxAt W4 (some ⟨g, 0, none⟩) T ∧ Below w.heap.size w W4) := ⟨HT.out.1.on hb4, HT.out.2.trans (hb4.mono HT.out.2.size)⟩
        clear hb4 HT hk cl HGw
        go_wp2
        go_roundg (n - (i + 1))
        case measure => omega
        case rel => exact ⟨i + 1, by simp, by omega, by omega, HI3, HT4⟩
      · rw [hk] at HI2
        have HI3 : Hid (some ([(dB, (i : Int)), (dB, a)], c) = R) := HI2
        clear HI2
        go_wp2_with (go_at_call 5; refine Stop.mk ?_)
        refine Stop.out ((check_some _ v u (by omega) HGw.out a c hk).mono ?_)
        rintro e4 W4 ⟨q4, rfl, hq4, hb4⟩
        have HB4 : Hid (Below w.heap.size w W4) := HT.out.2.trans (hb4.mono HT.out.2.size)
        have HQ4 : Hid _ := hq4
        clear hb4 HT hk cl HGw hq4 hc
        go_wp2_with (go_at_call 14; refine Stop.mk ?_)
        refine Stop.out ((refusal_more _ (i : Int) c [(dB, a)] _ HQ4.out (by simp)).mono ?_)
        rintro e5 W5 ⟨q5, rfl, hq5, hb5⟩
        have HB5 : Hid (Below w.heap.size w W5) := HB4.out.trans (hb5.mono HB4.out.size)
        have HQ5 : Hid _ := hq5
        clear hb5 hq5
        go_wp2
        go_ret
        exact ⟨_, rfl, by rw [← HI3.out]; exact HQ5.out, HB5.out⟩
    · have iI : ¬ ((i : Int) < (n : Int)) := by omega
      have HI3 : Hid (none = R) := by
        have := HI.out
        rw [List.drop_eq_nil_of_le (by have := HL.out; omega)] at this
        exact this
      clear HI
      go_wp2
      go_ret
      exact ⟨_, rfl, by rw [← HI3.out]; rfl, HT.out.2⟩
theorem valid_any (w : World) (v : Int) (s : ByteArray) (hG : Gb w) : Calls Tryz.prog 7 #[.int .i64 v, .string s] w (CkP w (vdO v s)) := by
  unfold vdO
  rcases bd_cases v s with ⟨h, _, hs⟩ | ⟨a, c, h, _⟩
  · rw [h]; exact valid_good w v s h hs hG
  · rw [h]; exact valid_bad w v s a c h
end Go.Proofs.YteglammdigmmfaaGreatDoor.Ck
