import Derived.Test.YteglammdigmmfaaGreatDoorMm
/-
  DERIVED. Fits of the program; what both say of any attribute.
-/
namespace Go.Proofs.YteglammdigmmfaaGreatDoor.Ck
open Go Go.Proofs Go.RowKit
open Go.Proofs.YteglammdigmmfaaGreatDoor.Sp (okV spT u8s)

theorem valid_back (w : World) (v : Int) (s : ByteArray) (hG : Gb w) : Calls Tryz.prog 7 #[.int .i64 v, .string s] w fun e w' => ∃ r, e = .returned r ∧ (r = .nilIface ∨ ∃ q, r = .iface 65 (.pointer (some ⟨q, 0, none⟩))) ∧ FltV w' r (vdO v s) ∧ Below w.heap.size w w' := by
  refine (valid_any w v s hG).mono ?_
  rintro e W ⟨r, rfl, hf, hb⟩
  refine ⟨r, rfl, ?_, hf, hb⟩
  cases ho : vdO v s with
  | none => rw [ho] at hf; exact .inl hf
  | some x =>
    have hl := vdO_pos v s x ho
    rw [ho] at hf
    obtain ⟨ls, c⟩ := x
    cases ls with
    | nil => simp at hl
    | cons y l => exact .inr (chain_ptr hf)
set_option maxRecDepth 100000 in
set_option maxHeartbeats 8000000 in
theorem fits_un (w : World) (v : Int) (s : ByteArray) (h : bdO v s = none) (t : Nat) (TT MM VV L M : Int) (SS : ByteArray)
    (C29 : ∀ W, Calls Tryz.prog 29 #[.int .u32 (t : Int)] W fun e w' => e = .returned (.tuple #[.agg #[.int .u32 TT, .int .u32 MM, .int .i64 VV, .string SS, .int .i64 L, .int .i64 M], .bool false]) ∧ Below W.heap.size W w') (hG : Gb w) : Calls Tryz.prog 9 #[.int .u32 (t : Int), .int .i64 v, .string s] w (CkP w (vdO v s)) := by
  have HG : Hid (Gb w) := hG
  clear hG
  go_enter Tryz.func9, Tryz.ntmps9
  go_wp2_with (go_at_call 23; refine Stop.mk ?_)
  refine Stop.out ((whole_nil _ v s h).mono ?_)
  rintro e W1 ⟨rfl, hb1⟩
  have HB1 : Hid (Below w.heap.size w W1) := hb1
  clear hb1 h
  go_wp2_with (go_at_call 29; refine Stop.mk ?_)
  refine Stop.out ((C29 _).mono ?_)
  rintro e W4 ⟨rfl, hb4⟩
  have hbB : Below W4.heap.size W4 (W4.alloc (.cells #[.int .u32 TT, .int .u32 MM, .int .i64 VV, .string SS, .int .i64 L, .int .i64 M] 62)) := (Below.refl _ _).alloc (Nat.le_refl _) _
  have HBb : Hid (Below w.heap.size w W4) := HB1.out.trans (hb4.mono HB1.out.size)
  have HB4 : Hid (Below w.heap.size w (W4.alloc (.cells #[.int .u32 TT, .int .u32 MM, .int .i64 VV, .string SS, .int .i64 L, .int .i64 M] 62))) := HBb.out.trans (hbB.mono HBb.out.size)
  clear hb4 hbB HBb C29 HB1
  have HB5 := HB4
  go_wp2_with (go_at_call 7; refine Stop.mk ?_)
  refine Stop.out ((valid_back _ v s (HG.out.on HB5.out)).mono ?_)
  rintro e W9 ⟨r9, rfl, hr9, hf9, hb9⟩
  have HB9 : Hid (Below w.heap.size w W9) := HB5.out.trans (hb9.mono HB5.out.size)
  have HQ : Hid (FltV W9 r9 (vdO v s)) := hf9
  clear hb9 hf9
  rcases hr9 with rfl | ⟨q9, rfl⟩
  · go_wp2
    go_ret
    exact ⟨_, rfl, HQ.out, HB9.out⟩
  · go_wp2
    go_ret
    exact ⟨_, rfl, HQ.out, HB9.out⟩
set_option maxRecDepth 100000 in
set_option maxHeartbeats 8000000 in
theorem fits_no (w : World) (v : Int) (s : ByteArray) (h : bdO v s = none) (t : Nat) (TT MM VV L M : Int) (SS : ByteArray) (h0 : s.size = 0)
    (C29 : ∀ W, Calls Tryz.prog 29 #[.int .u32 (t : Int)] W fun e w' => e = .returned (.tuple #[.agg #[.int .u32 TT, .int .u32 MM, .int .i64 VV, .string SS, .int .i64 L, .int .i64 M], .bool true]) ∧ Below W.heap.size W w') (hG : Gb w) : Calls Tryz.prog 9 #[.int .u32 (t : Int), .int .i64 v, .string s] w (CkP w (vdO v s)) := by
  have HG : Hid (Gb w) := hG
  clear hG
  have e0 := text_none h0
  clear h0
  go_enter Tryz.func9, Tryz.ntmps9
  go_wp2_with (go_at_call 23; refine Stop.mk ?_)
  refine Stop.out ((whole_nil _ v s h).mono ?_)
  rintro e W1 ⟨rfl, hb1⟩
  have HB1 : Hid (Below w.heap.size w W1) := hb1
  clear hb1 h
  go_wp2_with (go_at_call 29; refine Stop.mk ?_)
  refine Stop.out ((C29 _).mono ?_)
  rintro e W4 ⟨rfl, hb4⟩
  have hbB : Below W4.heap.size W4 (W4.alloc (.cells #[.int .u32 TT, .int .u32 MM, .int .i64 VV, .string SS, .int .i64 L, .int .i64 M] 62)) := (Below.refl _ _).alloc (Nat.le_refl _) _
  have HBb : Hid (Below w.heap.size w W4) := HB1.out.trans (hb4.mono HB1.out.size)
  have HB4 : Hid (Below w.heap.size w (W4.alloc (.cells #[.int .u32 TT, .int .u32 MM, .int .i64 VV, .string SS, .int .i64 L, .int .i64 M] 62))) := HBb.out.trans (hbB.mono HBb.out.size)
  clear hb4 hbB HBb C29 HB1
  have HB5 := HB4
  go_wp2_with (go_at_call 7; refine Stop.mk ?_)
  refine Stop.out ((valid_back _ v s (HG.out.on HB5.out)).mono ?_)
  rintro e W9 ⟨r9, rfl, hr9, hf9, hb9⟩
  have HB9 : Hid (Below w.heap.size w W9) := HB5.out.trans (hb9.mono HB5.out.size)
  have HQ : Hid (FltV W9 r9 (vdO v s)) := hf9
  clear hb9 hf9
  rcases hr9 with rfl | ⟨q9, rfl⟩
  · go_wp2
    go_ret
    exact ⟨_, rfl, HQ.out, HB9.out⟩
  · go_wp2
    go_ret
    exact ⟨_, rfl, HQ.out, HB9.out⟩
set_option maxRecDepth 100000 in
set_option maxHeartbeats 8000000 in
theorem fits_few (w : World) (v : Int) (s : ByteArray) (n : Nat) (h : bdO v s = none) (hs : s.size ≤ 65534) (hn : (spT v s).length = n) (t : Nat) (TT MM VV L M : Int) (SS : ByteArray) (h0 : s.size ≠ 0) (h1 : (n : Int) < L)
    (C29 : ∀ W, Calls Tryz.prog 29 #[.int .u32 (t : Int)] W fun e w' => e = .returned (.tuple #[.agg #[.int .u32 TT, .int .u32 MM, .int .i64 VV, .string SS, .int .i64 L, .int .i64 M], .bool true]) ∧ Below W.heap.size W w') : Calls Tryz.prog 9 #[.int .u32 (t : Int), .int .i64 v, .string s] w (CkP w (some ([(dB, (n : Int))], 66))) := by
  have c24 := fun W => Sp.split_any W v s (by omega)
  rw [hn] at c24
  have e0 := text_some h0
  clear h0
  go_enter Tryz.func9, Tryz.ntmps9
  go_wp2_with (go_at_call 23; refine Stop.mk ?_)
  refine Stop.out ((whole_nil _ v s h).mono ?_)
  rintro e W1 ⟨rfl, hb1⟩
  have HB1 : Hid (Below w.heap.size w W1) := hb1
  clear hb1 h
  go_wp2_with (go_at_call 29; refine Stop.mk ?_)
  refine Stop.out ((C29 _).mono ?_)
  rintro e W4 ⟨rfl, hb4⟩
  have hbB : Below W4.heap.size W4 (W4.alloc (.cells #[.int .u32 TT, .int .u32 MM, .int .i64 VV, .string SS, .int .i64 L, .int .i64 M] 62)) := (Below.refl _ _).alloc (Nat.le_refl _) _
  have HBb : Hid (Below w.heap.size w W4) := HB1.out.trans (hb4.mono HB1.out.size)
  have HB4 : Hid (Below w.heap.size w (W4.alloc (.cells #[.int .u32 TT, .int .u32 MM, .int .i64 VV, .string SS, .int .i64 L, .int .i64 M] 62))) := HBb.out.trans (hbB.mono HBb.out.size)
  clear hb4 hbB HBb C29 HB1
  go_wp2_with (go_at_call 24; refine Stop.mk ?_)
  refine Stop.out ((c24 _).mono ?_)
  rintro e W5 ⟨x, rfl, hx⟩
  obtain ⟨ao, cp, rfl, _⟩ := row_of (hn.symm ▸ hx.out.1)
  rw [hn]
  have HE5 : Hid (Below W4.heap.size (W4.alloc (.cells #[.int .u32 TT, .int .u32 MM, .int .i64 VV, .string SS, .int .i64 L, .int .i64 M] 62)) W5) := hx.out.2.1.mono (by simp)
  have y4 : W5.cell? ⟨W4.heap.size, 4, none⟩ = some (.int .i64 L) := (hx.out.2.1.cell (by simp)).trans (by simp)
  have y5 : W5.cell? ⟨W4.heap.size, 5, none⟩ = some (.int .i64 M) := (hx.out.2.1.cell (by simp)).trans (by simp)
  have HB5 : Hid (Below w.heap.size w W5) := HB4.out.trans (hx.out.2.1.mono HB4.out.size)
  clear hx c24 hn HE5
  go_wp2_with (go_at_call 14; refine Stop.mk ?_)
  refine Stop.out ((refusal_new _ (n : Int) 66).mono ?_)
  rintro e W9 ⟨q9, rfl, hq9, hb9⟩
  have HB9 : Hid (Below w.heap.size w W9) := HB5.out.trans (hb9.mono HB5.out.size)
  have HQ : Hid _ := hq9
  clear hb9 hq9
  go_wp2
  go_ret
  exact ⟨_, rfl, HQ.out, HB9.out⟩
set_option maxRecDepth 100000 in
set_option maxHeartbeats 8000000 in
theorem fits_free (w : World) (v : Int) (s : ByteArray) (n : Nat) (h : bdO v s = none) (hs : s.size ≤ 65534) (hn : (spT v s).length = n) (t : Nat) (TT MM VV L M : Int) (SS : ByteArray) (h0 : s.size ≠ 0) (h1 : ¬ (n : Int) < L) (h2 : M = 0)
    (C29 : ∀ W, Calls Tryz.prog 29 #[.int .u32 (t : Int)] W fun e w' => e = .returned (.tuple #[.agg #[.int .u32 TT, .int .u32 MM, .int .i64 VV, .string SS, .int .i64 L, .int .i64 M], .bool true]) ∧ Below W.heap.size W w') (hG : Gb w) : Calls Tryz.prog 9 #[.int .u32 (t : Int), .int .i64 v, .string s] w (CkP w (vdO v s)) := by
  have HG : Hid (Gb w) := hG
  clear hG
  have c24 := fun W => Sp.split_any W v s (by omega)
  rw [hn] at c24
  have e0 := text_some h0
  clear h0
  have i2 : (M != 0) = false := by rw [h2]; rfl
  have i4 : (M == 0) = true := by rw [h2]; rfl
  clear h2
  go_enter Tryz.func9, Tryz.ntmps9
  go_wp2_with (go_at_call 23; refine Stop.mk ?_)
  refine Stop.out ((whole_nil _ v s h).mono ?_)
  rintro e W1 ⟨rfl, hb1⟩
  have HB1 : Hid (Below w.heap.size w W1) := hb1
  clear hb1 h
  go_wp2_with (go_at_call 29; refine Stop.mk ?_)
  refine Stop.out ((C29 _).mono ?_)
  rintro e W4 ⟨rfl, hb4⟩
  have hbB : Below W4.heap.size W4 (W4.alloc (.cells #[.int .u32 TT, .int .u32 MM, .int .i64 VV, .string SS, .int .i64 L, .int .i64 M] 62)) := (Below.refl _ _).alloc (Nat.le_refl _) _
  have HBb : Hid (Below w.heap.size w W4) := HB1.out.trans (hb4.mono HB1.out.size)
  have HB4 : Hid (Below w.heap.size w (W4.alloc (.cells #[.int .u32 TT, .int .u32 MM, .int .i64 VV, .string SS, .int .i64 L, .int .i64 M] 62))) := HBb.out.trans (hbB.mono HBb.out.size)
  clear hb4 hbB HBb C29 HB1
  go_wp2_with (go_at_call 24; refine Stop.mk ?_)
  refine Stop.out ((c24 _).mono ?_)
  rintro e W5 ⟨x, rfl, hx⟩
  obtain ⟨ao, cp, rfl, _⟩ := row_of (hn.symm ▸ hx.out.1)
  rw [hn]
  have HE5 : Hid (Below W4.heap.size (W4.alloc (.cells #[.int .u32 TT, .int .u32 MM, .int .i64 VV, .string SS, .int .i64 L, .int .i64 M] 62)) W5) := hx.out.2.1.mono (by simp)
  have y4 : W5.cell? ⟨W4.heap.size, 4, none⟩ = some (.int .i64 L) := (hx.out.2.1.cell (by simp)).trans (by simp)
  have y5 : W5.cell? ⟨W4.heap.size, 5, none⟩ = some (.int .i64 M) := (hx.out.2.1.cell (by simp)).trans (by simp)
  have HB5 : Hid (Below w.heap.size w W5) := HB4.out.trans (hx.out.2.1.mono HB4.out.size)
  clear hx c24 hn HE5
  go_wp2_with (go_at_call 7; refine Stop.mk ?_)
  refine Stop.out ((valid_back _ v s (HG.out.on HB5.out)).mono ?_)
  rintro e W9 ⟨r9, rfl, hr9, hf9, hb9⟩
  have HB9 : Hid (Below w.heap.size w W9) := HB5.out.trans (hb9.mono HB5.out.size)
  have HQ : Hid (FltV W9 r9 (vdO v s)) := hf9
  clear hb9 hf9
  rcases hr9 with rfl | ⟨q9, rfl⟩
  · go_wp2
    go_ret
    exact ⟨_, rfl, HQ.out, HB9.out⟩
  · go_wp2
    go_ret
    exact ⟨_, rfl, HQ.out, HB9.out⟩
set_option maxRecDepth 100000 in
set_option maxHeartbeats 8000000 in
theorem fits_many (w : World) (v : Int) (s : ByteArray) (n : Nat) (h : bdO v s = none) (hs : s.size ≤ 65534) (hn : (spT v s).length = n) (t : Nat) (TT MM VV L M : Int) (SS : ByteArray) (h0 : s.size ≠ 0) (h1 : ¬ (n : Int) < L) (h2 : M ≠ 0) (h3 : M < (n : Int))
    (C29 : ∀ W, Calls Tryz.prog 29 #[.int .u32 (t : Int)] W fun e w' => e = .returned (.tuple #[.agg #[.int .u32 TT, .int .u32 MM, .int .i64 VV, .string SS, .int .i64 L, .int .i64 M], .bool true]) ∧ Below W.heap.size W w') : Calls Tryz.prog 9 #[.int .u32 (t : Int), .int .i64 v, .string s] w (CkP w (some ([(dB, (n : Int))], 66))) := by
  have c24 := fun W => Sp.split_any W v s (by omega)
  rw [hn] at c24
  have e0 := text_some h0
  clear h0
  have i2 : (M != 0) = true := by simpa using h2
  have i4 : (M == 0) = false := beq_eq_false_iff_ne.2 h2
  have i3 : (n : Int) > M := h3
  go_enter Tryz.func9, Tryz.ntmps9
  go_wp2_with (go_at_call 23; refine Stop.mk ?_)
  refine Stop.out ((whole_nil _ v s h).mono ?_)
  rintro e W1 ⟨rfl, hb1⟩
  have HB1 : Hid (Below w.heap.size w W1) := hb1
  clear hb1 h
  go_wp2_with (go_at_call 29; refine Stop.mk ?_)
  refine Stop.out ((C29 _).mono ?_)
  rintro e W4 ⟨rfl, hb4⟩
  have hbB : Below W4.heap.size W4 (W4.alloc (.cells #[.int .u32 TT, .int .u32 MM, .int .i64 VV, .string SS, .int .i64 L, .int .i64 M] 62)) := (Below.refl _ _).alloc (Nat.le_refl _) _
  have HBb : Hid (Below w.heap.size w W4) := HB1.out.trans (hb4.mono HB1.out.size)
  have HB4 : Hid (Below w.heap.size w (W4.alloc (.cells #[.int .u32 TT, .int .u32 MM, .int .i64 VV, .string SS, .int .i64 L, .int .i64 M] 62))) := HBb.out.trans (hbB.mono HBb.out.size)
  clear hb4 hbB HBb C29 HB1
  go_wp2_with (go_at_call 24; refine Stop.mk ?_)
  refine Stop.out ((c24 _).mono ?_)
  rintro e W5 ⟨x, rfl, hx⟩
  obtain ⟨ao, cp, rfl, _⟩ := row_of (hn.symm ▸ hx.out.1)
  rw [hn]
  have HE5 : Hid (Below W4.heap.size (W4.alloc (.cells #[.int .u32 TT, .int .u32 MM, .int .i64 VV, .string SS, .int .i64 L, .int .i64 M] 62)) W5) := hx.out.2.1.mono (by simp)
  have y4 : W5.cell? ⟨W4.heap.size, 4, none⟩ = some (.int .i64 L) := (hx.out.2.1.cell (by simp)).trans (by simp)
  have y5 : W5.cell? ⟨W4.heap.size, 5, none⟩ = some (.int .i64 M) := (hx.out.2.1.cell (by simp)).trans (by simp)
  have HB5 : Hid (Below w.heap.size w W5) := HB4.out.trans (hx.out.2.1.mono HB4.out.size)
  clear hx c24 hn HE5
  go_wp2_with (go_at_call 14; refine Stop.mk ?_)
  refine Stop.out ((refusal_new _ (n : Int) 66).mono ?_)
  rintro e W9 ⟨q9, rfl, hq9, hb9⟩
  have HB9 : Hid (Below w.heap.size w W9) := HB5.out.trans (hb9.mono HB5.out.size)
  have HQ : Hid _ := hq9
  clear hb9 hq9
  go_wp2
  go_ret
  exact ⟨_, rfl, HQ.out, HB9.out⟩
set_option maxRecDepth 100000 in
set_option maxHeartbeats 8000000 in
theorem fits_ok (w : World) (v : Int) (s : ByteArray) (n : Nat) (h : bdO v s = none) (hs : s.size ≤ 65534) (hn : (spT v s).length = n) (t : Nat) (TT MM VV L M : Int) (SS : ByteArray) (h0 : s.size ≠ 0) (h1 : ¬ (n : Int) < L) (h2 : M ≠ 0) (h3 : ¬ M < (n : Int))
    (C29 : ∀ W, Calls Tryz.prog 29 #[.int .u32 (t : Int)] W fun e w' => e = .returned (.tuple #[.agg #[.int .u32 TT, .int .u32 MM, .int .i64 VV, .string SS, .int .i64 L, .int .i64 M], .bool true]) ∧ Below W.heap.size W w') (hG : Gb w) : Calls Tryz.prog 9 #[.int .u32 (t : Int), .int .i64 v, .string s] w (CkP w (vdO v s)) := by
  have HG : Hid (Gb w) := hG
  clear hG
  have c24 := fun W => Sp.split_any W v s (by omega)
  rw [hn] at c24
  have e0 := text_some h0
  clear h0
  have i2 : (M != 0) = true := by simpa using h2
  have i4 : (M == 0) = false := beq_eq_false_iff_ne.2 h2
  have i3 : ¬ ((n : Int) > M) := h3
  go_enter Tryz.func9, Tryz.ntmps9
  go_wp2_with (go_at_call 23; refine Stop.mk ?_)
  refine Stop.out ((whole_nil _ v s h).mono ?_)
  rintro e W1 ⟨rfl, hb1⟩
  have HB1 : Hid (Below w.heap.size w W1) := hb1
  clear hb1 h
  go_wp2_with (go_at_call 29; refine Stop.mk ?_)
  refine Stop.out ((C29 _).mono ?_)
  rintro e W4 ⟨rfl, hb4⟩
  have hbB : Below W4.heap.size W4 (W4.alloc (.cells #[.int .u32 TT, .int .u32 MM, .int .i64 VV, .string SS, .int .i64 L, .int .i64 M] 62)) := (Below.refl _ _).alloc (Nat.le_refl _) _
  have HBb : Hid (Below w.heap.size w W4) := HB1.out.trans (hb4.mono HB1.out.size)
  have HB4 : Hid (Below w.heap.size w (W4.alloc (.cells #[.int .u32 TT, .int .u32 MM, .int .i64 VV, .string SS, .int .i64 L, .int .i64 M] 62))) := HBb.out.trans (hbB.mono HBb.out.size)
  clear hb4 hbB HBb C29 HB1
  go_wp2_with (go_at_call 24; refine Stop.mk ?_)
  refine Stop.out ((c24 _).mono ?_)
  rintro e W5 ⟨x, rfl, hx⟩
  obtain ⟨ao, cp, rfl, _⟩ := row_of (hn.symm ▸ hx.out.1)
  rw [hn]
  have HE5 : Hid (Below W4.heap.size (W4.alloc (.cells #[.int .u32 TT, .int .u32 MM, .int .i64 VV, .string SS, .int .i64 L, .int .i64 M] 62)) W5) := hx.out.2.1.mono (by simp)
  have y4 : W5.cell? ⟨W4.heap.size, 4, none⟩ = some (.int .i64 L) := (hx.out.2.1.cell (by simp)).trans (by simp)
  have y5 : W5.cell? ⟨W4.heap.size, 5, none⟩ = some (.int .i64 M) := (hx.out.2.1.cell (by simp)).trans (by simp)
  have HB5 : Hid (Below w.heap.size w W5) := HB4.out.trans (hx.out.2.1.mono HB4.out.size)
  clear hx c24 hn HE5
  go_wp2_with (go_at_call 7; refine Stop.mk ?_)
  refine Stop.out ((valid_back _ v s (HG.out.on HB5.out)).mono ?_)
  rintro e W9 ⟨r9, rfl, hr9, hf9, hb9⟩
  have HB9 : Hid (Below w.heap.size w W9) := HB5.out.trans (hb9.mono HB5.out.size)
  have HQ : Hid (FltV W9 r9 (vdO v s)) := hf9
  clear hb9 hf9
  rcases hr9 with rfl | ⟨q9, rfl⟩
  · go_wp2
    go_ret
    exact ⟨_, rfl, HQ.out, HB9.out⟩
  · go_wp2
    go_ret
    exact ⟨_, rfl, HQ.out, HB9.out⟩
set_option maxRecDepth 100000 in
set_option maxHeartbeats 8000000 in
theorem fits_bad (w : World) (t : Nat) (v : Int) (s : ByteArray) (a c : Int) (h : bdO v s = some ([(dB, a)], c)) : Calls Tryz.prog 9 #[.int .u32 (t : Int), .int .i64 v, .string s] w (CkP w (some ([(dB, a)], c))) := by
  go_enter Tryz.func9, Tryz.ntmps9
  go_wp2_with (go_at_call 23; refine Stop.mk ?_)
  refine Stop.out ((whole_some _ v s a c h).mono ?_)
  rintro e W1 ⟨q, rfl, hq, hb1⟩
  have HQ : Hid _ := hq
  have HB : Hid _ := hb1
  clear hq hb1
  go_wp2
  go_ret
  exact ⟨_, rfl, HQ.out, HB.out⟩
theorem fits_good (w : World) (t : Nat) (K : Bool) (TT MM VV L M : Int) (SS : ByteArray) (v : Int) (s : ByteArray) (n : Nat) (h : bdO v s = none) (hs : s.size ≤ 65534) (hn : (spT v s).length = n) (hz : 0 < n ↔ s.size ≠ 0) (hM : 0 ≤ M)
    (C29 : ∀ W, Calls Tryz.prog 29 #[.int .u32 (t : Int)] W fun e w' => e = .returned (.tuple #[.agg #[.int .u32 TT, .int .u32 MM, .int .i64 VV, .string SS, .int .i64 L, .int .i64 M], .bool K]) ∧ Below W.heap.size W w') (hG : Gb w) : Calls Tryz.prog 9 #[.int .u32 (t : Int), .int .i64 v, .string s] w (CkP w (if ftB K n L M = true then some ([(dB, (n : Int))], 66) else vdO v s)) := by
  unfold ftB
  cases K with
  | false => rw [Bool.false_and, if_neg (by decide)]; exact fits_un w v s h t TT MM VV L M SS C29 hG
  | true =>
    rw [Bool.true_and]
    by_cases h0 : 0 < n
    · rw [decide_eq_true h0, Bool.true_and]
      have h0' := hz.1 h0
      by_cases h1 : (n : Int) < L
      · rw [decide_eq_true h1, Bool.true_or, if_pos rfl]; exact fits_few w v s n h hs hn t TT MM VV L M SS h0' h1 C29
      · rw [decide_eq_false h1, Bool.false_or]
        by_cases h2 : 0 < M
        · rw [decide_eq_true h2, Bool.true_and]
          by_cases h3 : M < (n : Int)
          · rw [decide_eq_true h3, if_pos rfl]; exact fits_many w v s n h hs hn t TT MM VV L M SS h0' h1 (by omega) h3 C29
          · rw [decide_eq_false h3, if_neg (by decide)]; exact fits_ok w v s n h hs hn t TT MM VV L M SS h0' h1 (by omega) h3 C29 hG
        · rw [decide_eq_false h2, Bool.false_and, if_neg (by decide)]; exact fits_free w v s n h hs hn t TT MM VV L M SS h0' h1 (by omega) C29 hG
    · rw [decide_eq_false h0, Bool.false_and, if_neg (by decide)]
      have h0' : s.size = 0 := by rcases Nat.eq_zero_or_pos s.size with e | e; exact e; exact absurd (hz.2 (by omega)) h0
      exact fits_no w v s h t TT MM VV L M SS h0' C29 hG
/-- What Fits says. -/
def ftO (t : Nat) (v : Int) (s : ByteArray) : Option (List Lk × Int) := match bdO v s with
  | some x => some x
  | none => if ftB (Tb.docF t (Tb.upTo 10)).isSome (spT v s).length (Tb.eL (Tb.docF t (Tb.upTo 10))) (Tb.eN (Tb.docF t (Tb.upTo 10))) = true then some ([(dB, ((spT v s).length : Int))], 66) else vdO v s
theorem rfits_all (w : World) (t : Nat) (ht : t < 4294967296) (v : Int) (s : ByteArray) : Calls Tryz.prog 10 #[.int .u32 (t : Int), .int .i64 v, .string s] w (CkD w (ftO t v s)) := by
  unfold ftO
  rcases bd_cases v s with ⟨h, _, hs⟩ | ⟨a, c, h, hc⟩
  · rw [h]; exact rfits_good w t _ _ _ _ _ _ _ v s _ h hs rfl (fun W => Tb.rfind_any W t ht)
  · rw [h]; exact rfits_bad w t v s a c h hc
theorem sp_pos (v : Int) (s : ByteArray) (h : okV v = true) : 0 < (spT v s).length ↔ s.size ≠ 0 := by
  unfold spT
  constructor
  · intro hp h0
    rw [if_pos (.inr h0)] at hp
    simp at hp
  · intro h0
    rw [if_neg (by simp [h, h0])]
    split
    · simp
    split
    · exact List.length_pos_iff.2 (Sp.spB_ne s)
    · by_cases hq : 0 + (Rp.un (Rp.vn v)).toNat < s.size
      · unfold Sp.pcs
        obtain ⟨m, hm⟩ : ∃ m, s.size = m + 1 := ⟨s.size - 1, by omega⟩
        rw [hm, Sp.pcF]
        split <;> simp
      · rw [Sp.pcs_last hq]; simp
theorem most_all : (Tb.upTo 10).all (fun r => decide (0 ≤ r.m)) = true := by decide +kernel
theorem docF_mem (t : Nat) : ∀ (L : List Tb.Row) (r : Tb.Row), Tb.docF t L = some r → r ∈ L
  | [], r, h => by cases h
  | x :: L, r, h => by
    rw [Tb.docF] at h
    split at h
    · rw [Option.some.inj h]; exact List.mem_cons_self ..
    · split at h
      · cases h
      · exact List.mem_cons_of_mem _ (docF_mem t L r h)
theorem most_pos (t : Nat) : 0 ≤ Tb.eN (Tb.docF t (Tb.upTo 10)) := by
  cases h : Tb.docF t (Tb.upTo 10) with
  | none => exact Int.le_refl _
  | some r =>
    have := List.all_eq_true.1 most_all r (docF_mem t _ r h)
    show 0 ≤ r.m
    simpa using this
theorem fits_all (w : World) (t : Nat) (ht : t < 4294967296) (v : Int) (s : ByteArray) (hG : Gb w) : Calls Tryz.prog 9 #[.int .u32 (t : Int), .int .i64 v, .string s] w (CkP w (ftO t v s)) := by
  unfold ftO
  rcases bd_cases v s with ⟨h, hv, hs⟩ | ⟨a, c, h, hc⟩
  · rw [h]; exact fits_good w t _ _ _ _ _ _ _ v s _ h hs rfl (sp_pos v s hv) (most_pos t) (fun W => Tb.find_any W t ht) hG
  · rw [h]; exact fits_bad w t v s a c h
end Go.Proofs.YteglammdigmmfaaGreatDoor.Ck
