import Derived.Test.YtgdemlebohlolaaGreatDoorNc
/-
  DERIVED. The program: what a field asks for; whether a text may stand in a field.
-/
namespace Go.Proofs.YtgdemlebohlolaaGreatDoor.Ck
open Go Go.Proofs Go.RowKit

/-- The kinds of the texts of a step. -/
def vvL : List Int := [16, 16, 16, 11, 23, 15, 11, 11, 5, 4, 15, 4, 1, 16, 16, 5, 21, 15, 11]
def vv (i : Nat) : Int := vvL.getD i 0
/-- What lies beside the program. -/
structure Gs (w : World) : Prop where
  gb : Gb w
  mt : Tm.Mt w
  tv : ∀ i, i < 19 → w.cell? ⟨0, i, none⟩ = some (.int .i64 (vv i))
  dv : ∀ i, i < 19 → w.cell? ⟨1, i, none⟩ = some (.int .i64 (vv i))
theorem Gs.on {w w' : World} (h : Gs w) (hb : Below w.heap.size w w') : Gs w' :=
  ⟨h.gb.on hb, h.mt.on hb, fun i hi => (hb.cell (clt (h.tv i hi))).trans (h.tv i hi), fun i hi => (hb.cell (clt (h.dv i hi))).trans (h.dv i hi)⟩
def sxB (s : ByteArray) : Bool := s.toList.isEmpty || ((s.toList == [77]) || ((s.toList == [70]) || (s.toList == [79])))
/-- What a field asks for besides its kind. -/
def asB : Nat → ByteArray → Bool
  | 0, s => !s.toList.isEmpty && plG s s.size 0
  | 2, s => !s.toList.isEmpty
  | 4, s => !s.toList.isEmpty
  | 5, s => !s.toList.isEmpty
  | 6, s => !s.toList.isEmpty
  | 11, s => !s.toList.isEmpty
  | 12, s => !s.toList.isEmpty
  | 8, s => s.toList.isEmpty || dyB s
  | 9, s => sxB s
  | 15, s => dyB s
  | 16, s => tiB s && ((s.size : Int) == 6)
  | _, _ => true
set_option maxRecDepth 100000 in
set_option maxHeartbeats 4000000 in
theorem isAsked_0 (w : World) (s : ByteArray) (hs : s.size ≤ 140737488351232) : Calls Tryz.prog 20 #[.int .i64 0, .string s] w fun e w' => e = .returned (.bool (!s.toList.isEmpty && plG s s.size 0)) ∧ Below w.heap.size w w' := by
  have c := isPlain_any w s hs
  generalize plG s s.size 0 = B at *
  cases h0 : s.toList.isEmpty with
  | true =>
    go_enter Tryz.func20, Tryz.ntmps20
    go_wp2
    go_ret
    exact ⟨rfl, Below.refl _ _⟩
  | false =>
    go_enter Tryz.func20, Tryz.ntmps20
    go_wp2_with (go_at_call 36; refine Stop.mk ?_)
    refine Stop.out (c.mono ?_)
    rintro e W1 ⟨rfl, rfl⟩
    go_wp2
    go_ret
    exact ⟨rfl, Below.refl _ _⟩
set_option maxRecDepth 100000 in
set_option maxHeartbeats 4000000 in
theorem isAsked_1 (w : World) (s : ByteArray) : Calls Tryz.prog 20 #[.int .i64 1, .string s] w fun e w' => e = .returned (.bool (true)) ∧ Below w.heap.size w w' := by
  go_enter Tryz.func20, Tryz.ntmps20
  go_wp2
  go_ret
  exact ⟨rfl, Below.refl _ _⟩
set_option maxRecDepth 100000 in
set_option maxHeartbeats 4000000 in
theorem isAsked_2 (w : World) (s : ByteArray) : Calls Tryz.prog 20 #[.int .i64 2, .string s] w fun e w' => e = .returned (.bool (!s.toList.isEmpty)) ∧ Below w.heap.size w w' := by
  cases h0 : s.toList.isEmpty with
  | true =>
    go_enter Tryz.func20, Tryz.ntmps20
    go_wp2
    go_ret
    exact ⟨rfl, Below.refl _ _⟩
  | false =>
    go_enter Tryz.func20, Tryz.ntmps20
    go_wp2
    go_ret
    exact ⟨rfl, Below.refl _ _⟩
set_option maxRecDepth 100000 in
set_option maxHeartbeats 4000000 in
theorem isAsked_3 (w : World) (s : ByteArray) : Calls Tryz.prog 20 #[.int .i64 3, .string s] w fun e w' => e = .returned (.bool (true)) ∧ Below w.heap.size w w' := by
  go_enter Tryz.func20, Tryz.ntmps20
  go_wp2
  go_ret
  exact ⟨rfl, Below.refl _ _⟩
set_option maxRecDepth 100000 in
set_option maxHeartbeats 4000000 in
theorem isAsked_4 (w : World) (s : ByteArray) : Calls Tryz.prog 20 #[.int .i64 4, .string s] w fun e w' => e = .returned (.bool (!s.toList.isEmpty)) ∧ Below w.heap.size w w' := by
  cases h0 : s.toList.isEmpty with
  | true =>
    go_enter Tryz.func20, Tryz.ntmps20
    go_wp2
    go_ret
    exact ⟨rfl, Below.refl _ _⟩
  | false =>
    go_enter Tryz.func20, Tryz.ntmps20
    go_wp2
    go_ret
    exact ⟨rfl, Below.refl _ _⟩
set_option maxRecDepth 100000 in
set_option maxHeartbeats 4000000 in
theorem isAsked_5 (w : World) (s : ByteArray) : Calls Tryz.prog 20 #[.int .i64 5, .string s] w fun e w' => e = .returned (.bool (!s.toList.isEmpty)) ∧ Below w.heap.size w w' := by
  cases h0 : s.toList.isEmpty with
  | true =>
    go_enter Tryz.func20, Tryz.ntmps20
    go_wp2
    go_ret
    exact ⟨rfl, Below.refl _ _⟩
  | false =>
    go_enter Tryz.func20, Tryz.ntmps20
    go_wp2
    go_ret
    exact ⟨rfl, Below.refl _ _⟩
set_option maxRecDepth 100000 in
set_option maxHeartbeats 4000000 in
theorem isAsked_6 (w : World) (s : ByteArray) : Calls Tryz.prog 20 #[.int .i64 6, .string s] w fun e w' => e = .returned (.bool (!s.toList.isEmpty)) ∧ Below w.heap.size w w' := by
  cases h0 : s.toList.isEmpty with
  | true =>
    go_enter Tryz.func20, Tryz.ntmps20
    go_wp2
    go_ret
    exact ⟨rfl, Below.refl _ _⟩
  | false =>
    go_enter Tryz.func20, Tryz.ntmps20
    go_wp2
    go_ret
    exact ⟨rfl, Below.refl _ _⟩
set_option maxRecDepth 100000 in
set_option maxHeartbeats 4000000 in
theorem isAsked_7 (w : World) (s : ByteArray) : Calls Tryz.prog 20 #[.int .i64 7, .string s] w fun e w' => e = .returned (.bool (true)) ∧ Below w.heap.size w w' := by
  go_enter Tryz.func20, Tryz.ntmps20
  go_wp2
  go_ret
  exact ⟨rfl, Below.refl _ _⟩
set_option maxRecDepth 100000 in
set_option maxHeartbeats 4000000 in
theorem isAsked_8 (w : World) (s : ByteArray) (hs : s.size ≤ 140737488351232) (hT : Tm.Mt w) : Calls Tryz.prog 20 #[.int .i64 8, .string s] w fun e w' => e = .returned (.bool (s.toList.isEmpty || dyB s)) ∧ Below w.heap.size w w' := by
  have c := isDay_any w s hs hT
  generalize dyB s = B at *
  clear hT
  cases h0 : s.toList.isEmpty with
  | true =>
    go_enter Tryz.func20, Tryz.ntmps20
    go_wp2
    go_ret
    exact ⟨rfl, Below.refl _ _⟩
  | false =>
    go_enter Tryz.func20, Tryz.ntmps20
    go_wp2_with (go_at_call 37; refine Stop.mk ?_)
    refine Stop.out (c.mono ?_)
    rintro e W1 ⟨rfl, hb⟩
    go_wp2
    go_ret
    exact ⟨rfl, hb⟩
set_option maxRecDepth 100000 in
set_option maxHeartbeats 4000000 in
theorem isAsked_9 (w : World) (s : ByteArray) : Calls Tryz.prog 20 #[.int .i64 9, .string s] w fun e w' => e = .returned (.bool (sxB s)) ∧ Below w.heap.size w w' := by
  unfold sxB
  cases h0 : s.toList.isEmpty with
  | true =>
    go_enter Tryz.func20, Tryz.ntmps20
    go_wp2
    go_ret
    exact ⟨rfl, Below.refl _ _⟩
  | false =>
    cases h1 : (s.toList == [77]) with
    | true =>
      go_enter Tryz.func20, Tryz.ntmps20
      go_wp2
      go_ret
      exact ⟨rfl, Below.refl _ _⟩
    | false =>
      cases h2 : (s.toList == [70]) with
      | true =>
        go_enter Tryz.func20, Tryz.ntmps20
        go_wp2
        go_ret
        exact ⟨rfl, Below.refl _ _⟩
      | false =>
        cases h3 : (s.toList == [79]) with
        | true =>
          go_enter Tryz.func20, Tryz.ntmps20
          go_wp2
          go_ret
          exact ⟨rfl, Below.refl _ _⟩
        | false =>
          go_enter Tryz.func20, Tryz.ntmps20
          go_wp2
          go_ret
          exact ⟨rfl, Below.refl _ _⟩
set_option maxRecDepth 100000 in
set_option maxHeartbeats 4000000 in
theorem isAsked_10 (w : World) (s : ByteArray) : Calls Tryz.prog 20 #[.int .i64 10, .string s] w fun e w' => e = .returned (.bool (true)) ∧ Below w.heap.size w w' := by
  go_enter Tryz.func20, Tryz.ntmps20
  go_wp2
  go_ret
  exact ⟨rfl, Below.refl _ _⟩
set_option maxRecDepth 100000 in
set_option maxHeartbeats 4000000 in
theorem isAsked_11 (w : World) (s : ByteArray) : Calls Tryz.prog 20 #[.int .i64 11, .string s] w fun e w' => e = .returned (.bool (!s.toList.isEmpty)) ∧ Below w.heap.size w w' := by
  cases h0 : s.toList.isEmpty with
  | true =>
    go_enter Tryz.func20, Tryz.ntmps20
    go_wp2
    go_ret
    exact ⟨rfl, Below.refl _ _⟩
  | false =>
    go_enter Tryz.func20, Tryz.ntmps20
    go_wp2
    go_ret
    exact ⟨rfl, Below.refl _ _⟩
set_option maxRecDepth 100000 in
set_option maxHeartbeats 4000000 in
theorem isAsked_12 (w : World) (s : ByteArray) : Calls Tryz.prog 20 #[.int .i64 12, .string s] w fun e w' => e = .returned (.bool (!s.toList.isEmpty)) ∧ Below w.heap.size w w' := by
  cases h0 : s.toList.isEmpty with
  | true =>
    go_enter Tryz.func20, Tryz.ntmps20
    go_wp2
    go_ret
    exact ⟨rfl, Below.refl _ _⟩
  | false =>
    go_enter Tryz.func20, Tryz.ntmps20
    go_wp2
    go_ret
    exact ⟨rfl, Below.refl _ _⟩
set_option maxRecDepth 100000 in
set_option maxHeartbeats 4000000 in
theorem isAsked_13 (w : World) (s : ByteArray) : Calls Tryz.prog 20 #[.int .i64 13, .string s] w fun e w' => e = .returned (.bool (true)) ∧ Below w.heap.size w w' := by
  go_enter Tryz.func20, Tryz.ntmps20
  go_wp2
  go_ret
  exact ⟨rfl, Below.refl _ _⟩
set_option maxRecDepth 100000 in
set_option maxHeartbeats 4000000 in
theorem isAsked_14 (w : World) (s : ByteArray) : Calls Tryz.prog 20 #[.int .i64 14, .string s] w fun e w' => e = .returned (.bool (true)) ∧ Below w.heap.size w w' := by
  go_enter Tryz.func20, Tryz.ntmps20
  go_wp2
  go_ret
  exact ⟨rfl, Below.refl _ _⟩
set_option maxRecDepth 100000 in
set_option maxHeartbeats 4000000 in
theorem isAsked_15 (w : World) (s : ByteArray) (hs : s.size ≤ 140737488351232) (hT : Tm.Mt w) : Calls Tryz.prog 20 #[.int .i64 15, .string s] w fun e w' => e = .returned (.bool (dyB s)) ∧ Below w.heap.size w w' := by
  have c := isDay_any w s hs hT
  generalize (dyB s) = B at *
  clear hT
  go_enter Tryz.func20, Tryz.ntmps20
  go_wp2_with (go_at_call 37; refine Stop.mk ?_)
  refine Stop.out (c.mono ?_)
  rintro e W1 ⟨rfl, hb⟩
  go_wp2
  go_ret
  exact ⟨rfl, hb⟩
set_option maxRecDepth 100000 in
set_option maxHeartbeats 4000000 in
theorem isAsked_16 (w : World) (s : ByteArray) (hs : s.size ≤ 140737488351232) (hT : Tm.Mt w) : Calls Tryz.prog 20 #[.int .i64 16, .string s] w fun e w' => e = .returned (.bool (tiB s && ((s.size : Int) == 6))) ∧ Below w.heap.size w w' := by
  have c := isSecond_any w s hs hT
  generalize (tiB s && ((s.size : Int) == 6)) = B at *
  clear hT
  go_enter Tryz.func20, Tryz.ntmps20
  go_wp2_with (go_at_call 38; refine Stop.mk ?_)
  refine Stop.out (c.mono ?_)
  rintro e W1 ⟨rfl, hb⟩
  go_wp2
  go_ret
  exact ⟨rfl, hb⟩
set_option maxRecDepth 100000 in
set_option maxHeartbeats 4000000 in
theorem isAsked_17 (w : World) (s : ByteArray) : Calls Tryz.prog 20 #[.int .i64 17, .string s] w fun e w' => e = .returned (.bool (true)) ∧ Below w.heap.size w w' := by
  go_enter Tryz.func20, Tryz.ntmps20
  go_wp2
  go_ret
  exact ⟨rfl, Below.refl _ _⟩
set_option maxRecDepth 100000 in
set_option maxHeartbeats 4000000 in
theorem isAsked_18 (w : World) (s : ByteArray) : Calls Tryz.prog 20 #[.int .i64 18, .string s] w fun e w' => e = .returned (.bool (true)) ∧ Below w.heap.size w w' := by
  go_enter Tryz.func20, Tryz.ntmps20
  go_wp2
  go_ret
  exact ⟨rfl, Below.refl _ _⟩
theorem i19 {i : Nat} (hi : i < 19) : i = 0 ∨ i = 1 ∨ i = 2 ∨ i = 3 ∨ i = 4 ∨ i = 5 ∨ i = 6 ∨ i = 7 ∨ i = 8 ∨ i = 9 ∨ i = 10 ∨ i = 11 ∨ i = 12 ∨ i = 13 ∨ i = 14 ∨ i = 15 ∨ i = 16 ∨ i = 17 ∨ i = 18 := by omega
theorem isAsked_any (w : World) (i : Nat) (hi : i < 19) (s : ByteArray) (hs : s.size ≤ 140737488351232) (hT : Tm.Mt w) : Calls Tryz.prog 20 #[.int .i64 (i : Int), .string s] w fun e w' => e = .returned (.bool (asB i s)) ∧ Below w.heap.size w w' := by
  rcases i19 hi with rfl | rfl | rfl | rfl | rfl | rfl | rfl | rfl | rfl | rfl | rfl | rfl | rfl | rfl | rfl | rfl | rfl | rfl | rfl
  · exact isAsked_0 w s hs
  · exact isAsked_1 w s
  · exact isAsked_2 w s
  · exact isAsked_3 w s
  · exact isAsked_4 w s
  · exact isAsked_5 w s
  · exact isAsked_6 w s
  · exact isAsked_7 w s
  · exact isAsked_8 w s hs hT
  · exact isAsked_9 w s
  · exact isAsked_10 w s
  · exact isAsked_11 w s
  · exact isAsked_12 w s
  · exact isAsked_13 w s
  · exact isAsked_14 w s
  · exact isAsked_15 w s hs hT
  · exact isAsked_16 w s hs hT
  · exact isAsked_17 w s
  · exact isAsked_18 w s
/-- A text without its padding. -/
def trT (v : Int) (s : ByteArray) : ByteArray := if Rp.tx (Rp.vn v) then Rp.trimB s else s
/-- May a text stand in a field? -/
def tfB (i : Nat) (s : ByteArray) : Bool := !hasB s && (((trT (vv i) s).toList == s.toList) && ((ckK (vv i) s).isNone && asB i s))
theorem check_er (w : World) (v : Int) (s : ByteArray) (hs : s.size ≤ 140737488351232) (hG : Gb w) : Calls Tryz.prog 19 #[.int .i64 v, .string s] w fun e w' => ∃ r, e = .returned r ∧ ErV (ckK v s).isNone r ∧ Below w.heap.size w w' := by
  refine (check_any w v s hs hG).mono ?_
  rintro e W ⟨r, rfl, hf, hb⟩
  refine ⟨r, rfl, ?_, hb⟩
  unfold ckK ckO at *
  split at hf
  · rename_i h; rw [if_pos h]; obtain ⟨q, _, h1, _⟩ := hf; exact .inr ⟨rfl, q, h1⟩
  rename_i h; rw [if_neg h]
  split at hf
  · rename_i h; rw [if_pos h]; exact .inl ⟨rfl, hf⟩
  rename_i h; rw [if_neg h]
  split at hf
  · rename_i h; rw [if_pos h]; obtain ⟨q, _, h1, _⟩ := hf; exact .inr ⟨rfl, q, h1⟩
  rename_i h; rw [if_neg h]
  split at hf
  · rename_i h; rw [if_pos h]; obtain ⟨q, _, h1, _⟩ := hf; exact .inr ⟨rfl, q, h1⟩
  rename_i h; rw [if_neg h]
  split at hf
  · rename_i h; rw [if_pos h]; exact .inl ⟨rfl, hf⟩
  · rename_i h; rw [if_neg h]; obtain ⟨q, _, h1, _⟩ := hf; exact .inr ⟨rfl, q, h1⟩
set_option maxRecDepth 100000 in
set_option maxHeartbeats 4000000 in
theorem textFits_any (w : World) (i : Nat) (hi : i < 19) (s : ByteArray) (hs : s.size ≤ 140737488351232) (hG : Gs w) : Calls Tryz.prog 10 #[.int .i64 (i : Int), .string s] w fun e w' => e = .returned (.bool (tfB i s)) ∧ Below w.heap.size w w' := by
  unfold tfB
  have c17 := contains_b w s
  have c18 : Calls Tryz.prog 18 #[.int .i64 (vv i), .string s] w fun e w' => e = .returned (.string (trT (vv i) s)) ∧ Below w.heap.size w w' := Rp.trim_any w (vv i) s hs
  have HC : Hid (∀ W, Gs W → Calls Tryz.prog 19 #[.int .i64 (vv i), .string s] W fun e w' => ∃ r, e = .returned r ∧ ErV (ckK (vv i) s).isNone r ∧ Below W.heap.size W w') := fun W h => check_er W (vv i) s hs h.gb
  have HA : Hid (∀ W, Gs W → Calls Tryz.prog 20 #[.int .i64 (i : Int), .string s] W fun e w' => e = .returned (.bool (asB i s)) ∧ Below W.heap.size W w') := fun W h => isAsked_any W i hi s hs h.mt
  have g0 := hG.tv i hi
  have HG : Hid (Gs w) := hG
  have iI : (i : Int) < 19 := by omega
  generalize vv i = v at *
  generalize trT v s = T at *
  generalize (ckK v s).isNone = K at *
  generalize asB i s = A at *
  clear hG hs
  cases hB : hasB s with
  | true =>
    rw [hB] at c17
    clear hB c18
    go_enter Tryz.func10, Tryz.ntmps10
    go_wp2_with (go_at_call 17; refine Stop.mk ?_)
    refine Stop.out (c17.mono ?_)
    rintro e W1 ⟨rfl, rfl⟩
    go_wp2
    go_ret
    exact ⟨rfl, Below.refl _ _⟩
  | false =>
    rw [hB] at c17
    clear hB
    cases hq : (T.toList == s.toList) with
    | false =>
      go_enter Tryz.func10, Tryz.ntmps10
      go_wp2_with (go_at_call 17; refine Stop.mk ?_)
      refine Stop.out (c17.mono ?_)
      rintro e W1 ⟨rfl, rfl⟩
      go_wp2_with (go_at_call 18; refine Stop.mk ?_)
      refine Stop.out (c18.mono ?_)
      rintro e W2 ⟨rfl, hb2⟩
      go_wp2
      go_ret
      exact ⟨rfl, hb2⟩
    | true =>
      go_enter Tryz.func10, Tryz.ntmps10
      go_wp2_with (go_at_call 17; refine Stop.mk ?_)
      refine Stop.out (c17.mono ?_)
      rintro e W1 ⟨rfl, rfl⟩
      go_wp2_with (go_at_call 18; refine Stop.mk ?_)
      refine Stop.out (c18.mono ?_)
      rintro e W2 ⟨rfl, hb2⟩
      have HB2 : Hid _ := hb2
      clear hb2
      go_wp2_with (go_at_call 19; refine Stop.mk ?_)
      refine Stop.out ((HC.out _ (HG.out.on HB2.out)).mono ?_)
      rintro e W3 ⟨r, rfl, hr, hb3⟩
      have HB3 : Hid (Below W1.heap.size W1 W3) := HB2.out.trans (hb3.mono HB2.out.size)
      clear hb3
      rcases hr with ⟨rfl, rfl⟩ | ⟨rfl, q, rfl⟩
      · go_wp2_with (go_at_call 20; refine Stop.mk ?_)
        refine Stop.out ((HA.out _ (HG.out.on HB3.out)).mono ?_)
        rintro e W4 ⟨rfl, hb4⟩
        have HB4 : Hid (Below W1.heap.size W1 W4) := HB3.out.trans (hb4.mono HB3.out.size)
        clear hb4
        go_wp2
        go_ret
        exact ⟨rfl, HB4.out⟩
      · go_wp2
        go_ret
        exact ⟨rfl, HB3.out⟩
end Go.Proofs.YtgdemlebohlolaaGreatDoor.Ck
