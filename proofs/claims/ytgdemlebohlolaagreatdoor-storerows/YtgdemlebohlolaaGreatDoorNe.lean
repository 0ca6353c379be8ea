import Derived.Test.YtgdemlebohlolaaGreatDoorNd
import Derived.Test.YtgdemlebohlolaaGreatDoorQTn
/-
  DERIVED. The document: whether a text may stand in a field.
-/
namespace Go.Proofs.YtgdemlebohlolaaGreatDoor.Ck
open Go Go.Proofs Go.RowKit

set_option maxRecDepth 100000 in
theorem rany_fl (w : World) (b : Bool) (v : Value) (h : FlV b v) : Calls Tryz.prog 40 #[v] w fun e w' => e = .returned (.bool (!b)) ∧ Below w.heap.size w w' := by
  rcases h with ⟨rfl, rfl⟩ | ⟨rfl, g, k, c, rfl⟩
  · go_enter Tryz.func40, Tryz.ntmps40
    go_wp2
    go_ret
    exact ⟨rfl, (Below.refl _ _).alloc (Nat.le_refl _) _⟩
  · by_cases hc : c = 0
    · subst hc
      go_enter Tryz.func40, Tryz.ntmps40
      go_wp2
      go_ret
      exact ⟨rfl, (Below.refl _ _).alloc (Nat.le_refl _) _⟩
    · have h0 : (c != 0) = true := by simpa using hc
      have h1 : (c == 0) = false := beq_eq_false_iff_ne.2 hc
      go_enter Tryz.func40, Tryz.ntmps40
      go_wp2
      go_ret
      exact ⟨rfl, (Below.refl _ _).alloc (Nat.le_refl _) _⟩
set_option maxRecDepth 100000 in
theorem fine_any (w : World) (b : Bool) (v : Value) (h : FlV b v) : Calls Tryz.prog 23 #[v] w fun e w' => e = .returned (.bool b) ∧ Below w.heap.size w w' := by
  have c := fun W => rany_fl W b v h
  rcases h with ⟨rfl, rfl⟩ | ⟨rfl, g, k, x, rfl⟩
  · go_enter Tryz.func23, Tryz.ntmps23
    go_wp2_with (go_at_call 40; refine Stop.mk ?_)
    refine Stop.out ((c _).mono ?_)
    rintro e W1 ⟨rfl, hb⟩
    have HB : Hid (Below w.heap.size w W1) := ((Below.refl _ _).alloc (Nat.le_refl _) _).trans (hb.mono (by simp))
    clear hb
    go_wp2
    go_ret
    exact ⟨rfl, HB.out⟩
  · go_enter Tryz.func23, Tryz.ntmps23
    go_wp2_with (go_at_call 40; refine Stop.mk ?_)
    refine Stop.out ((c _).mono ?_)
    rintro e W1 ⟨rfl, hb⟩
    have HB : Hid (Below w.heap.size w W1) := ((Below.refl _ _).alloc (Nat.le_refl _) _).trans (hb.mono (by simp))
    clear hb
    go_wp2
    go_ret
    exact ⟨rfl, HB.out⟩
theorem rcheck_fl (w : World) (v : Int) (s : ByteArray) (hs : s.size ≤ 140737488351232) : Calls Tryz.prog 24 #[.int .i64 v, .string s] w fun e w' => ∃ r, e = .returned r ∧ FlV (ckK v s).isNone r ∧ Below w.heap.size w w' := by
  refine (rcheck_any w v s hs).mono ?_
  rintro e W ⟨r, rfl, hf, hb⟩
  refine ⟨r, rfl, ?_, hb⟩
  unfold ckK ckO at *
  split at hf
  · rename_i h; rw [if_pos h]; obtain ⟨g, k, h1, _⟩ := hf; exact .inr ⟨rfl, g, k, _, h1⟩
  rename_i h; rw [if_neg h]
  split at hf
  · rename_i h; rw [if_pos h]; exact .inl ⟨rfl, hf⟩
  rename_i h; rw [if_neg h]
  split at hf
  · rename_i h; rw [if_pos h]; obtain ⟨g, k, h1, _⟩ := hf; exact .inr ⟨rfl, g, k, _, h1⟩
  rename_i h; rw [if_neg h]
  split at hf
  · rename_i h; rw [if_pos h]; obtain ⟨g, k, h1, _⟩ := hf; exact .inr ⟨rfl, g, k, _, h1⟩
  rename_i h; rw [if_neg h]
  split at hf
  · rename_i h; rw [if_pos h]; exact .inl ⟨rfl, hf⟩
  · rename_i h; rw [if_neg h]; obtain ⟨g, k, h1, _⟩ := hf; exact .inr ⟨rfl, g, k, _, h1⟩
theorem rdate_fl (w : World) (s : ByteArray) (hs : s.size ≤ 140737488351232) : Calls Tryz.prog 26 #[.string s] w fun e w' => ∃ x0 x1 x2 v, e = .returned (.tuple #[.agg #[.int .i64 x0, .int .i64 x1, .int .i64 x2], v]) ∧ FlV (dyB s) v ∧ Below w.heap.size w w' := by
  refine (Tm.parse11_any w s hs).mono ?_
  rintro e W ⟨v, rfl, hv, hb⟩
  unfold Tm.rd
  split
  · exact ⟨_, _, _, v, rfl, fl_of hv, hb⟩
  · exact ⟨_, _, _, v, rfl, fl_of hv, hb⟩
theorem rtime_fl (w : World) (s : ByteArray) (hs : s.size ≤ 140737488351232) : Calls Tryz.prog 27 #[.string s] w fun e w' => ∃ x0 x1 x2 x3 x4 v, e = .returned (.tuple #[.agg #[.int .i64 x0, .int .i64 x1, .int .i64 x2, .int .i64 x3, .int .i64 x4], v]) ∧ FlV (tiB s) v ∧ Below w.heap.size w w' := by
  refine (Tm.parse17_any w s hs).mono ?_
  rintro e W ⟨v, rfl, hv, hb⟩
  exact ⟨_, _, _, _, _, v, rfl, fl_of hv, hb⟩
def ndB (i : Nat) : Bool := [0, 2, 4, 5, 6, 11, 12, 15, 16].contains i
theorem needed_0 (w : World) : Calls Tryz.prog 21 #[.int .i64 0] w fun e w' => e = .returned (.bool true) ∧ w = w' := by
  go_enter Tryz.func21, Tryz.ntmps21
  go_wp2
  go_ret
  exact ⟨rfl, rfl⟩
theorem needed_1 (w : World) : Calls Tryz.prog 21 #[.int .i64 1] w fun e w' => e = .returned (.bool false) ∧ w = w' := by
  go_enter Tryz.func21, Tryz.ntmps21
  go_wp2
  go_ret
  exact ⟨rfl, rfl⟩
theorem needed_2 (w : World) : Calls Tryz.prog 21 #[.int .i64 2] w fun e w' => e = .returned (.bool true) ∧ w = w' := by
  go_enter Tryz.func21, Tryz.ntmps21
  go_wp2
  go_ret
  exact ⟨rfl, rfl⟩
theorem needed_3 (w : World) : Calls Tryz.prog 21 #[.int .i64 3] w fun e w' => e = .returned (.bool false) ∧ w = w' := by
  go_enter Tryz.func21, Tryz.ntmps21
  go_wp2
  go_ret
  exact ⟨rfl, rfl⟩
theorem needed_4 (w : World) : Calls Tryz.prog 21 #[.int .i64 4] w fun e w' => e = .returned (.bool true) ∧ w = w' := by
  go_enter Tryz.func21, Tryz.ntmps21
  go_wp2
  go_ret
  exact ⟨rfl, rfl⟩
theorem needed_5 (w : World) : Calls Tryz.prog 21 #[.int .i64 5] w fun e w' => e = .returned (.bool true) ∧ w = w' := by
  go_enter Tryz.func21, Tryz.ntmps21
  go_wp2
  go_ret
  exact ⟨rfl, rfl⟩
theorem needed_6 (w : World) : Calls Tryz.prog 21 #[.int .i64 6] w fun e w' => e = .returned (.bool true) ∧ w = w' := by
  go_enter Tryz.func21, Tryz.ntmps21
  go_wp2
  go_ret
  exact ⟨rfl, rfl⟩
theorem needed_7 (w : World) : Calls Tryz.prog 21 #[.int .i64 7] w fun e w' => e = .returned (.bool false) ∧ w = w' := by
  go_enter Tryz.func21, Tryz.ntmps21
  go_wp2
  go_ret
  exact ⟨rfl, rfl⟩
theorem needed_8 (w : World) : Calls Tryz.prog 21 #[.int .i64 8] w fun e w' => e = .returned (.bool false) ∧ w = w' := by
  go_enter Tryz.func21, Tryz.ntmps21
  go_wp2
  go_ret
  exact ⟨rfl, rfl⟩
theorem needed_9 (w : World) : Calls Tryz.prog 21 #[.int .i64 9] w fun e w' => e = .returned (.bool false) ∧ w = w' := by
  go_enter Tryz.func21, Tryz.ntmps21
  go_wp2
  go_ret
  exact ⟨rfl, rfl⟩
theorem needed_10 (w : World) : Calls Tryz.prog 21 #[.int .i64 10] w fun e w' => e = .returned (.bool false) ∧ w = w' := by
  go_enter Tryz.func21, Tryz.ntmps21
  go_wp2
  go_ret
  exact ⟨rfl, rfl⟩
theorem needed_11 (w : World) : Calls Tryz.prog 21 #[.int .i64 11] w fun e w' => e = .returned (.bool true) ∧ w = w' := by
  go_enter Tryz.func21, Tryz.ntmps21
  go_wp2
  go_ret
  exact ⟨rfl, rfl⟩
theorem needed_12 (w : World) : Calls Tryz.prog 21 #[.int .i64 12] w fun e w' => e = .returned (.bool true) ∧ w = w' := by
  go_enter Tryz.func21, Tryz.ntmps21
  go_wp2
  go_ret
  exact ⟨rfl, rfl⟩
theorem needed_13 (w : World) : Calls Tryz.prog 21 #[.int .i64 13] w fun e w' => e = .returned (.bool false) ∧ w = w' := by
  go_enter Tryz.func21, Tryz.ntmps21
  go_wp2
  go_ret
  exact ⟨rfl, rfl⟩
theorem needed_14 (w : World) : Calls Tryz.prog 21 #[.int .i64 14] w fun e w' => e = .returned (.bool false) ∧ w = w' := by
  go_enter Tryz.func21, Tryz.ntmps21
  go_wp2
  go_ret
  exact ⟨rfl, rfl⟩
theorem needed_15 (w : World) : Calls Tryz.prog 21 #[.int .i64 15] w fun e w' => e = .returned (.bool true) ∧ w = w' := by
  go_enter Tryz.func21, Tryz.ntmps21
  go_wp2
  go_ret
  exact ⟨rfl, rfl⟩
theorem needed_16 (w : World) : Calls Tryz.prog 21 #[.int .i64 16] w fun e w' => e = .returned (.bool true) ∧ w = w' := by
  go_enter Tryz.func21, Tryz.ntmps21
  go_wp2
  go_ret
  exact ⟨rfl, rfl⟩
theorem needed_17 (w : World) : Calls Tryz.prog 21 #[.int .i64 17] w fun e w' => e = .returned (.bool false) ∧ w = w' := by
  go_enter Tryz.func21, Tryz.ntmps21
  go_wp2
  go_ret
  exact ⟨rfl, rfl⟩
theorem needed_18 (w : World) : Calls Tryz.prog 21 #[.int .i64 18] w fun e w' => e = .returned (.bool false) ∧ w = w' := by
  go_enter Tryz.func21, Tryz.ntmps21
  go_wp2
  go_ret
  exact ⟨rfl, rfl⟩
theorem needed_any (w : World) (i : Nat) (hi : i < 19) : Calls Tryz.prog 21 #[.int .i64 (i : Int)] w fun e w' => e = .returned (.bool (ndB i)) ∧ w = w' := by
  rcases i19 hi with rfl | rfl | rfl | rfl | rfl | rfl | rfl | rfl | rfl | rfl | rfl | rfl | rfl | rfl | rfl | rfl | rfl | rfl | rfl
  · exact needed_0 w
  · exact needed_1 w
  · exact needed_2 w
  · exact needed_3 w
  · exact needed_4 w
  · exact needed_5 w
  · exact needed_6 w
  · exact needed_7 w
  · exact needed_8 w
  · exact needed_9 w
  · exact needed_10 w
  · exact needed_11 w
  · exact needed_12 w
  · exact needed_13 w
  · exact needed_14 w
  · exact needed_15 w
  · exact needed_16 w
  · exact needed_17 w
  · exact needed_18 w
/-- What the document asks of a field at last. -/
def swB : Nat → ByteArray → Bool
  | 0, s => plG s s.size 0
  | 8, s => s.toList.isEmpty || dyB s
  | 15, s => s.toList.isEmpty || dyB s
  | 9, s => sxB s
  | 16, s => ((s.size : Int) == 6) && tiB s
  | _, _ => true
def gtB (n : Bool) (v : Int) (z : Bool) (s : ByteArray) : Bool := !hasB s && (!(n && s.toList.isEmpty) && (((trT v s).toList == s.toList) && ((ckK v s).isNone && z)))
set_option maxRecDepth 100000 in
set_option maxHeartbeats 8000000 in
theorem good_none (w : World) (i : Nat) (hi : i < 19) (s : ByteArray) (hs : s.size ≤ 140737488351232) (hG : Gs w) (k0 : ((i : Int) == 0) = false) (k8 : ((i : Int) == 8) = false) (k15 : ((i : Int) == 15) = false) (k9 : ((i : Int) == 9) = false) (k16 : ((i : Int) == 16) = false) : Calls Tryz.prog 14 #[.int .i64 (i : Int), .string s] w fun e w' => e = .returned (.bool (gtB (ndB i) (vv i) (true) s)) ∧ Below w.heap.size w w' := by
  unfold gtB
  have c21 := needed_any w i hi
  have c22 : Calls Tryz.prog 22 #[.int .i64 (vv i), .string s] w fun e w' => e = .returned (.string (trT (vv i) s)) ∧ Below w.heap.size w w' := Rp.rtrim_any w (vv i) s hs
  have HC : Hid (∀ W, Calls Tryz.prog 24 #[.int .i64 (vv i), .string s] W fun e w' => ∃ r, e = .returned r ∧ FlV (ckK (vv i) s).isNone r ∧ Below W.heap.size W w') := fun W => rcheck_fl W (vv i) s hs
  have g1 := hG.dv i hi
  have HG : Hid (Gs w) := hG
  have iI : (i : Int) < 19 := by omega
  obtain ⟨R, hR⟩ : ∃ R, hasB s = R := ⟨_, rfl⟩
  have HR : Hid (hsG s s.size 0 = R) := (hs_has s).trans hR
  rw [hR]
  clear hR
  generalize ndB i = D at *
  generalize vv i = v at *
  generalize trT v s = T at *
  generalize (ckK v s).isNone = K at *
  obtain ⟨Z, hZ⟩ : ∃ Z, (!R && (!(D && s.toList.isEmpty) && ((T.toList == s.toList) && (K && (true))))) = Z := ⟨_, rfl⟩
  have HZ : Hid _ := hZ
  rw [hZ]
  clear hG hZ
  go_enter Tryz.func14, Tryz.ntmps14
  go_wp2
  go_loopg [5] s.size (fun k s5 wx => ∃ j f : Nat, s5 = .int .i64 (j : Int) ∧ j ≤ s.size ∧ k + j = s.size ∧ s.size ≤ j + f ∧ Hid (hsG s f j = R) ∧ wx = w)
  case atStart => exact ⟨0, s.size, rfl, by omega, by omega, by omega, HR, rfl⟩
  case round =>
    clear HR
    obtain ⟨j, f, rfl, hj, hg, hf, HI, rfl⟩ := hrel
    by_cases hlt : j < s.size
    · have jI : (j : Int) < (s.size : Int) := by omega
      obtain ⟨b, hb⟩ : ∃ b, s[j].toNat = b := ⟨_, rfl⟩
      have hgb : (s.get! j).toNat = b := by rw [← get_get! s j hlt, hb]
      obtain ⟨f, rfl⟩ : ∃ f', f = f' + 1 := ⟨f - 1, by omega⟩
      have HI2 : Hid ((if b = 92 then true else hsG s f (j + 1)) = R) := by
        have := HI.out
        rw [hsG, if_pos hlt, hgb] at this
        exact this
      clear HI hgb
      by_cases h1 : b = 92
      · have i1 : ((b : Int) == 92) = true := by rw [h1]; rfl
        obtain rfl : R = true := by have := HI2.out; rw [if_pos h1] at this; exact this.symm
        clear HI2 h1
        go_wp2
        go_ret
        exact ⟨by rw [← HZ.out]; rfl, Below.refl _ _⟩
      · have i1 : ((b : Int) == 92) = false := beq_eq_false_iff_ne.2 (by omega)
        have HI3 : Hid (hsG s f (j + 1) = R) := by have := HI2.out; rw [if_neg h1] at this; exact this
        clear HI2
        go_wp2
        go_roundg (s.size - (j + 1))
        case measure => omega
        case rel => exact ⟨j + 1, f, by simp, by omega, by omega, by omega, HI3, rfl⟩
    · have jI : ¬ ((j : Int) < (s.size : Int)) := by omega
      obtain rfl : R = false := by
        have := HI.out
        cases f with
        | zero => exact this.symm
        | succ f => rw [hsG, if_neg hlt] at this; exact this.symm
      clear HI
      cases h0 : s.toList.isEmpty with
      | true =>
        cases D with
        | true =>
          go_wp2_with (go_at_call 21; refine Stop.mk ?_)
          refine Stop.out (c21.mono ?_)
          rintro e W1 ⟨rfl, rfl⟩
          go_wp2
          go_ret
          exact ⟨by rw [← HZ.out, h0]; rfl, Below.refl _ _⟩
        | false =>
          cases hq : (T.toList == s.toList) with
          | false =>
            have hq2 : (T.toList != s.toList) = true := by rw [bne, hq]; rfl
            go_wp2_with (go_at_call 21; refine Stop.mk ?_)
            refine Stop.out (c21.mono ?_)
            rintro e W1 ⟨rfl, rfl⟩
            go_wp2_with (go_at_call 22; refine Stop.mk ?_)
            refine Stop.out (c22.mono ?_)
            rintro e W2 ⟨rfl, hb2⟩
            go_wp2
            go_ret
            exact ⟨by rw [← HZ.out]; (try rw [h0]); (try rw [hq]); (try rw [h77]); (try rw [h70]); (try rw [h79]); (try rw [h6]); first | rfl | simp, hb2⟩
          | true =>
            have hq2 : (T.toList != s.toList) = false := by rw [bne, hq]; rfl
            go_wp2_with (go_at_call 21; refine Stop.mk ?_)
            refine Stop.out (c21.mono ?_)
            rintro e W1 ⟨rfl, rfl⟩
            go_wp2_with (go_at_call 22; refine Stop.mk ?_)
            refine Stop.out (c22.mono ?_)
            rintro e W2 ⟨rfl, hb2⟩
            have g2 : W2.cell? ⟨1, i, none⟩ = some (.int .i64 v) := (hb2.cell (clt g1)).trans g1
            have HB2 : Hid _ := hb2
            clear hb2
            go_wp2_with (go_at_call 24; refine Stop.mk ?_)
            refine Stop.out ((HC.out _).mono ?_)
            rintro e W3 ⟨r, rfl, hr, hb3⟩
            have HB3 : Hid (Below wr.heap.size wr W3) := HB2.out.trans (hb3.mono HB2.out.size)
            clear hb3
            have c23 := fun W => fine_any W K r hr
            have hr2 := hr
            clear hr
            go_wp2_with (go_at_call 23; refine Stop.mk ?_)
            refine Stop.out ((c23 _).mono ?_)
            rintro e W4 ⟨rfl, hb4⟩
            have HB4 : Hid (Below wr.heap.size wr W4) := HB3.out.trans (hb4.mono HB3.out.size)
            clear hb4 c23
            cases K with
            | false =>
              go_wp2
              go_ret
              exact ⟨by rw [← HZ.out]; (try rw [h0]); (try rw [hq]); (try rw [h77]); (try rw [h70]); (try rw [h79]); (try rw [h6]); first | rfl | simp, HB4.out⟩
            | true =>
              go_wp2
              go_ret
              exact ⟨by rw [← HZ.out]; (try rw [h0]); (try rw [hq]); (try rw [h77]); (try rw [h70]); (try rw [h79]); (try rw [h6]); first | rfl | simp, HB4.out⟩
      | false =>
        cases D with
        | true =>
          cases hq : (T.toList == s.toList) with
          | false =>
            have hq2 : (T.toList != s.toList) = true := by rw [bne, hq]; rfl
            go_wp2_with (go_at_call 21; refine Stop.mk ?_)
            refine Stop.out (c21.mono ?_)
            rintro e W1 ⟨rfl, rfl⟩
            go_wp2_with (go_at_call 22; refine Stop.mk ?_)
            refine Stop.out (c22.mono ?_)
            rintro e W2 ⟨rfl, hb2⟩
            go_wp2
            go_ret
            exact ⟨by rw [← HZ.out]; (try rw [h0]); (try rw [hq]); (try rw [h77]); (try rw [h70]); (try rw [h79]); (try rw [h6]); first | rfl | simp, hb2⟩
          | true =>
            have hq2 : (T.toList != s.toList) = false := by rw [bne, hq]; rfl
            go_wp2_with (go_at_call 21; refine Stop.mk ?_)
            refine Stop.out (c21.mono ?_)
            rintro e W1 ⟨rfl, rfl⟩
            go_wp2_with (go_at_call 22; refine Stop.mk ?_)
            refine Stop.out (c22.mono ?_)
            rintro e W2 ⟨rfl, hb2⟩
            have g2 : W2.cell? ⟨1, i, none⟩ = some (.int .i64 v) := (hb2.cell (clt g1)).trans g1
            have HB2 : Hid _ := hb2
            clear hb2
            go_wp2_with (go_at_call 24; refine Stop.mk ?_)
            refine Stop.out ((HC.out _).mono ?_)
            rintro e W3 ⟨r, rfl, hr, hb3⟩
            have HB3 : Hid (Below wr.heap.size wr W3) := HB2.out.trans (hb3.mono HB2.out.size)
            clear hb3
            have c23 := fun W => fine_any W K r hr
            have hr2 := hr
            clear hr
            go_wp2_with (go_at_call 23; refine Stop.mk ?_)
            refine Stop.out ((c23 _).mono ?_)
            rintro e W4 ⟨rfl, hb4⟩
            have HB4 : Hid (Below wr.heap.size wr W4) := HB3.out.trans (hb4.mono HB3.out.size)
            clear hb4 c23
            cases K with
            | false =>
              go_wp2
              go_ret
              exact ⟨by rw [← HZ.out]; (try rw [h0]); (try rw [hq]); (try rw [h77]); (try rw [h70]); (try rw [h79]); (try rw [h6]); first | rfl | simp, HB4.out⟩
            | true =>
              go_wp2
              go_ret
              exact ⟨by rw [← HZ.out]; (try rw [h0]); (try rw [hq]); (try rw [h77]); (try rw [h70]); (try rw [h79]); (try rw [h6]); first | rfl | simp, HB4.out⟩
        | false =>
          cases hq : (T.toList == s.toList) with
          | false =>
            have hq2 : (T.toList != s.toList) = true := by rw [bne, hq]; rfl
            go_wp2_with (go_at_call 21; refine Stop.mk ?_)
            refine Stop.out (c21.mono ?_)
            rintro e W1 ⟨rfl, rfl⟩
            go_wp2_with (go_at_call 22; refine Stop.mk ?_)
            refine Stop.out (c22.mono ?_)
            rintro e W2 ⟨rfl, hb2⟩
            go_wp2
            go_ret
            exact ⟨by rw [← HZ.out]; (try rw [h0]); (try rw [hq]); (try rw [h77]); (try rw [h70]); (try rw [h79]); (try rw [h6]); first | rfl | simp, hb2⟩
          | true =>
            have hq2 : (T.toList != s.toList) = false := by rw [bne, hq]; rfl
            go_wp2_with (go_at_call 21; refine Stop.mk ?_)
            refine Stop.out (c21.mono ?_)
            rintro e W1 ⟨rfl, rfl⟩
            go_wp2_with (go_at_call 22; refine Stop.mk ?_)
            refine Stop.out (c22.mono ?_)
            rintro e W2 ⟨rfl, hb2⟩
            have g2 : W2.cell? ⟨1, i, none⟩ = some (.int .i64 v) := (hb2.cell (clt g1)).trans g1
            have HB2 : Hid _ := hb2
            clear hb2
            go_wp2_with (go_at_call 24; refine Stop.mk ?_)
            refine Stop.out ((HC.out _).mono ?_)
            rintro e W3 ⟨r, rfl, hr, hb3⟩
            have HB3 : Hid (Below wr.heap.size wr W3) := HB2.out.trans (hb3.mono HB2.out.size)
            clear hb3
            have c23 := fun W => fine_any W K r hr
            have hr2 := hr
            clear hr
            go_wp2_with (go_at_call 23; refine Stop.mk ?_)
            refine Stop.out ((c23 _).mono ?_)
            rintro e W4 ⟨rfl, hb4⟩
            have HB4 : Hid (Below wr.heap.size wr W4) := HB3.out.trans (hb4.mono HB3.out.size)
            clear hb4 c23
            cases K with
            | false =>
              go_wp2
              go_ret
              exact ⟨by rw [← HZ.out]; (try rw [h0]); (try rw [hq]); (try rw [h77]); (try rw [h70]); (try rw [h79]); (try rw [h6]); first | rfl | simp, HB4.out⟩
            | true =>
              go_wp2
              go_ret
              exact ⟨by rw [← HZ.out]; (try rw [h0]); (try rw [hq]); (try rw [h77]); (try rw [h70]); (try rw [h79]); (try rw [h6]); first | rfl | simp, HB4.out⟩
set_option maxRecDepth 100000 in
set_option maxHeartbeats 8000000 in
theorem good_plain (w : World) (i : Nat) (hi : i < 19) (s : ByteArray) (hs : s.size ≤ 140737488351232) (hG : Gs w) (k0 : ((i : Int) == 0) = true) : Calls Tryz.prog 14 #[.int .i64 (i : Int), .string s] w fun e w' => e = .returned (.bool (gtB (ndB i) (vv i) (plG s s.size 0) s)) ∧ Below w.heap.size w w' := by
  unfold gtB
  have c21 := needed_any w i hi
  have c22 : Calls Tryz.prog 22 #[.int .i64 (vv i), .string s] w fun e w' => e = .returned (.string (trT (vv i) s)) ∧ Below w.heap.size w w' := Rp.rtrim_any w (vv i) s hs
  have HC : Hid (∀ W, Calls Tryz.prog 24 #[.int .i64 (vv i), .string s] W fun e w' => ∃ r, e = .returned r ∧ FlV (ckK (vv i) s).isNone r ∧ Below W.heap.size W w') := fun W => rcheck_fl W (vv i) s hs
  have g1 := hG.dv i hi
  have HG : Hid (Gs w) := hG
  have iI : (i : Int) < 19 := by omega
  obtain ⟨R, hR⟩ : ∃ R, hasB s = R := ⟨_, rfl⟩
  have HR : Hid (hsG s s.size 0 = R) := (hs_has s).trans hR
  rw [hR]
  clear hR
  generalize ndB i = D at *
  generalize vv i = v at *
  generalize trT v s = T at *
  generalize (ckK v s).isNone = K at *
  obtain ⟨Z, hZ⟩ : ∃ Z, (!R && (!(D && s.toList.isEmpty) && ((T.toList == s.toList) && (K && (plG s s.size 0))))) = Z := ⟨_, rfl⟩
  have HZ : Hid _ := hZ
  rw [hZ]
  clear hG hZ
  go_enter Tryz.func14, Tryz.ntmps14
  go_wp2
  go_loopg [5] s.size (fun k s5 wx => ∃ j f : Nat, s5 = .int .i64 (j : Int) ∧ j ≤ s.size ∧ k + j = s.size ∧ s.size ≤ j + f ∧ Hid (hsG s f j = R) ∧ wx = w)
  case atStart => exact ⟨0, s.size, rfl, by omega, by omega, by omega, HR, rfl⟩
  case round =>
    clear HR
    obtain ⟨j, f, rfl, hj, hg, hf, HI, rfl⟩ := hrel
    by_cases hlt : j < s.size
    · have jI : (j : Int) < (s.size : Int) := by omega
      obtain ⟨b, hb⟩ : ∃ b, s[j].toNat = b := ⟨_, rfl⟩
      have hgb : (s.get! j).toNat = b := by rw [← get_get! s j hlt, hb]
      obtain ⟨f, rfl⟩ : ∃ f', f = f' + 1 := ⟨f - 1, by omega⟩
      have HI2 : Hid ((if b = 92 then true else hsG s f (j + 1)) = R) := by
        have := HI.out
        rw [hsG, if_pos hlt, hgb] at this
        exact this
      clear HI hgb
      by_cases h1 : b = 92
      · have i1 : ((b : Int) == 92) = true := by rw [h1]; rfl
        obtain rfl : R = true := by have := HI2.out; rw [if_pos h1] at this; exact this.symm
        clear HI2 h1
        go_wp2
        go_ret
        exact ⟨by rw [← HZ.out]; rfl, Below.refl _ _⟩
      · have i1 : ((b : Int) == 92) = false := beq_eq_false_iff_ne.2 (by omega)
        have HI3 : Hid (hsG s f (j + 1) = R) := by have := HI2.out; rw [if_neg h1] at this; exact this
        clear HI2
        go_wp2
        go_roundg (s.size - (j + 1))
        case measure => omega
        case rel => exact ⟨j + 1, f, by simp, by omega, by omega, by omega, HI3, rfl⟩
    · have jI : ¬ ((j : Int) < (s.size : Int)) := by omega
      obtain rfl : R = false := by
        have := HI.out
        cases f with
        | zero => exact this.symm
        | succ f => rw [hsG, if_neg hlt] at this; exact this.symm
      clear HI
      cases h0 : s.toList.isEmpty with
      | true =>
        cases D with
        | true =>
          go_wp2_with (go_at_call 21; refine Stop.mk ?_)
          refine Stop.out (c21.mono ?_)
          rintro e W1 ⟨rfl, rfl⟩
          go_wp2
          go_ret
          exact ⟨by rw [← HZ.out, h0]; rfl, Below.refl _ _⟩
        | false =>
          cases hq : (T.toList == s.toList) with
          | false =>
            have hq2 : (T.toList != s.toList) = true := by rw [bne, hq]; rfl
            go_wp2_with (go_at_call 21; refine Stop.mk ?_)
            refine Stop.out (c21.mono ?_)
            rintro e W1 ⟨rfl, rfl⟩
            go_wp2_with (go_at_call 22; refine Stop.mk ?_)
            refine Stop.out (c22.mono ?_)
            rintro e W2 ⟨rfl, hb2⟩
            go_wp2
            go_ret
            exact ⟨by rw [← HZ.out]; (try rw [h0]); (try rw [hq]); (try rw [h77]); (try rw [h70]); (try rw [h79]); (try rw [h6]); first | rfl | simp, hb2⟩
          | true =>
            have hq2 : (T.toList != s.toList) = false := by rw [bne, hq]; rfl
            go_wp2_with (go_at_call 21; refine Stop.mk ?_)
            refine Stop.out (c21.mono ?_)
            rintro e W1 ⟨rfl, rfl⟩
            go_wp2_with (go_at_call 22; refine Stop.mk ?_)
            refine Stop.out (c22.mono ?_)
            rintro e W2 ⟨rfl, hb2⟩
            have g2 : W2.cell? ⟨1, i, none⟩ = some (.int .i64 v) := (hb2.cell (clt g1)).trans g1
            have HB2 : Hid _ := hb2
            clear hb2
            go_wp2_with (go_at_call 24; refine Stop.mk ?_)
            refine Stop.out ((HC.out _).mono ?_)
            rintro e W3 ⟨r, rfl, hr, hb3⟩
            have HB3 : Hid (Below wr.heap.size wr W3) := HB2.out.trans (hb3.mono HB2.out.size)
            clear hb3
            have c23 := fun W => fine_any W K r hr
            have hr2 := hr
            clear hr
            go_wp2_with (go_at_call 23; refine Stop.mk ?_)
            refine Stop.out ((c23 _).mono ?_)
            rintro e W4 ⟨rfl, hb4⟩
            have HB4 : Hid (Below wr.heap.size wr W4) := HB3.out.trans (hb4.mono HB3.out.size)
            clear hb4 c23
            cases K with
            | false =>
              go_wp2
              go_ret
              exact ⟨by rw [← HZ.out]; (try rw [h0]); (try rw [hq]); (try rw [h77]); (try rw [h70]); (try rw [h79]); (try rw [h6]); first | rfl | simp, HB4.out⟩
            | true =>
              go_wp2_with (go_at_call 25; refine Stop.mk ?_)
              refine Stop.out ((rplain_any _ s hs).mono ?_)
              rintro e W5 ⟨rfl, rfl⟩
              have HB5 := HB4
              go_wp2
              go_ret
              exact ⟨by rw [← HZ.out]; (try rw [h0]); (try rw [hq]); (try rw [h77]); (try rw [h70]); (try rw [h79]); (try rw [h6]); first | rfl | simp, HB5.out⟩
      | false =>
        cases D with
        | true =>
          cases hq : (T.toList == s.toList) with
          | false =>
            have hq2 : (T.toList != s.toList) = true := by rw [bne, hq]; rfl
            go_wp2_with (go_at_call 21; refine Stop.mk ?_)
            refine Stop.out (c21.mono ?_)
            rintro e W1 ⟨rfl, rfl⟩
            go_wp2_with (go_at_call 22; refine Stop.mk ?_)
            refine Stop.out (c22.mono ?_)
            rintro e W2 ⟨rfl, hb2⟩
            go_wp2
            go_ret
            exact ⟨by rw [← HZ.out]; (try rw [h0]); (try rw [hq]); (try rw [h77]); (try rw [h70]); (try rw [h79]); (try rw [h6]); first | rfl | simp, hb2⟩
          | true =>
            have hq2 : (T.toList != s.toList) = false := by rw [bne, hq]; rfl
            go_wp2_with (go_at_call 21; refine Stop.mk ?_)
            refine Stop.out (c21.mono ?_)
            rintro e W1 ⟨rfl, rfl⟩
            go_wp2_with (go_at_call 22; refine Stop.mk ?_)
            refine Stop.out (c22.mono ?_)
            rintro e W2 ⟨rfl, hb2⟩
            have g2 : W2.cell? ⟨1, i, none⟩ = some (.int .i64 v) := (hb2.cell (clt g1)).trans g1
            have HB2 : Hid _ := hb2
            clear hb2
            go_wp2_with (go_at_call 24; refine Stop.mk ?_)
            refine Stop.out ((HC.out _).mono ?_)
            rintro e W3 ⟨r, rfl, hr, hb3⟩
            have HB3 : Hid (Below wr.heap.size wr W3) := HB2.out.trans (hb3.mono HB2.out.size)
            clear hb3
            have c23 := fun W => fine_any W K r hr
            have hr2 := hr
            clear hr
            go_wp2_with (go_at_call 23; refine Stop.mk ?_)
            refine Stop.out ((c23 _).mono ?_)
            rintro e W4 ⟨rfl, hb4⟩
            have HB4 : Hid (Below wr.heap.size wr W4) := HB3.out.trans (hb4.mono HB3.out.size)
            clear hb4 c23
            cases K with
            | false =>
              go_wp2
              go_ret
              exact ⟨by rw [← HZ.out]; (try rw [h0]); (try rw [hq]); (try rw [h77]); (try rw [h70]); (try rw [h79]); (try rw [h6]); first | rfl | simp, HB4.out⟩
            | true =>
              go_wp2_with (go_at_call 25; refine Stop.mk ?_)
              refine Stop.out ((rplain_any _ s hs).mono ?_)
              rintro e W5 ⟨rfl, rfl⟩
              have HB5 := HB4
              go_wp2
              go_ret
              exact ⟨by rw [← HZ.out]; (try rw [h0]); (try rw [hq]); (try rw [h77]); (try rw [h70]); (try rw [h79]); (try rw [h6]); first | rfl | simp, HB5.out⟩
        | false =>
          cases hq : (T.toList == s.toList) with
          | false =>
            have hq2 : (T.toList != s.toList) = true := by rw [bne, hq]; rfl
            go_wp2_with (go_at_call 21; refine Stop.mk ?_)
            refine Stop.out (c21.mono ?_)
            rintro e W1 ⟨rfl, rfl⟩
            go_wp2_with (go_at_call 22; refine Stop.mk ?_)
            refine Stop.out (c22.mono ?_)
            rintro e W2 ⟨rfl, hb2⟩
            go_wp2
            go_ret
            exact ⟨by rw [← HZ.out]; (try rw [h0]); (try rw [hq]); (try rw [h77]); (try rw [h70]); (try rw [h79]); (try rw [h6]); first | rfl | simp, hb2⟩
          | true =>
            have hq2 : (T.toList != s.toList) = false := by rw [bne, hq]; rfl
            go_wp2_with (go_at_call 21; refine Stop.mk ?_)
            refine Stop.out (c21.mono ?_)
            rintro e W1 ⟨rfl, rfl⟩
            go_wp2_with (go_at_call 22; refine Stop.mk ?_)
            refine Stop.out (c22.mono ?_)
            rintro e W2 ⟨rfl, hb2⟩
            have g2 : W2.cell? ⟨1, i, none⟩ = some (.int .i64 v) := (hb2.cell (clt g1)).trans g1
            have HB2 : Hid _ := hb2
            clear hb2
            go_wp2_with (go_at_call 24; refine Stop.mk ?_)
            refine Stop.out ((HC.out _).mono ?_)
            rintro e W3 ⟨r, rfl, hr, hb3⟩
            have HB3 : Hid (Below wr.heap.size wr W3) := HB2.out.trans (hb3.mono HB2.out.size)
            clear hb3
            have c23 := fun W => fine_any W K r hr
            have hr2 := hr
            clear hr
            go_wp2_with (go_at_call 23; refine Stop.mk ?_)
            refine Stop.out ((c23 _).mono ?_)
            rintro e W4 ⟨rfl, hb4⟩
            have HB4 : Hid (Below wr.heap.size wr W4) := HB3.out.trans (hb4.mono HB3.out.size)
            clear hb4 c23
            cases K with
            | false =>
              go_wp2
              go_ret
              exact ⟨by rw [← HZ.out]; (try rw [h0]); (try rw [hq]); (try rw [h77]); (try rw [h70]); (try rw [h79]); (try rw [h6]); first | rfl | simp, HB4.out⟩
            | true =>
              go_wp2_with (go_at_call 25; refine Stop.mk ?_)
              refine Stop.out ((rplain_any _ s hs).mono ?_)
              rintro e W5 ⟨rfl, rfl⟩
              have HB5 := HB4
              go_wp2
              go_ret
              exact ⟨by rw [← HZ.out]; (try rw [h0]); (try rw [hq]); (try rw [h77]); (try rw [h70]); (try rw [h79]); (try rw [h6]); first | rfl | simp, HB5.out⟩
set_option maxRecDepth 100000 in
set_option maxHeartbeats 8000000 in
theorem good_date8 (w : World) (i : Nat) (hi : i < 19) (s : ByteArray) (hs : s.size ≤ 140737488351232) (hG : Gs w) (k0 : ((i : Int) == 0) = false) (k8 : ((i : Int) == 8) = true) : Calls Tryz.prog 14 #[.int .i64 (i : Int), .string s] w fun e w' => e = .returned (.bool (gtB (ndB i) (vv i) (s.toList.isEmpty || dyB s) s)) ∧ Below w.heap.size w w' := by
  unfold gtB
  have c21 := needed_any w i hi
  have c22 : Calls Tryz.prog 22 #[.int .i64 (vv i), .string s] w fun e w' => e = .returned (.string (trT (vv i) s)) ∧ Below w.heap.size w w' := Rp.rtrim_any w (vv i) s hs
  have HC : Hid (∀ W, Calls Tryz.prog 24 #[.int .i64 (vv i), .string s] W fun e w' => ∃ r, e = .returned r ∧ FlV (ckK (vv i) s).isNone r ∧ Below W.heap.size W w') := fun W => rcheck_fl W (vv i) s hs
  have g1 := hG.dv i hi
  have HG : Hid (Gs w) := hG
  have iI : (i : Int) < 19 := by omega
  obtain ⟨R, hR⟩ : ∃ R, hasB s = R := ⟨_, rfl⟩
  have HR : Hid (hsG s s.size 0 = R) := (hs_has s).trans hR
  rw [hR]
  clear hR
  generalize ndB i = D at *
  generalize vv i = v at *
  generalize trT v s = T at *
  generalize (ckK v s).isNone = K at *
  obtain ⟨Z, hZ⟩ : ∃ Z, (!R && (!(D && s.toList.isEmpty) && ((T.toList == s.toList) && (K && (s.toList.isEmpty || dyB s))))) = Z := ⟨_, rfl⟩
  have HZ : Hid _ := hZ
  rw [hZ]
  clear hG hZ
  go_enter Tryz.func14, Tryz.ntmps14
  go_wp2
  go_loopg [5] s.size (fun k s5 wx => ∃ j f : Nat, s5 = .int .i64 (j : Int) ∧ j ≤ s.size ∧ k + j = s.size ∧ s.size ≤ j + f ∧ Hid (hsG s f j = R) ∧ wx = w)
  case atStart => exact ⟨0, s.size, rfl, by omega, by omega, by omega, HR, rfl⟩
  case round =>
    clear HR
    obtain ⟨j, f, rfl, hj, hg, hf, HI, rfl⟩ := hrel
    by_cases hlt : j < s.size
    · have jI : (j : Int) < (s.size : Int) := by omega
      obtain ⟨b, hb⟩ : ∃ b, s[j].toNat = b := ⟨_, rfl⟩
      have hgb : (s.get! j).toNat = b := by rw [← get_get! s j hlt, hb]
      obtain ⟨f, rfl⟩ : ∃ f', f = f' + 1 := ⟨f - 1, by omega⟩
      have HI2 : Hid ((if b = 92 then true else hsG s f (j + 1)) = R) := by
        have := HI.out
        rw [hsG, if_pos hlt, hgb] at this
        exact this
      clear HI hgb
      by_cases h1 : b = 92
      · have i1 : ((b : Int) == 92) = true := by rw [h1]; rfl
        obtain rfl : R = true := by have := HI2.out; rw [if_pos h1] at this; exact this.symm
        clear HI2 h1
        go_wp2
        go_ret
        exact ⟨by rw [← HZ.out]; rfl, Below.refl _ _⟩
      · have i1 : ((b : Int) == 92) = false := beq_eq_false_iff_ne.2 (by omega)
        have HI3 : Hid (hsG s f (j + 1) = R) := by have := HI2.out; rw [if_neg h1] at this; exact this
        clear HI2
        go_wp2
        go_roundg (s.size - (j + 1))
        case measure => omega
        case rel => exact ⟨j + 1, f, by simp, by omega, by omega, by omega, HI3, rfl⟩
    · have jI : ¬ ((j : Int) < (s.size : Int)) := by omega
      obtain rfl : R = false := by
        have := HI.out
        cases f with
        | zero => exact this.symm
        | succ f => rw [hsG, if_neg hlt] at this; exact this.symm
      clear HI
      cases h0 : s.toList.isEmpty with
      | true =>
        cases D with
        | true =>
          go_wp2_with (go_at_call 21; refine Stop.mk ?_)
          refine Stop.out (c21.mono ?_)
          rintro e W1 ⟨rfl, rfl⟩
          go_wp2
          go_ret
          exact ⟨by rw [← HZ.out, h0]; rfl, Below.refl _ _⟩
        | false =>
          cases hq : (T.toList == s.toList) with
          | false =>
            have hq2 : (T.toList != s.toList) = true := by rw [bne, hq]; rfl
            go_wp2_with (go_at_call 21; refine Stop.mk ?_)
            refine Stop.out (c21.mono ?_)
            rintro e W1 ⟨rfl, rfl⟩
            go_wp2_with (go_at_call 22; refine Stop.mk ?_)
            refine Stop.out (c22.mono ?_)
            rintro e W2 ⟨rfl, hb2⟩
            go_wp2
            go_ret
            exact ⟨by rw [← HZ.out]; (try rw [h0]); (try rw [hq]); (try rw [h77]); (try rw [h70]); (try rw [h79]); (try rw [h6]); first | rfl | simp, hb2⟩
          | true =>
            have hq2 : (T.toList != s.toList) = false := by rw [bne, hq]; rfl
            go_wp2_with (go_at_call 21; refine Stop.mk ?_)
            refine Stop.out (c21.mono ?_)
            rintro e W1 ⟨rfl, rfl⟩
            go_wp2_with (go_at_call 22; refine Stop.mk ?_)
            refine Stop.out (c22.mono ?_)
            rintro e W2 ⟨rfl, hb2⟩
            have g2 : W2.cell? ⟨1, i, none⟩ = some (.int .i64 v) := (hb2.cell (clt g1)).trans g1
            have HB2 : Hid _ := hb2
            clear hb2
            go_wp2_with (go_at_call 24; refine Stop.mk ?_)
            refine Stop.out ((HC.out _).mono ?_)
            rintro e W3 ⟨r, rfl, hr, hb3⟩
            have HB3 : Hid (Below wr.heap.size wr W3) := HB2.out.trans (hb3.mono HB2.out.size)
            clear hb3
            have c23 := fun W => fine_any W K r hr
            have hr2 := hr
            clear hr
            go_wp2_with (go_at_call 23; refine Stop.mk ?_)
            refine Stop.out ((c23 _).mono ?_)
            rintro e W4 ⟨rfl, hb4⟩
            have HB4 : Hid (Below wr.heap.size wr W4) := HB3.out.trans (hb4.mono HB3.out.size)
            clear hb4 c23
            cases K with
            | false =>
              go_wp2
              go_ret
              exact ⟨by rw [← HZ.out]; (try rw [h0]); (try rw [hq]); (try rw [h77]); (try rw [h70]); (try rw [h79]); (try rw [h6]); first | rfl | simp, HB4.out⟩
            | true =>
              go_wp2_with (go_at_call 26; refine Stop.mk ?_)
              refine Stop.out ((rdate_fl _ s hs).mono ?_)
              rintro e W5 ⟨x0, x1, x2, u, rfl, hu, hb5⟩
              have HB5 : Hid (Below wr.heap.size wr W5) := HB4.out.trans (hb5.mono HB4.out.size)
              clear hb5
              have c23 := fun W => fine_any W (dyB s) u hu
              generalize dyB s = Y at *
              rcases hu with ⟨rfl, rfl⟩ | ⟨rfl, g5, k5, y5, rfl⟩
              · have HB6 : Hid (Below wr.heap.size wr ((W5.alloc (.cells #[.int .i64 x0, .int .i64 x1, .int .i64 x2] 59)).alloc (.cells #[.slice none 0 0, .int .i64 0] 30))) := (HB5.out.alloc HB5.out.size _).alloc (by have := HB5.out.size; simp; omega) _
                go_wp2
                go_ret
                exact ⟨by rw [← HZ.out]; (try rw [h0]); (try rw [hq]); (try rw [h77]); (try rw [h70]); (try rw [h79]); (try rw [h6]); first | rfl | simp, HB6.out⟩
              · have HB6 : Hid (Below wr.heap.size wr ((W5.alloc (.cells #[.int .i64 x0, .int .i64 x1, .int .i64 x2] 59)).alloc (.cells #[.slice (some ⟨g5, 0, none⟩) 1 k5, .int .i64 y5] 30))) := (HB5.out.alloc HB5.out.size _).alloc (by have := HB5.out.size; simp; omega) _
                go_wp2
                go_ret
                exact ⟨by rw [← HZ.out]; (try rw [h0]); (try rw [hq]); (try rw [h77]); (try rw [h70]); (try rw [h79]); (try rw [h6]); first | rfl | simp, HB6.out⟩
      | false =>
        cases D with
        | true =>
          cases hq : (T.toList == s.toList) with
          | false =>
            have hq2 : (T.toList != s.toList) = true := by rw [bne, hq]; rfl
            go_wp2_with (go_at_call 21; refine Stop.mk ?_)
            refine Stop.out (c21.mono ?_)
            rintro e W1 ⟨rfl, rfl⟩
            go_wp2_with (go_at_call 22; refine Stop.mk ?_)
            refine Stop.out (c22.mono ?_)
            rintro e W2 ⟨rfl, hb2⟩
            go_wp2
            go_ret
            exact ⟨by rw [← HZ.out]; (try rw [h0]); (try rw [hq]); (try rw [h77]); (try rw [h70]); (try rw [h79]); (try rw [h6]); first | rfl | simp, hb2⟩
          | true =>
            have hq2 : (T.toList != s.toList) = false := by rw [bne, hq]; rfl
            go_wp2_with (go_at_call 21; refine Stop.mk ?_)
            refine Stop.out (c21.mono ?_)
            rintro e W1 ⟨rfl, rfl⟩
            go_wp2_with (go_at_call 22; refine Stop.mk ?_)
            refine Stop.out (c22.mono ?_)
            rintro e W2 ⟨rfl, hb2⟩
            have g2 : W2.cell? ⟨1, i, none⟩ = some (.int .i64 v) := (hb2.cell (clt g1)).trans g1
            have HB2 : Hid _ := hb2
            clear hb2
            go_wp2_with (go_at_call 24; refine Stop.mk ?_)
            refine Stop.out ((HC.out _).mono ?_)
            rintro e W3 ⟨r, rfl, hr, hb3⟩
            have HB3 : Hid (Below wr.heap.size wr W3) := HB2.out.trans (hb3.mono HB2.out.size)
            clear hb3
            have c23 := fun W => fine_any W K r hr
            have hr2 := hr
            clear hr
            go_wp2_with (go_at_call 23; refine Stop.mk ?_)
            refine Stop.out ((c23 _).mono ?_)
            rintro e W4 ⟨rfl, hb4⟩
            have HB4 : Hid (Below wr.heap.size wr W4) := HB3.out.trans (hb4.mono HB3.out.size)
            clear hb4 c23
            cases K with
            | false =>
              go_wp2
              go_ret
              exact ⟨by rw [← HZ.out]; (try rw [h0]); (try rw [hq]); (try rw [h77]); (try rw [h70]); (try rw [h79]); (try rw [h6]); first | rfl | simp, HB4.out⟩
            | true =>
              go_wp2_with (go_at_call 26; refine Stop.mk ?_)
              refine Stop.out ((rdate_fl _ s hs).mono ?_)
              rintro e W5 ⟨x0, x1, x2, u, rfl, hu, hb5⟩
              have HB5 : Hid (Below wr.heap.size wr W5) := HB4.out.trans (hb5.mono HB4.out.size)
              clear hb5
              have c23 := fun W => fine_any W (dyB s) u hu
              generalize dyB s = Y at *
              rcases hu with ⟨rfl, rfl⟩ | ⟨rfl, g5, k5, y5, rfl⟩
              · have HB6 : Hid (Below wr.heap.size wr ((W5.alloc (.cells #[.int .i64 x0, .int .i64 x1, .int .i64 x2] 59)).alloc (.cells #[.slice none 0 0, .int .i64 0] 30))) := (HB5.out.alloc HB5.out.size _).alloc (by have := HB5.out.size; simp; omega) _
                go_wp2_with (go_at_call 23; refine Stop.mk ?_)
                refine Stop.out ((c23 _).mono ?_)
                rintro e W7 ⟨rfl, hb7⟩
                have HB7 : Hid (Below wr.heap.size wr W7) := HB6.out.trans (hb7.mono HB6.out.size)
                clear hb7
                go_wp2
                go_ret
                exact ⟨by rw [← HZ.out]; (try rw [h0]); (try rw [hq]); (try rw [h77]); (try rw [h70]); (try rw [h79]); (try rw [h6]); first | rfl | simp, HB7.out⟩
              · have HB6 : Hid (Below wr.heap.size wr ((W5.alloc (.cells #[.int .i64 x0, .int .i64 x1, .int .i64 x2] 59)).alloc (.cells #[.slice (some ⟨g5, 0, none⟩) 1 k5, .int .i64 y5] 30))) := (HB5.out.alloc HB5.out.size _).alloc (by have := HB5.out.size; simp; omega) _
                go_wp2_with (go_at_call 23; refine Stop.mk ?_)
                refine Stop.out ((c23 _).mono ?_)
                rintro e W7 ⟨rfl, hb7⟩
                have HB7 : Hid (Below wr.heap.size wr W7) := HB6.out.trans (hb7.mono HB6.out.size)
                clear hb7
                go_wp2
                go_ret
                exact ⟨by rw [← HZ.out]; (try rw [h0]); (try rw [hq]); (try rw [h77]); (try rw [h70]); (try rw [h79]); (try rw [h6]); first | rfl | simp, HB7.out⟩
        | false =>
          cases hq : (T.toList == s.toList) with
          | false =>
            have hq2 : (T.toList != s.toList) = true := by rw [bne, hq]; rfl
            go_wp2_with (go_at_call 21; refine Stop.mk ?_)
            refine Stop.out (c21.mono ?_)
            rintro e W1 ⟨rfl, rfl⟩
            go_wp2_with (go_at_call 22; refine Stop.mk ?_)
            refine Stop.out (c22.mono ?_)
            rintro e W2 ⟨rfl, hb2⟩
            go_wp2
            go_ret
            exact ⟨by rw [← HZ.out]; (try rw [h0]); (try rw [hq]); (try rw [h77]); (try rw [h70]); (try rw [h79]); (try rw [h6]); first | rfl | simp, hb2⟩
          | true =>
            have hq2 : (T.toList != s.toList) = false := by rw [bne, hq]; rfl
            go_wp2_with (go_at_call 21; refine Stop.mk ?_)
            refine Stop.out (c21.mono ?_)
            rintro e W1 ⟨rfl, rfl⟩
            go_wp2_with (go_at_call 22; refine Stop.mk ?_)
            refine Stop.out (c22.mono ?_)
            rintro e W2 ⟨rfl, hb2⟩
            have g2 : W2.cell? ⟨1, i, none⟩ = some (.int .i64 v) := (hb2.cell (clt g1)).trans g1
            have HB2 : Hid _ := hb2
            clear hb2
            go_wp2_with (go_at_call 24; refine Stop.mk ?_)
            refine Stop.out ((HC.out _).mono ?_)
            rintro e W3 ⟨r, rfl, hr, hb3⟩
            have HB3 : Hid (Below wr.heap.size wr W3) := HB2.out.trans (hb3.mono HB2.out.size)
            clear hb3
            have c23 := fun W => fine_any W K r hr
            have hr2 := hr
            clear hr
            go_wp2_with (go_at_call 23; refine Stop.mk ?_)
            refine Stop.out ((c23 _).mono ?_)
            rintro e W4 ⟨rfl, hb4⟩
            have HB4 : Hid (Below wr.heap.size wr W4) := HB3.out.trans (hb4.mono HB3.out.size)
            clear hb4 c23
            cases K with
            | false =>
              go_wp2
              go_ret
              exact ⟨by rw [← HZ.out]; (try rw [h0]); (try rw [hq]); (try rw [h77]); (try rw [h70]); (try rw [h79]); (try rw [h6]); first | rfl | simp, HB4.out⟩
            | true =>
              go_wp2_with (go_at_call 26; refine Stop.mk ?_)
              refine Stop.out ((rdate_fl _ s hs).mono ?_)
              rintro e W5 ⟨x0, x1, x2, u, rfl, hu, hb5⟩
              have HB5 : Hid (Below wr.heap.size wr W5) := HB4.out.trans (hb5.mono HB4.out.size)
              clear hb5
              have c23 := fun W => fine_any W (dyB s) u hu
              generalize dyB s = Y at *
              rcases hu with ⟨rfl, rfl⟩ | ⟨rfl, g5, k5, y5, rfl⟩
              · have HB6 : Hid (Below wr.heap.size wr ((W5.alloc (.cells #[.int .i64 x0, .int .i64 x1, .int .i64 x2] 59)).alloc (.cells #[.slice none 0 0, .int .i64 0] 30))) := (HB5.out.alloc HB5.out.size _).alloc (by have := HB5.out.size; simp; omega) _
                go_wp2_with (go_at_call 23; refine Stop.mk ?_)
                refine Stop.out ((c23 _).mono ?_)
                rintro e W7 ⟨rfl, hb7⟩
                have HB7 : Hid (Below wr.heap.size wr W7) := HB6.out.trans (hb7.mono HB6.out.size)
                clear hb7
                go_wp2
                go_ret
                exact ⟨by rw [← HZ.out]; (try rw [h0]); (try rw [hq]); (try rw [h77]); (try rw [h70]); (try rw [h79]); (try rw [h6]); first | rfl | simp, HB7.out⟩
              · have HB6 : Hid (Below wr.heap.size wr ((W5.alloc (.cells #[.int .i64 x0, .int .i64 x1, .int .i64 x2] 59)).alloc (.cells #[.slice (some ⟨g5, 0, none⟩) 1 k5, .int .i64 y5] 30))) := (HB5.out.alloc HB5.out.size _).alloc (by have := HB5.out.size; simp; omega) _
                go_wp2_with (go_at_call 23; refine Stop.mk ?_)
                refine Stop.out ((c23 _).mono ?_)
                rintro e W7 ⟨rfl, hb7⟩
                have HB7 : Hid (Below wr.heap.size wr W7) := HB6.out.trans (hb7.mono HB6.out.size)
                clear hb7
                go_wp2
                go_ret
                exact ⟨by rw [← HZ.out]; (try rw [h0]); (try rw [hq]); (try rw [h77]); (try rw [h70]); (try rw [h79]); (try rw [h6]); first | rfl | simp, HB7.out⟩
set_option maxRecDepth 100000 in
set_option maxHeartbeats 8000000 in
theorem good_date15 (w : World) (i : Nat) (hi : i < 19) (s : ByteArray) (hs : s.size ≤ 140737488351232) (hG : Gs w) (k0 : ((i : Int) == 0) = false) (k8 : ((i : Int) == 8) = false) (k15 : ((i : Int) == 15) = true) : Calls Tryz.prog 14 #[.int .i64 (i : Int), .string s] w fun e w' => e = .returned (.bool (gtB (ndB i) (vv i) (s.toList.isEmpty || dyB s) s)) ∧ Below w.heap.size w w' := by
  unfold gtB
  have c21 := needed_any w i hi
  have c22 : Calls Tryz.prog 22 #[.int .i64 (vv i), .string s] w fun e w' => e = .returned (.string (trT (vv i) s)) ∧ Below w.heap.size w w' := Rp.rtrim_any w (vv i) s hs
  have HC : Hid (∀ W, Calls Tryz.prog 24 #[.int .i64 (vv i), .string s] W fun e w' => ∃ r, e = .returned r ∧ FlV (ckK (vv i) s).isNone r ∧ Below W.heap.size W w') := fun W => rcheck_fl W (vv i) s hs
  have g1 := hG.dv i hi
  have HG : Hid (Gs w) := hG
  have iI : (i : Int) < 19 := by omega
  obtain ⟨R, hR⟩ : ∃ R, hasB s = R := ⟨_, rfl⟩
  have HR : Hid (hsG s s.size 0 = R) := (hs_has s).trans hR
  rw [hR]
  clear hR
  generalize ndB i = D at *
  generalize vv i = v at *
  generalize trT v s = T at *
  generalize (ckK v s).isNone = K at *
  obtain ⟨Z, hZ⟩ : ∃ Z, (!R && (!(D && s.toList.isEmpty) && ((T.toList == s.toList) && (K && (s.toList.isEmpty || dyB s))))) = Z := ⟨_, rfl⟩
  have HZ : Hid _ := hZ
  rw [hZ]
  clear hG hZ
  go_enter Tryz.func14, Tryz.ntmps14
  go_wp2
  go_loopg [5] s.size (fun k s5 wx => ∃ j f : Nat, s5 = .int .i64 (j : Int) ∧ j ≤ s.size ∧ k + j = s.size ∧ s.size ≤ j + f ∧ Hid (hsG s f j = R) ∧ wx = w)
  case atStart => exact ⟨0, s.size, rfl, by omega, by omega, by omega, HR, rfl⟩
  case round =>
    clear HR
    obtain ⟨j, f, rfl, hj, hg, hf, HI, rfl⟩ := hrel
    by_cases hlt : j < s.size
    · have jI : (j : Int) < (s.size : Int) := by omega
      obtain ⟨b, hb⟩ : ∃ b, s[j].toNat = b := ⟨_, rfl⟩
      have hgb : (s.get! j).toNat = b := by rw [← get_get! s j hlt, hb]
      obtain ⟨f, rfl⟩ : ∃ f', f = f' + 1 := ⟨f - 1, by omega⟩
      have HI2 : Hid ((if b = 92 then true else hsG s f (j + 1)) = R) := by
        have := HI.out
        rw [hsG, if_pos hlt, hgb] at this
        exact this
      clear HI hgb
      by_cases h1 : b = 92
      · have i1 : ((b : Int) == 92) = true := by rw [h1]; rfl
        obtain rfl : R = true := by have := HI2.out; rw [if_pos h1] at this; exact this.symm
        clear HI2 h1
        go_wp2
        go_ret
        exact ⟨by rw [← HZ.out]; rfl, Below.refl _ _⟩
      · have i1 : ((b : Int) == 92) = false := beq_eq_false_iff_ne.2 (by omega)
        have HI3 : Hid (hsG s f (j + 1) = R) := by have := HI2.out; rw [if_neg h1] at this; exact this
        clear HI2
        go_wp2
        go_roundg (s.size - (j + 1))
        case measure => omega
        case rel => exact ⟨j + 1, f, by simp, by omega, by omega, by omega, HI3, rfl⟩
    · have jI : ¬ ((j : Int) < (s.size : Int)) := by omega
      obtain rfl : R = false := by
        have := HI.out
        cases f with
        | zero => exact this.symm
        | succ f => rw [hsG, if_neg hlt] at this; exact this.symm
      clear HI
      cases h0 : s.toList.isEmpty with
      | true =>
        cases D with
        | true =>
          go_wp2_with (go_at_call 21; refine Stop.mk ?_)
          refine Stop.out (c21.mono ?_)
          rintro e W1 ⟨rfl, rfl⟩
          go_wp2
          go_ret
          exact ⟨by rw [← HZ.out, h0]; rfl, Below.refl _ _⟩
        | false =>
          cases hq : (T.toList == s.toList) with
          | false =>
            have hq2 : (T.toList != s.toList) = true := by rw [bne, hq]; rfl
            go_wp2_with (go_at_call 21; refine Stop.mk ?_)
            refine Stop.out (c21.mono ?_)
            rintro e W1 ⟨rfl, rfl⟩
            go_wp2_with (go_at_call 22; refine Stop.mk ?_)
            refine Stop.out (c22.mono ?_)
            rintro e W2 ⟨rfl, hb2⟩
            go_wp2
            go_ret
            exact ⟨by rw [← HZ.out]; (try rw [h0]); (try rw [hq]); (try rw [h77]); (try rw [h70]); (try rw [h79]); (try rw [h6]); first | rfl | simp, hb2⟩
          | true =>
            have hq2 : (T.toList != s.toList) = false := by rw [bne, hq]; rfl
            go_wp2_with (go_at_call 21; refine Stop.mk ?_)
            refine Stop.out (c21.mono ?_)
            rintro e W1 ⟨rfl, rfl⟩
            go_wp2_with (go_at_call 22; refine Stop.mk ?_)
            refine Stop.out (c22.mono ?_)
            rintro e W2 ⟨rfl, hb2⟩
            have g2 : W2.cell? ⟨1, i, none⟩ = some (.int .i64 v) := (hb2.cell (clt g1)).trans g1
            have HB2 : Hid _ := hb2
            clear hb2
            go_wp2_with (go_at_call 24; refine Stop.mk ?_)
            refine Stop.out ((HC.out _).mono ?_)
            rintro e W3 ⟨r, rfl, hr, hb3⟩
            have HB3 : Hid (Below wr.heap.size wr W3) := HB2.out.trans (hb3.mono HB2.out.size)
            clear hb3
            have c23 := fun W => fine_any W K r hr
            have hr2 := hr
            clear hr
            go_wp2_with (go_at_call 23; refine Stop.mk ?_)
            refine Stop.out ((c23 _).mono ?_)
            rintro e W4 ⟨rfl, hb4⟩
            have HB4 : Hid (Below wr.heap.size wr W4) := HB3.out.trans (hb4.mono HB3.out.size)
            clear hb4 c23
            cases K with
            | false =>
              go_wp2
              go_ret
              exact ⟨by rw [← HZ.out]; (try rw [h0]); (try rw [hq]); (try rw [h77]); (try rw [h70]); (try rw [h79]); (try rw [h6]); first | rfl | simp, HB4.out⟩
            | true =>
              go_wp2_with (go_at_call 26; refine Stop.mk ?_)
              refine Stop.out ((rdate_fl _ s hs).mono ?_)
              rintro e W5 ⟨x0, x1, x2, u, rfl, hu, hb5⟩
              have HB5 : Hid (Below wr.heap.size wr W5) := HB4.out.trans (hb5.mono HB4.out.size)
              clear hb5
              have c23 := fun W => fine_any W (dyB s) u hu
              generalize dyB s = Y at *
              rcases hu with ⟨rfl, rfl⟩ | ⟨rfl, g5, k5, y5, rfl⟩
              · have HB6 : Hid (Below wr.heap.size wr ((W5.alloc (.cells #[.int .i64 x0, .int .i64 x1, .int .i64 x2] 59)).alloc (.cells #[.slice none 0 0, .int .i64 0] 30))) := (HB5.out.alloc HB5.out.size _).alloc (by have := HB5.out.size; simp; omega) _
                go_wp2
                go_ret
                exact ⟨by rw [← HZ.out]; (try rw [h0]); (try rw [hq]); (try rw [h77]); (try rw [h70]); (try rw [h79]); (try rw [h6]); first | rfl | simp, HB6.out⟩
              · have HB6 : Hid (Below wr.heap.size wr ((W5.alloc (.cells #[.int .i64 x0, .int .i64 x1, .int .i64 x2] 59)).alloc (.cells #[.slice (some ⟨g5, 0, none⟩) 1 k5, .int .i64 y5] 30))) := (HB5.out.alloc HB5.out.size _).alloc (by have := HB5.out.size; simp; omega) _
                go_wp2
                go_ret
                exact ⟨by rw [← HZ.out]; (try rw [h0]); (try rw [hq]); (try rw [h77]); (try rw [h70]); (try rw [h79]); (try rw [h6]); first | rfl | simp, HB6.out⟩
      | false =>
        cases D with
        | true =>
          cases hq : (T.toList == s.toList) with
          | false =>
            have hq2 : (T.toList != s.toList) = true := by rw [bne, hq]; rfl
            go_wp2_with (go_at_call 21; refine Stop.mk ?_)
            refine Stop.out (c21.mono ?_)
            rintro e W1 ⟨rfl, rfl⟩
            go_wp2_with (go_at_call 22; refine Stop.mk ?_)
            refine Stop.out (c22.mono ?_)
            rintro e W2 ⟨rfl, hb2⟩
            go_wp2
            go_ret
            exact ⟨by rw [← HZ.out]; (try rw [h0]); (try rw [hq]); (try rw [h77]); (try rw [h70]); (try rw [h79]); (try rw [h6]); first | rfl | simp, hb2⟩
          | true =>
            have hq2 : (T.toList != s.toList) = false := by rw [bne, hq]; rfl
            go_wp2_with (go_at_call 21; refine Stop.mk ?_)
            refine Stop.out (c21.mono ?_)
            rintro e W1 ⟨rfl, rfl⟩
            go_wp2_with (go_at_call 22; refine Stop.mk ?_)
            refine Stop.out (c22.mono ?_)
            rintro e W2 ⟨rfl, hb2⟩
            have g2 : W2.cell? ⟨1, i, none⟩ = some (.int .i64 v) := (hb2.cell (clt g1)).trans g1
            have HB2 : Hid _ := hb2
            clear hb2
            go_wp2_with (go_at_call 24; refine Stop.mk ?_)
            refine Stop.out ((HC.out _).mono ?_)
            rintro e W3 ⟨r, rfl, hr, hb3⟩
            have HB3 : Hid (Below wr.heap.size wr W3) := HB2.out.trans (hb3.mono HB2.out.size)
            clear hb3
            have c23 := fun W => fine_any W K r hr
            have hr2 := hr
            clear hr
            go_wp2_with (go_at_call 23; refine Stop.mk ?_)
            refine Stop.out ((c23 _).mono ?_)
            rintro e W4 ⟨rfl, hb4⟩
            have HB4 : Hid (Below wr.heap.size wr W4) := HB3.out.trans (hb4.mono HB3.out.size)
            clear hb4 c23
            cases K with
            | false =>
              go_wp2
              go_ret
              exact ⟨by rw [← HZ.out]; (try rw [h0]); (try rw [hq]); (try rw [h77]); (try rw [h70]); (try rw [h79]); (try rw [h6]); first | rfl | simp, HB4.out⟩
            | true =>
              go_wp2_with (go_at_call 26; refine Stop.mk ?_)
              refine Stop.out ((rdate_fl _ s hs).mono ?_)
              rintro e W5 ⟨x0, x1, x2, u, rfl, hu, hb5⟩
              have HB5 : Hid (Below wr.heap.size wr W5) := HB4.out.trans (hb5.mono HB4.out.size)
              clear hb5
              have c23 := fun W => fine_any W (dyB s) u hu
              generalize dyB s = Y at *
              rcases hu with ⟨rfl, rfl⟩ | ⟨rfl, g5, k5, y5, rfl⟩
              · have HB6 : Hid (Below wr.heap.size wr ((W5.alloc (.cells #[.int .i64 x0, .int .i64 x1, .int .i64 x2] 59)).alloc (.cells #[.slice none 0 0, .int .i64 0] 30))) := (HB5.out.alloc HB5.out.size _).alloc (by have := HB5.out.size; simp; omega) _
                go_wp2_with (go_at_call 23; refine Stop.mk ?_)
                refine Stop.out ((c23 _).mono ?_)
                rintro e W7 ⟨rfl, hb7⟩
                have HB7 : Hid (Below wr.heap.size wr W7) := HB6.out.trans (hb7.mono HB6.out.size)
                clear hb7
                go_wp2
                go_ret
                exact ⟨by rw [← HZ.out]; (try rw [h0]); (try rw [hq]); (try rw [h77]); (try rw [h70]); (try rw [h79]); (try rw [h6]); first | rfl | simp, HB7.out⟩
              · have HB6 : Hid (Below wr.heap.size wr ((W5.alloc (.cells #[.int .i64 x0, .int .i64 x1, .int .i64 x2] 59)).alloc (.cells #[.slice (some ⟨g5, 0, none⟩) 1 k5, .int .i64 y5] 30))) := (HB5.out.alloc HB5.out.size _).alloc (by have := HB5.out.size; simp; omega) _
                go_wp2_with (go_at_call 23; refine Stop.mk ?_)
                refine Stop.out ((c23 _).mono ?_)
                rintro e W7 ⟨rfl, hb7⟩
                have HB7 : Hid (Below wr.heap.size wr W7) := HB6.out.trans (hb7.mono HB6.out.size)
                clear hb7
                go_wp2
                go_ret
                exact ⟨by rw [← HZ.out]; (try rw [h0]); (try rw [hq]); (try rw [h77]); (try rw [h70]); (try rw [h79]); (try rw [h6]); first | rfl | simp, HB7.out⟩
        | false =>
          cases hq : (T.toList == s.toList) with
          | false =>
            have hq2 : (T.toList != s.toList) = true := by rw [bne, hq]; rfl
            go_wp2_with (go_at_call 21; refine Stop.mk ?_)
            refine Stop.out (c21.mono ?_)
            rintro e W1 ⟨rfl, rfl⟩
            go_wp2_with (go_at_call 22; refine Stop.mk ?_)
            refine Stop.out (c22.mono ?_)
            rintro e W2 ⟨rfl, hb2⟩
            go_wp2
            go_ret
            exact ⟨by rw [← HZ.out]; (try rw [h0]); (try rw [hq]); (try rw [h77]); (try rw [h70]); (try rw [h79]); (try rw [h6]); first | rfl | simp, hb2⟩
          | true =>
            have hq2 : (T.toList != s.toList) = false := by rw [bne, hq]; rfl
            go_wp2_with (go_at_call 21; refine Stop.mk ?_)
            refine Stop.out (c21.mono ?_)
            rintro e W1 ⟨rfl, rfl⟩
            go_wp2_with (go_at_call 22; refine Stop.mk ?_)
            refine Stop.out (c22.mono ?_)
            rintro e W2 ⟨rfl, hb2⟩
            have g2 : W2.cell? ⟨1, i, none⟩ = some (.int .i64 v) := (hb2.cell (clt g1)).trans g1
            have HB2 : Hid _ := hb2
            clear hb2
            go_wp2_with (go_at_call 24; refine Stop.mk ?_)
            refine Stop.out ((HC.out _).mono ?_)
            rintro e W3 ⟨r, rfl, hr, hb3⟩
            have HB3 : Hid (Below wr.heap.size wr W3) := HB2.out.trans (hb3.mono HB2.out.size)
            clear hb3
            have c23 := fun W => fine_any W K r hr
            have hr2 := hr
            clear hr
            go_wp2_with (go_at_call 23; refine Stop.mk ?_)
            refine Stop.out ((c23 _).mono ?_)
            rintro e W4 ⟨rfl, hb4⟩
            have HB4 : Hid (Below wr.heap.size wr W4) := HB3.out.trans (hb4.mono HB3.out.size)
            clear hb4 c23
            cases K with
            | false =>
              go_wp2
              go_ret
              exact ⟨by rw [← HZ.out]; (try rw [h0]); (try rw [hq]); (try rw [h77]); (try rw [h70]); (try rw [h79]); (try rw [h6]); first | rfl | simp, HB4.out⟩
            | true =>
              go_wp2_with (go_at_call 26; refine Stop.mk ?_)
              refine Stop.out ((rdate_fl _ s hs).mono ?_)
              rintro e W5 ⟨x0, x1, x2, u, rfl, hu, hb5⟩
              have HB5 : Hid (Below wr.heap.size wr W5) := HB4.out.trans (hb5.mono HB4.out.size)
              clear hb5
              have c23 := fun W => fine_any W (dyB s) u hu
              generalize dyB s = Y at *
              rcases hu with ⟨rfl, rfl⟩ | ⟨rfl, g5, k5, y5, rfl⟩
              · have HB6 : Hid (Below wr.heap.size wr ((W5.alloc (.cells #[.int .i64 x0, .int .i64 x1, .int .i64 x2] 59)).alloc (.cells #[.slice none 0 0, .int .i64 0] 30))) := (HB5.out.alloc HB5.out.size _).alloc (by have := HB5.out.size; simp; omega) _
                go_wp2_with (go_at_call 23; refine Stop.mk ?_)
                refine Stop.out ((c23 _).mono ?_)
                rintro e W7 ⟨rfl, hb7⟩
                have HB7 : Hid (Below wr.heap.size wr W7) := HB6.out.trans (hb7.mono HB6.out.size)
                clear hb7
                go_wp2
                go_ret
                exact ⟨by rw [← HZ.out]; (try rw [h0]); (try rw [hq]); (try rw [h77]); (try rw [h70]); (try rw [h79]); (try rw [h6]); first | rfl | simp, HB7.out⟩
              · have HB6 : Hid (Below wr.heap.size wr ((W5.alloc (.cells #[.int .i64 x0, .int .i64 x1, .int .i64 x2] 59)).alloc (.cells #[.slice (some ⟨g5, 0, none⟩) 1 k5, .int .i64 y5] 30))) := (HB5.out.alloc HB5.out.size _).alloc (by have := HB5.out.size; simp; omega) _
                go_wp2_with (go_at_call 23; refine Stop.mk ?_)
                refine Stop.out ((c23 _).mono ?_)
                rintro e W7 ⟨rfl, hb7⟩
                have HB7 : Hid (Below wr.heap.size wr W7) := HB6.out.trans (hb7.mono HB6.out.size)
                clear hb7
                go_wp2
                go_ret
                exact ⟨by rw [← HZ.out]; (try rw [h0]); (try rw [hq]); (try rw [h77]); (try rw [h70]); (try rw [h79]); (try rw [h6]); first | rfl | simp, HB7.out⟩
set_option maxRecDepth 100000 in
set_option maxHeartbeats 8000000 in
theorem good_sex (w : World) (i : Nat) (hi : i < 19) (s : ByteArray) (hs : s.size ≤ 140737488351232) (hG : Gs w) (k0 : ((i : Int) == 0) = false) (k8 : ((i : Int) == 8) = false) (k15 : ((i : Int) == 15) = false) (k9 : ((i : Int) == 9) = true) : Calls Tryz.prog 14 #[.int .i64 (i : Int), .string s] w fun e w' => e = .returned (.bool (gtB (ndB i) (vv i) (sxB s) s)) ∧ Below w.heap.size w w' := by
  unfold gtB
  have c21 := needed_any w i hi
  have c22 : Calls Tryz.prog 22 #[.int .i64 (vv i), .string s] w fun e w' => e = .returned (.string (trT (vv i) s)) ∧ Below w.heap.size w w' := Rp.rtrim_any w (vv i) s hs
  have HC : Hid (∀ W, Calls Tryz.prog 24 #[.int .i64 (vv i), .string s] W fun e w' => ∃ r, e = .returned r ∧ FlV (ckK (vv i) s).isNone r ∧ Below W.heap.size W w') := fun W => rcheck_fl W (vv i) s hs
  unfold sxB
  have g1 := hG.dv i hi
  have HG : Hid (Gs w) := hG
  have iI : (i : Int) < 19 := by omega
  obtain ⟨R, hR⟩ : ∃ R, hasB s = R := ⟨_, rfl⟩
  have HR : Hid (hsG s s.size 0 = R) := (hs_has s).trans hR
  rw [hR]
  clear hR
  generalize ndB i = D at *
  generalize vv i = v at *
  generalize trT v s = T at *
  generalize (ckK v s).isNone = K at *
  obtain ⟨Z, hZ⟩ : ∃ Z, (!R && (!(D && s.toList.isEmpty) && ((T.toList == s.toList) && (K && (s.toList.isEmpty || ((s.toList == [77]) || ((s.toList == [70]) || (s.toList == [79])))))))) = Z := ⟨_, rfl⟩
  have HZ : Hid _ := hZ
  rw [hZ]
  clear hG hZ
  go_enter Tryz.func14, Tryz.ntmps14
  go_wp2
  go_loopg [5] s.size (fun k s5 wx => ∃ j f : Nat, s5 = .int .i64 (j : Int) ∧ j ≤ s.size ∧ k + j = s.size ∧ s.size ≤ j + f ∧ Hid (hsG s f j = R) ∧ wx = w)
  case atStart => exact ⟨0, s.size, rfl, by omega, by omega, by omega, HR, rfl⟩
  case round =>
    clear HR
    obtain ⟨j, f, rfl, hj, hg, hf, HI, rfl⟩ := hrel
    by_cases hlt : j < s.size
    · have jI : (j : Int) < (s.size : Int) := by omega
      obtain ⟨b, hb⟩ : ∃ b, s[j].toNat = b := ⟨_, rfl⟩
      have hgb : (s.get! j).toNat = b := by rw [← get_get! s j hlt, hb]
      obtain ⟨f, rfl⟩ : ∃ f', f = f' + 1 := ⟨f - 1, by omega⟩
      have HI2 : Hid ((if b = 92 then true else hsG s f (j + 1)) = R) := by
        have := HI.out
        rw [hsG, if_pos hlt, hgb] at this
        exact this
      clear HI hgb
      by_cases h1 : b = 92
      · have i1 : ((b : Int) == 92) = true := by rw [h1]; rfl
        obtain rfl : R = true := by have := HI2.out; rw [if_pos h1] at this; exact this.symm
        clear HI2 h1
        go_wp2
        go_ret
        exact ⟨by rw [← HZ.out]; rfl, Below.refl _ _⟩
      · have i1 : ((b : Int) == 92) = false := beq_eq_false_iff_ne.2 (by omega)
        have HI3 : Hid (hsG s f (j + 1) = R) := by have := HI2.out; rw [if_neg h1] at this; exact this
        clear HI2
        go_wp2
        go_roundg (s.size - (j + 1))
        case measure => omega
        case rel => exact ⟨j + 1, f, by simp, by omega, by omega, by omega, HI3, rfl⟩
    · have jI : ¬ ((j : Int) < (s.size : Int)) := by omega
      obtain rfl : R = false := by
        have := HI.out
        cases f with
        | zero => exact this.symm
        | succ f => rw [hsG, if_neg hlt] at this; exact this.symm
      clear HI
      cases h0 : s.toList.isEmpty with
      | true =>
        cases D with
        | true =>
          go_wp2_with (go_at_call 21; refine Stop.mk ?_)
          refine Stop.out (c21.mono ?_)
          rintro e W1 ⟨rfl, rfl⟩
          go_wp2
          go_ret
          exact ⟨by rw [← HZ.out, h0]; rfl, Below.refl _ _⟩
        | false =>
          cases hq : (T.toList == s.toList) with
          | false =>
            have hq2 : (T.toList != s.toList) = true := by rw [bne, hq]; rfl
            go_wp2_with (go_at_call 21; refine Stop.mk ?_)
            refine Stop.out (c21.mono ?_)
            rintro e W1 ⟨rfl, rfl⟩
            go_wp2_with (go_at_call 22; refine Stop.mk ?_)
            refine Stop.out (c22.mono ?_)
            rintro e W2 ⟨rfl, hb2⟩
            go_wp2
            go_ret
            exact ⟨by rw [← HZ.out]; (try rw [h0]); (try rw [hq]); (try rw [h77]); (try rw [h70]); (try rw [h79]); (try rw [h6]); first | rfl | simp, hb2⟩
          | true =>
            have hq2 : (T.toList != s.toList) = false := by rw [bne, hq]; rfl
            go_wp2_with (go_at_call 21; refine Stop.mk ?_)
            refine Stop.out (c21.mono ?_)
            rintro e W1 ⟨rfl, rfl⟩
            go_wp2_with (go_at_call 22; refine Stop.mk ?_)
            refine Stop.out (c22.mono ?_)
            rintro e W2 ⟨rfl, hb2⟩
            have g2 : W2.cell? ⟨1, i, none⟩ = some (.int .i64 v) := (hb2.cell (clt g1)).trans g1
            have HB2 : Hid _ := hb2
            clear hb2
            go_wp2_with (go_at_call 24; refine Stop.mk ?_)
            refine Stop.out ((HC.out _).mono ?_)
            rintro e W3 ⟨r, rfl, hr, hb3⟩
            have HB3 : Hid (Below wr.heap.size wr W3) := HB2.out.trans (hb3.mono HB2.out.size)
            clear hb3
            have c23 := fun W => fine_any W K r hr
            have hr2 := hr
            clear hr
            go_wp2_with (go_at_call 23; refine Stop.mk ?_)
            refine Stop.out ((c23 _).mono ?_)
            rintro e W4 ⟨rfl, hb4⟩
            have HB4 : Hid (Below wr.heap.size wr W4) := HB3.out.trans (hb4.mono HB3.out.size)
            clear hb4 c23
            cases K with
            | false =>
              go_wp2
              go_ret
              exact ⟨by rw [← HZ.out]; (try rw [h0]); (try rw [hq]); (try rw [h77]); (try rw [h70]); (try rw [h79]); (try rw [h6]); first | rfl | simp, HB4.out⟩
            | true =>
              go_wp2
              go_ret
              exact ⟨by rw [← HZ.out]; (try rw [h0]); (try rw [hq]); (try rw [h77]); (try rw [h70]); (try rw [h79]); (try rw [h6]); first | rfl | simp, HB4.out⟩
      | false =>
        cases D with
        | true =>
          cases hq : (T.toList == s.toList) with
          | false =>
            have hq2 : (T.toList != s.toList) = true := by rw [bne, hq]; rfl
            go_wp2_with (go_at_call 21; refine Stop.mk ?_)
            refine Stop.out (c21.mono ?_)
            rintro e W1 ⟨rfl, rfl⟩
            go_wp2_with (go_at_call 22; refine Stop.mk ?_)
            refine Stop.out (c22.mono ?_)
            rintro e W2 ⟨rfl, hb2⟩
            go_wp2
            go_ret
            exact ⟨by rw [← HZ.out]; (try rw [h0]); (try rw [hq]); (try rw [h77]); (try rw [h70]); (try rw [h79]); (try rw [h6]); first | rfl | simp, hb2⟩
          | true =>
            have hq2 : (T.toList != s.toList) = false := by rw [bne, hq]; rfl
            go_wp2_with (go_at_call 21; refine Stop.mk ?_)
            refine Stop.out (c21.mono ?_)
            rintro e W1 ⟨rfl, rfl⟩
            go_wp2_with (go_at_call 22; refine Stop.mk ?_)
            refine Stop.out (c22.mono ?_)
            rintro e W2 ⟨rfl, hb2⟩
            have g2 : W2.cell? ⟨1, i, none⟩ = some (.int .i64 v) := (hb2.cell (clt g1)).trans g1
            have HB2 : Hid _ := hb2
            clear hb2
            go_wp2_with (go_at_call 24; refine Stop.mk ?_)
            refine Stop.out ((HC.out _).mono ?_)
            rintro e W3 ⟨r, rfl, hr, hb3⟩
            have HB3 : Hid (Below wr.heap.size wr W3) := HB2.out.trans (hb3.mono HB2.out.size)
            clear hb3
            have c23 := fun W => fine_any W K r hr
            have hr2 := hr
            clear hr
            go_wp2_with (go_at_call 23; refine Stop.mk ?_)
            refine Stop.out ((c23 _).mono ?_)
            rintro e W4 ⟨rfl, hb4⟩
            have HB4 : Hid (Below wr.heap.size wr W4) := HB3.out.trans (hb4.mono HB3.out.size)
            clear hb4 c23
            cases K with
            | false =>
              go_wp2
              go_ret
              exact ⟨by rw [← HZ.out]; (try rw [h0]); (try rw [hq]); (try rw [h77]); (try rw [h70]); (try rw [h79]); (try rw [h6]); first | rfl | simp, HB4.out⟩
            | true =>
              cases h77 : (s.toList == [77]) with
              | true =>
                go_wp2
                go_ret
                exact ⟨by rw [← HZ.out]; (try rw [h0]); (try rw [hq]); (try rw [h77]); (try rw [h70]); (try rw [h79]); (try rw [h6]); first | rfl | simp, HB4.out⟩
              | false =>
                cases h70 : (s.toList == [70]) with
                | true =>
                  go_wp2
                  go_ret
                  exact ⟨by rw [← HZ.out]; (try rw [h0]); (try rw [hq]); (try rw [h77]); (try rw [h70]); (try rw [h79]); (try rw [h6]); first | rfl | simp, HB4.out⟩
                | false =>
                  cases h79 : (s.toList == [79]) with
                  | true =>
                    go_wp2
                    go_ret
                    exact ⟨by rw [← HZ.out]; (try rw [h0]); (try rw [hq]); (try rw [h77]); (try rw [h70]); (try rw [h79]); (try rw [h6]); first | rfl | simp, HB4.out⟩
                  | false =>
                    go_wp2
                    go_ret
                    exact ⟨by rw [← HZ.out]; (try rw [h0]); (try rw [hq]); (try rw [h77]); (try rw [h70]); (try rw [h79]); (try rw [h6]); first | rfl | simp, HB4.out⟩
        | false =>
          cases hq : (T.toList == s.toList) with
          | false =>
            have hq2 : (T.toList != s.toList) = true := by rw [bne, hq]; rfl
            go_wp2_with (go_at_call 21; refine Stop.mk ?_)
            refine Stop.out (c21.mono ?_)
            rintro e W1 ⟨rfl, rfl⟩
            go_wp2_with (go_at_call 22; refine Stop.mk ?_)
            refine Stop.out (c22.mono ?_)
            rintro e W2 ⟨rfl, hb2⟩
            go_wp2
            go_ret
            exact ⟨by rw [← HZ.out]; (try rw [h0]); (try rw [hq]); (try rw [h77]); (try rw [h70]); (try rw [h79]); (try rw [h6]); first | rfl | simp, hb2⟩
          | true =>
            have hq2 : (T.toList != s.toList) = false := by rw [bne, hq]; rfl
            go_wp2_with (go_at_call 21; refine Stop.mk ?_)
            refine Stop.out (c21.mono ?_)
            rintro e W1 ⟨rfl, rfl⟩
            go_wp2_with (go_at_call 22; refine Stop.mk ?_)
            refine Stop.out (c22.mono ?_)
            rintro e W2 ⟨rfl, hb2⟩
            have g2 : W2.cell? ⟨1, i, none⟩ = some (.int .i64 v) := (hb2.cell (clt g1)).trans g1
            have HB2 : Hid _ := hb2
            clear hb2
            go_wp2_with (go_at_call 24; refine Stop.mk ?_)
            refine Stop.out ((HC.out _).mono ?_)
            rintro e W3 ⟨r, rfl, hr, hb3⟩
            have HB3 : Hid (Below wr.heap.size wr W3) := HB2.out.trans (hb3.mono HB2.out.size)
            clear hb3
            have c23 := fun W => fine_any W K r hr
            have hr2 := hr
            clear hr
            go_wp2_with (go_at_call 23; refine Stop.mk ?_)
            refine Stop.out ((c23 _).mono ?_)
            rintro e W4 ⟨rfl, hb4⟩
            have HB4 : Hid (Below wr.heap.size wr W4) := HB3.out.trans (hb4.mono HB3.out.size)
            clear hb4 c23
            cases K with
            | false =>
              go_wp2
              go_ret
              exact ⟨by rw [← HZ.out]; (try rw [h0]); (try rw [hq]); (try rw [h77]); (try rw [h70]); (try rw [h79]); (try rw [h6]); first | rfl | simp, HB4.out⟩
            | true =>
              cases h77 : (s.toList == [77]) with
              | true =>
                go_wp2
                go_ret
                exact ⟨by rw [← HZ.out]; (try rw [h0]); (try rw [hq]); (try rw [h77]); (try rw [h70]); (try rw [h79]); (try rw [h6]); first | rfl | simp, HB4.out⟩
              | false =>
                cases h70 : (s.toList == [70]) with
                | true =>
                  go_wp2
                  go_ret
                  exact ⟨by rw [← HZ.out]; (try rw [h0]); (try rw [hq]); (try rw [h77]); (try rw [h70]); (try rw [h79]); (try rw [h6]); first | rfl | simp, HB4.out⟩
                | false =>
                  cases h79 : (s.toList == [79]) with
                  | true =>
                    go_wp2
                    go_ret
                    exact ⟨by rw [← HZ.out]; (try rw [h0]); (try rw [hq]); (try rw [h77]); (try rw [h70]); (try rw [h79]); (try rw [h6]); first | rfl | simp, HB4.out⟩
                  | false =>
                    go_wp2
                    go_ret
                    exact ⟨by rw [← HZ.out]; (try rw [h0]); (try rw [hq]); (try rw [h77]); (try rw [h70]); (try rw [h79]); (try rw [h6]); first | rfl | simp, HB4.out⟩
set_option maxRecDepth 100000 in
set_option maxHeartbeats 8000000 in
theorem good_time (w : World) (i : Nat) (hi : i < 19) (s : ByteArray) (hs : s.size ≤ 140737488351232) (hG : Gs w) (k0 : ((i : Int) == 0) = false) (k8 : ((i : Int) == 8) = false) (k15 : ((i : Int) == 15) = false) (k9 : ((i : Int) == 9) = false) (k16 : ((i : Int) == 16) = true) : Calls Tryz.prog 14 #[.int .i64 (i : Int), .string s] w fun e w' => e = .returned (.bool (gtB (ndB i) (vv i) (((s.size : Int) == 6) && tiB s) s)) ∧ Below w.heap.size w w' := by
  unfold gtB
  have c21 := needed_any w i hi
  have c22 : Calls Tryz.prog 22 #[.int .i64 (vv i), .string s] w fun e w' => e = .returned (.string (trT (vv i) s)) ∧ Below w.heap.size w w' := Rp.rtrim_any w (vv i) s hs
  have HC : Hid (∀ W, Calls Tryz.prog 24 #[.int .i64 (vv i), .string s] W fun e w' => ∃ r, e = .returned r ∧ FlV (ckK (vv i) s).isNone r ∧ Below W.heap.size W w') := fun W => rcheck_fl W (vv i) s hs
  have g1 := hG.dv i hi
  have HG : Hid (Gs w) := hG
  have iI : (i : Int) < 19 := by omega
  obtain ⟨R, hR⟩ : ∃ R, hasB s = R := ⟨_, rfl⟩
  have HR : Hid (hsG s s.size 0 = R) := (hs_has s).trans hR
  rw [hR]
  clear hR
  generalize ndB i = D at *
  generalize vv i = v at *
  generalize trT v s = T at *
  generalize (ckK v s).isNone = K at *
  obtain ⟨Z, hZ⟩ : ∃ Z, (!R && (!(D && s.toList.isEmpty) && ((T.toList == s.toList) && (K && (((s.size : Int) == 6) && tiB s))))) = Z := ⟨_, rfl⟩
  have HZ : Hid _ := hZ
  rw [hZ]
  clear hG hZ
  go_enter Tryz.func14, Tryz.ntmps14
  go_wp2
  go_loopg [5] s.size (fun k s5 wx => ∃ j f : Nat, s5 = .int .i64 (j : Int) ∧ j ≤ s.size ∧ k + j = s.size ∧ s.size ≤ j + f ∧ Hid (hsG s f j = R) ∧ wx = w)
  case atStart => exact ⟨0, s.size, rfl, by omega, by omega, by omega, HR, rfl⟩
  case round =>
    clear HR
    obtain ⟨j, f, rfl, hj, hg, hf, HI, rfl⟩ := hrel
    by_cases hlt : j < s.size
    · have jI : (j : Int) < (s.size : Int) := by omega
      obtain ⟨b, hb⟩ : ∃ b, s[j].toNat = b := ⟨_, rfl⟩
      have hgb : (s.get! j).toNat = b := by rw [← get_get! s j hlt, hb]
      obtain ⟨f, rfl⟩ : ∃ f', f = f' + 1 := ⟨f - 1, by omega⟩
      have HI2 : Hid ((if b = 92 then true else hsG s f (j + 1)) = R) := by
        have := HI.out
        rw [hsG, if_pos hlt, hgb] at this
        exact this
      clear HI hgb
      by_cases h1 : b = 92
      · have i1 : ((b : Int) == 92) = true := by rw [h1]; rfl
        obtain rfl : R = true := by have := HI2.out; rw [if_pos h1] at this; exact this.symm
        clear HI2 h1
        go_wp2
        go_ret
        exact ⟨by rw [← HZ.out]; rfl, Below.refl _ _⟩
      · have i1 : ((b : Int) == 92) = false := beq_eq_false_iff_ne.2 (by omega)
        have HI3 : Hid (hsG s f (j + 1) = R) := by have := HI2.out; rw [if_neg h1] at this; exact this
        clear HI2
        go_wp2
        go_roundg (s.size - (j + 1))
        case measure => omega
        case rel => exact ⟨j + 1, f, by simp, by omega, by omega, by omega, HI3, rfl⟩
    · have jI : ¬ ((j : Int) < (s.size : Int)) := by omega
      obtain rfl : R = false := by
        have := HI.out
        cases f with
        | zero => exact this.symm
        | succ f => rw [hsG, if_neg hlt] at this; exact this.symm
      clear HI
      cases h0 : s.toList.isEmpty with
      | true =>
        cases D with
        | true =>
          go_wp2_with (go_at_call 21; refine Stop.mk ?_)
          refine Stop.out (c21.mono ?_)
          rintro e W1 ⟨rfl, rfl⟩
          go_wp2
          go_ret
          exact ⟨by rw [← HZ.out, h0]; rfl, Below.refl _ _⟩
        | false =>
          cases hq : (T.toList == s.toList) with
          | false =>
            have hq2 : (T.toList != s.toList) = true := by rw [bne, hq]; rfl
            go_wp2_with (go_at_call 21; refine Stop.mk ?_)
            refine Stop.out (c21.mono ?_)
            rintro e W1 ⟨rfl, rfl⟩
            go_wp2_with (go_at_call 22; refine Stop.mk ?_)
            refine Stop.out (c22.mono ?_)
            rintro e W2 ⟨rfl, hb2⟩
            go_wp2
            go_ret
            exact ⟨by rw [← HZ.out]; (try rw [h0]); (try rw [hq]); (try rw [h77]); (try rw [h70]); (try rw [h79]); (try rw [h6]); first | rfl | simp, hb2⟩
          | true =>
            have hq2 : (T.toList != s.toList) = false := by rw [bne, hq]; rfl
            go_wp2_with (go_at_call 21; refine Stop.mk ?_)
            refine Stop.out (c21.mono ?_)
            rintro e W1 ⟨rfl, rfl⟩
            go_wp2_with (go_at_call 22; refine Stop.mk ?_)
            refine Stop.out (c22.mono ?_)
            rintro e W2 ⟨rfl, hb2⟩
            have g2 : W2.cell? ⟨1, i, none⟩ = some (.int .i64 v) := (hb2.cell (clt g1)).trans g1
            have HB2 : Hid _ := hb2
            clear hb2
            go_wp2_with (go_at_call 24; refine Stop.mk ?_)
            refine Stop.out ((HC.out _).mono ?_)
            rintro e W3 ⟨r, rfl, hr, hb3⟩
            have HB3 : Hid (Below wr.heap.size wr W3) := HB2.out.trans (hb3.mono HB2.out.size)
            clear hb3
            have c23 := fun W => fine_any W K r hr
            have hr2 := hr
            clear hr
            go_wp2_with (go_at_call 23; refine Stop.mk ?_)
            refine Stop.out ((c23 _).mono ?_)
            rintro e W4 ⟨rfl, hb4⟩
            have HB4 : Hid (Below wr.heap.size wr W4) := HB3.out.trans (hb4.mono HB3.out.size)
            clear hb4 c23
            cases K with
            | false =>
              go_wp2
              go_ret
              exact ⟨by rw [← HZ.out]; (try rw [h0]); (try rw [hq]); (try rw [h77]); (try rw [h70]); (try rw [h79]); (try rw [h6]); first | rfl | simp, HB4.out⟩
            | true =>
              go_wp2_with (go_at_call 27; refine Stop.mk ?_)
              refine Stop.out ((rtime_fl _ s hs).mono ?_)
              rintro e W5 ⟨x0, x1, x2, x3, x4, u, rfl, hu, hb5⟩
              have HB5 : Hid (Below wr.heap.size wr W5) := HB4.out.trans (hb5.mono HB4.out.size)
              clear hb5
              have c23 := fun W => fine_any W (tiB s) u hu
              generalize tiB s = Y at *
              cases h6 : ((s.size : Int) == 6) with
              | true =>
                rcases hu with ⟨rfl, rfl⟩ | ⟨rfl, g5, k5, y5, rfl⟩
                · have HB6 : Hid (Below wr.heap.size wr ((W5.alloc (.cells #[.int .i64 x0, .int .i64 x1, .int .i64 x2, .int .i64 x3, .int .i64 x4] 63)).alloc (.cells #[.slice none 0 0, .int .i64 0] 30))) := (HB5.out.alloc HB5.out.size _).alloc (by have := HB5.out.size; simp; omega) _
                  go_wp2_with (go_at_call 23; refine Stop.mk ?_)
                  refine Stop.out ((c23 _).mono ?_)
                  rintro e W7 ⟨rfl, hb7⟩
                  have HB7 : Hid (Below wr.heap.size wr W7) := HB6.out.trans (hb7.mono HB6.out.size)
                  clear hb7
                  go_wp2
                  go_ret
                  exact ⟨by rw [← HZ.out]; (try rw [h0]); (try rw [hq]); (try rw [h77]); (try rw [h70]); (try rw [h79]); (try rw [h6]); first | rfl | simp, HB7.out⟩
                · have HB6 : Hid (Below wr.heap.size wr ((W5.alloc (.cells #[.int .i64 x0, .int .i64 x1, .int .i64 x2, .int .i64 x3, .int .i64 x4] 63)).alloc (.cells #[.slice (some ⟨g5, 0, none⟩) 1 k5, .int .i64 y5] 30))) := (HB5.out.alloc HB5.out.size _).alloc (by have := HB5.out.size; simp; omega) _
                  go_wp2_with (go_at_call 23; refine Stop.mk ?_)
                  refine Stop.out ((c23 _).mono ?_)
                  rintro e W7 ⟨rfl, hb7⟩
                  have HB7 : Hid (Below wr.heap.size wr W7) := HB6.out.trans (hb7.mono HB6.out.size)
                  clear hb7
                  go_wp2
                  go_ret
                  exact ⟨by rw [← HZ.out]; (try rw [h0]); (try rw [hq]); (try rw [h77]); (try rw [h70]); (try rw [h79]); (try rw [h6]); first | rfl | simp, HB7.out⟩
              | false =>
                rcases hu with ⟨rfl, rfl⟩ | ⟨rfl, g5, k5, y5, rfl⟩
                · have HB6 : Hid (Below wr.heap.size wr ((W5.alloc (.cells #[.int .i64 x0, .int .i64 x1, .int .i64 x2, .int .i64 x3, .int .i64 x4] 63)).alloc (.cells #[.slice none 0 0, .int .i64 0] 30))) := (HB5.out.alloc HB5.out.size _).alloc (by have := HB5.out.size; simp; omega) _
                  go_wp2
                  go_ret
                  exact ⟨by rw [← HZ.out]; (try rw [h0]); (try rw [hq]); (try rw [h77]); (try rw [h70]); (try rw [h79]); (try rw [h6]); first | rfl | simp, HB6.out⟩
                · have HB6 : Hid (Below wr.heap.size wr ((W5.alloc (.cells #[.int .i64 x0, .int .i64 x1, .int .i64 x2, .int .i64 x3, .int .i64 x4] 63)).alloc (.cells #[.slice (some ⟨g5, 0, none⟩) 1 k5, .int .i64 y5] 30))) := (HB5.out.alloc HB5.out.size _).alloc (by have := HB5.out.size; simp; omega) _
                  go_wp2
                  go_ret
                  exact ⟨by rw [← HZ.out]; (try rw [h0]); (try rw [hq]); (try rw [h77]); (try rw [h70]); (try rw [h79]); (try rw [h6]); first | rfl | simp, HB6.out⟩
      | false =>
        cases D with
        | true =>
          cases hq : (T.toList == s.toList) with
          | false =>
            have hq2 : (T.toList != s.toList) = true := by rw [bne, hq]; rfl
            go_wp2_with (go_at_call 21; refine Stop.mk ?_)
            refine Stop.out (c21.mono ?_)
            rintro e W1 ⟨rfl, rfl⟩
            go_wp2_with (go_at_call 22; refine Stop.mk ?_)
            refine Stop.out (c22.mono ?_)
            rintro e W2 ⟨rfl, hb2⟩
            go_wp2
            go_ret
            exact ⟨by rw [← HZ.out]; (try rw [h0]); (try rw [hq]); (try rw [h77]); (try rw [h70]); (try rw [h79]); (try rw [h6]); first | rfl | simp, hb2⟩
          | true =>
            have hq2 : (T.toList != s.toList) = false := by rw [bne, hq]; rfl
            go_wp2_with (go_at_call 21; refine Stop.mk ?_)
            refine Stop.out (c21.mono ?_)
            rintro e W1 ⟨rfl, rfl⟩
            go_wp2_with (go_at_call 22; refine Stop.mk ?_)
            refine Stop.out (c22.mono ?_)
            rintro e W2 ⟨rfl, hb2⟩
            have g2 : W2.cell? ⟨1, i, none⟩ = some (.int .i64 v) := (hb2.cell (clt g1)).trans g1
            have HB2 : Hid _ := hb2
            clear hb2
            go_wp2_with (go_at_call 24; refine Stop.mk ?_)
            refine Stop.out ((HC.out _).mono ?_)
            rintro e W3 ⟨r, rfl, hr, hb3⟩
            have HB3 : Hid (Below wr.heap.size wr W3) := HB2.out.trans (hb3.mono HB2.out.size)
            clear hb3
            have c23 := fun W => fine_any W K r hr
            have hr2 := hr
            clear hr
            go_wp2_with (go_at_call 23; refine Stop.mk ?_)
            refine Stop.out ((c23 _).mono ?_)
            rintro e W4 ⟨rfl, hb4⟩
            have HB4 : Hid (Below wr.heap.size wr W4) := HB3.out.trans (hb4.mono HB3.out.size)
            clear hb4 c23
            cases K with
            | false =>
              go_wp2
              go_ret
              exact ⟨by rw [← HZ.out]; (try rw [h0]); (try rw [hq]); (try rw [h77]); (try rw [h70]); (try rw [h79]); (try rw [h6]); first | rfl | simp, HB4.out⟩
            | true =>
              go_wp2_with (go_at_call 27; refine Stop.mk ?_)
              refine Stop.out ((rtime_fl _ s hs).mono ?_)
              rintro e W5 ⟨x0, x1, x2, x3, x4, u, rfl, hu, hb5⟩
              have HB5 : Hid (Below wr.heap.size wr W5) := HB4.out.trans (hb5.mono HB4.out.size)
              clear hb5
              have c23 := fun W => fine_any W (tiB s) u hu
              generalize tiB s = Y at *
              cases h6 : ((s.size : Int) == 6) with
              | true =>
                rcases hu with ⟨rfl, rfl⟩ | ⟨rfl, g5, k5, y5, rfl⟩
                · have HB6 : Hid (Below wr.heap.size wr ((W5.alloc (.cells #[.int .i64 x0, .int .i64 x1, .int .i64 x2, .int .i64 x3, .int .i64 x4] 63)).alloc (.cells #[.slice none 0 0, .int .i64 0] 30))) := (HB5.out.alloc HB5.out.size _).alloc (by have := HB5.out.size; simp; omega) _
                  go_wp2_with (go_at_call 23; refine Stop.mk ?_)
                  refine Stop.out ((c23 _).mono ?_)
                  rintro e W7 ⟨rfl, hb7⟩
                  have HB7 : Hid (Below wr.heap.size wr W7) := HB6.out.trans (hb7.mono HB6.out.size)
                  clear hb7
                  go_wp2
                  go_ret
                  exact ⟨by rw [← HZ.out]; (try rw [h0]); (try rw [hq]); (try rw [h77]); (try rw [h70]); (try rw [h79]); (try rw [h6]); first | rfl | simp, HB7.out⟩
                · have HB6 : Hid (Below wr.heap.size wr ((W5.alloc (.cells #[.int .i64 x0, .int .i64 x1, .int .i64 x2, .int .i64 x3, .int .i64 x4] 63)).alloc (.cells #[.slice (some ⟨g5, 0, none⟩) 1 k5, .int .i64 y5] 30))) := (HB5.out.alloc HB5.out.size _).alloc (by have := HB5.out.size; simp; omega) _
                  go_wp2_with (go_at_call 23; refine Stop.mk ?_)
                  refine Stop.out ((c23 _).mono ?_)
                  rintro e W7 ⟨rfl, hb7⟩
                  have HB7 : Hid (Below wr.heap.size wr W7) := HB6.out.trans (hb7.mono HB6.out.size)
                  clear hb7
                  go_wp2
                  go_ret
                  exact ⟨by rw [← HZ.out]; (try rw [h0]); (try rw [hq]); (try rw [h77]); (try rw [h70]); (try rw [h79]); (try rw [h6]); first | rfl | simp, HB7.out⟩
              | false =>
                rcases hu with ⟨rfl, rfl⟩ | ⟨rfl, g5, k5, y5, rfl⟩
                · have HB6 : Hid (Below wr.heap.size wr ((W5.alloc (.cells #[.int .i64 x0, .int .i64 x1, .int .i64 x2, .int .i64 x3, .int .i64 x4] 63)).alloc (.cells #[.slice none 0 0, .int .i64 0] 30))) := (HB5.out.alloc HB5.out.size _).alloc (by have := HB5.out.size; simp; omega) _
                  go_wp2
                  go_ret
                  exact ⟨by rw [← HZ.out]; (try rw [h0]); (try rw [hq]); (try rw [h77]); (try rw [h70]); (try rw [h79]); (try rw [h6]); first | rfl | simp, HB6.out⟩
                · have HB6 : Hid (Below wr.heap.size wr ((W5.alloc (.cells #[.int .i64 x0, .int .i64 x1, .int .i64 x2, .int .i64 x3, .int .i64 x4] 63)).alloc (.cells #[.slice (some ⟨g5, 0, none⟩) 1 k5, .int .i64 y5] 30))) := (HB5.out.alloc HB5.out.size _).alloc (by have := HB5.out.size; simp; omega) _
                  go_wp2
                  go_ret
                  exact ⟨by rw [← HZ.out]; (try rw [h0]); (try rw [hq]); (try rw [h77]); (try rw [h70]); (try rw [h79]); (try rw [h6]); first | rfl | simp, HB6.out⟩
        | false =>
          cases hq : (T.toList == s.toList) with
          | false =>
            have hq2 : (T.toList != s.toList) = true := by rw [bne, hq]; rfl
            go_wp2_with (go_at_call 21; refine Stop.mk ?_)
            refine Stop.out (c21.mono ?_)
            rintro e W1 ⟨rfl, rfl⟩
            go_wp2_with (go_at_call 22; refine Stop.mk ?_)
            refine Stop.out (c22.mono ?_)
            rintro e W2 ⟨rfl, hb2⟩
            go_wp2
            go_ret
            exact ⟨by rw [← HZ.out]; (try rw [h0]); (try rw [hq]); (try rw [h77]); (try rw [h70]); (try rw [h79]); (try rw [h6]); first | rfl | simp, hb2⟩
          | true =>
            have hq2 : (T.toList != s.toList) = false := by rw [bne, hq]; rfl
            go_wp2_with (go_at_call 21; refine Stop.mk ?_)
            refine Stop.out (c21.mono ?_)
            rintro e W1 ⟨rfl, rfl⟩
            go_wp2_with (go_at_call 22; refine Stop.mk ?_)
            refine Stop.out (c22.mono ?_)
            rintro e W2 ⟨rfl, hb2⟩
            have g2 : W2.cell? ⟨1, i, none⟩ = some (.int .i64 v) := (hb2.cell (clt g1)).trans g1
            have HB2 : Hid _ := hb2
            clear hb2
            go_wp2_with (go_at_call 24; refine Stop.mk ?_)
            refine Stop.out ((HC.out _).mono ?_)
            rintro e W3 ⟨r, rfl, hr, hb3⟩
            have HB3 : Hid (Below wr.heap.size wr W3) := HB2.out.trans (hb3.mono HB2.out.size)
            clear hb3
            have c23 := fun W => fine_any W K r hr
            have hr2 := hr
            clear hr
            go_wp2_with (go_at_call 23; refine Stop.mk ?_)
            refine Stop.out ((c23 _).mono ?_)
            rintro e W4 ⟨rfl, hb4⟩
            have HB4 : Hid (Below wr.heap.size wr W4) := HB3.out.trans (hb4.mono HB3.out.size)
            clear hb4 c23
            cases K with
            | false =>
              go_wp2
              go_ret
              exact ⟨by rw [← HZ.out]; (try rw [h0]); (try rw [hq]); (try rw [h77]); (try rw [h70]); (try rw [h79]); (try rw [h6]); first | rfl | simp, HB4.out⟩
            | true =>
              go_wp2_with (go_at_call 27; refine Stop.mk ?_)
              refine Stop.out ((rtime_fl _ s hs).mono ?_)
              rintro e W5 ⟨x0, x1, x2, x3, x4, u, rfl, hu, hb5⟩
              have HB5 : Hid (Below wr.heap.size wr W5) := HB4.out.trans (hb5.mono HB4.out.size)
              clear hb5
              have c23 := fun W => fine_any W (tiB s) u hu
              generalize tiB s = Y at *
              cases h6 : ((s.size : Int) == 6) with
              | true =>
                rcases hu with ⟨rfl, rfl⟩ | ⟨rfl, g5, k5, y5, rfl⟩
                · have HB6 : Hid (Below wr.heap.size wr ((W5.alloc (.cells #[.int .i64 x0, .int .i64 x1, .int .i64 x2, .int .i64 x3, .int .i64 x4] 63)).alloc (.cells #[.slice none 0 0, .int .i64 0] 30))) := (HB5.out.alloc HB5.out.size _).alloc (by have := HB5.out.size; simp; omega) _
                  go_wp2_with (go_at_call 23; refine Stop.mk ?_)
                  refine Stop.out ((c23 _).mono ?_)
                  rintro e W7 ⟨rfl, hb7⟩
                  have HB7 : Hid (Below wr.heap.size wr W7) := HB6.out.trans (hb7.mono HB6.out.size)
                  clear hb7
                  go_wp2
                  go_ret
                  exact ⟨by rw [← HZ.out]; (try rw [h0]); (try rw [hq]); (try rw [h77]); (try rw [h70]); (try rw [h79]); (try rw [h6]); first | rfl | simp, HB7.out⟩
                · have HB6 : Hid (Below wr.heap.size wr ((W5.alloc (.cells #[.int .i64 x0, .int .i64 x1, .int .i64 x2, .int .i64 x3, .int .i64 x4] 63)).alloc (.cells #[.slice (some ⟨g5, 0, none⟩) 1 k5, .int .i64 y5] 30))) := (HB5.out.alloc HB5.out.size _).alloc (by have := HB5.out.size; simp; omega) _
                  go_wp2_with (go_at_call 23; refine Stop.mk ?_)
                  refine Stop.out ((c23 _).mono ?_)
                  rintro e W7 ⟨rfl, hb7⟩
                  have HB7 : Hid (Below wr.heap.size wr W7) := HB6.out.trans (hb7.mono HB6.out.size)
                  clear hb7
                  go_wp2
                  go_ret
                  exact ⟨by rw [← HZ.out]; (try rw [h0]); (try rw [hq]); (try rw [h77]); (try rw [h70]); (try rw [h79]); (try rw [h6]); first | rfl | simp, HB7.out⟩
              | false =>
                rcases hu with ⟨rfl, rfl⟩ | ⟨rfl, g5, k5, y5, rfl⟩
                · have HB6 : Hid (Below wr.heap.size wr ((W5.alloc (.cells #[.int .i64 x0, .int .i64 x1, .int .i64 x2, .int .i64 x3, .int .i64 x4] 63)).alloc (.cells #[.slice none 0 0, .int .i64 0] 30))) := (HB5.out.alloc HB5.out.size _).alloc (by have := HB5.out.size; simp; omega) _
                  go_wp2
                  go_ret
                  exact ⟨by rw [← HZ.out]; (try rw [h0]); (try rw [hq]); (try rw [h77]); (try rw [h70]); (try rw [h79]); (try rw [h6]); first | rfl | simp, HB6.out⟩
                · have HB6 : Hid (Below wr.heap.size wr ((W5.alloc (.cells #[.int .i64 x0, .int .i64 x1, .int .i64 x2, .int .i64 x3, .int .i64 x4] 63)).alloc (.cells #[.slice (some ⟨g5, 0, none⟩) 1 k5, .int .i64 y5] 30))) := (HB5.out.alloc HB5.out.size _).alloc (by have := HB5.out.size; simp; omega) _
                  go_wp2
                  go_ret
                  exact ⟨by rw [← HZ.out]; (try rw [h0]); (try rw [hq]); (try rw [h77]); (try rw [h70]); (try rw [h79]); (try rw [h6]); first | rfl | simp, HB6.out⟩
theorem good_any (w : World) (i : Nat) (hi : i < 19) (s : ByteArray) (hs : s.size ≤ 140737488351232) (hG : Gs w) : Calls Tryz.prog 14 #[.int .i64 (i : Int), .string s] w fun e w' => e = .returned (.bool (gtB (ndB i) (vv i) (swB i s) s)) ∧ Below w.heap.size w w' := by
  rcases i19 hi with rfl | rfl | rfl | rfl | rfl | rfl | rfl | rfl | rfl | rfl | rfl | rfl | rfl | rfl | rfl | rfl | rfl | rfl | rfl
  · exact good_plain w 0 hi s hs hG rfl
  · exact good_none w 1 hi s hs hG rfl rfl rfl rfl rfl
  · exact good_none w 2 hi s hs hG rfl rfl rfl rfl rfl
  · exact good_none w 3 hi s hs hG rfl rfl rfl rfl rfl
  · exact good_none w 4 hi s hs hG rfl rfl rfl rfl rfl
  · exact good_none w 5 hi s hs hG rfl rfl rfl rfl rfl
  · exact good_none w 6 hi s hs hG rfl rfl rfl rfl rfl
  · exact good_none w 7 hi s hs hG rfl rfl rfl rfl rfl
  · exact good_date8 w 8 hi s hs hG rfl rfl
  · exact good_sex w 9 hi s hs hG rfl rfl rfl rfl
  · exact good_none w 10 hi s hs hG rfl rfl rfl rfl rfl
  · exact good_none w 11 hi s hs hG rfl rfl rfl rfl rfl
  · exact good_none w 12 hi s hs hG rfl rfl rfl rfl rfl
  · exact good_none w 13 hi s hs hG rfl rfl rfl rfl rfl
  · exact good_none w 14 hi s hs hG rfl rfl rfl rfl rfl
  · exact good_date15 w 15 hi s hs hG rfl rfl rfl
  · exact good_time w 16 hi s hs hG rfl rfl rfl rfl rfl
  · exact good_none w 17 hi s hs hG rfl rfl rfl rfl rfl
  · exact good_none w 18 hi s hs hG rfl rfl rfl rfl rfl
end Go.Proofs.YtgdemlebohlolaaGreatDoor.Ck
