import Derived.Test.YtnheeenkdjmhoaaDoorM
/-
  DERIVED. Marks; what stands ahead of a text.
-/
namespace Go.Proofs.YtnheeenkdjmhoaaDoor
open Go Go.Proofs Go.RowKit

/-- A rune that may be a mark. -/
def mkB (r : Int) : Bool := decide (33 ≤ r ∧ r ≤ 126 ∧ ¬ (48 ≤ r ∧ r ≤ 57) ∧ ¬ (65 ≤ r ∧ r ≤ 90) ∧ ¬ (97 ≤ r ∧ r ≤ 122))
set_option maxRecDepth 100000 in
set_option maxHeartbeats 1000000 in
theorem isMark_any (w : World) (r : Int) : Calls Tryd.prog 45 #[.int .i32 r] w fun e w' => e = .returned (.bool (mkB r)) ∧ w = w' := by
  rcases (show r < 33 ∨ (33 ≤ r ∧ r ≤ 47) ∨ (48 ≤ r ∧ r ≤ 57) ∨ (58 ≤ r ∧ r ≤ 64) ∨ (65 ≤ r ∧ r ≤ 90) ∨ (91 ≤ r ∧ r ≤ 96) ∨ (97 ≤ r ∧ r ≤ 122) ∨ (123 ≤ r ∧ r ≤ 126) ∨ 126 < r by omega) with h | ⟨h, h'⟩ | ⟨h, h'⟩ | ⟨h, h'⟩ | ⟨h, h'⟩ | ⟨h, h'⟩ | ⟨h, h'⟩ | ⟨h, h'⟩ | h
  · have hr : mkB r = false := by simp [mkB]; omega
    have t0 : decide (r < 33) = true := by simp; omega
    have t1 : decide (126 < r) = false := by simp; omega
    have t2 : decide (48 ≤ r) = false := by simp; omega
    have t3 : decide (r ≤ 57) = true := by simp; omega
    have t4 : decide (65 ≤ r) = false := by simp; omega
    have t5 : decide (r ≤ 90) = true := by simp; omega
    have t6 : decide (97 ≤ r) = false := by simp; omega
    have t7 : decide (r ≤ 122) = true := by simp; omega
    rw [hr]
    clear hr
    go_enter Tryd.func45, Tryd.ntmps45
    go_wp2
    go_ret
    exact ⟨rfl, rfl⟩
  · have hr : mkB r = true := by simp [mkB]; omega
    have t0 : decide (r < 33) = false := by simp; omega
    have t1 : decide (126 < r) = false := by simp; omega
    have t2 : decide (48 ≤ r) = false := by simp; omega
    have t3 : decide (r ≤ 57) = true := by simp; omega
    have t4 : decide (65 ≤ r) = false := by simp; omega
    have t5 : decide (r ≤ 90) = true := by simp; omega
    have t6 : decide (97 ≤ r) = false := by simp; omega
    have t7 : decide (r ≤ 122) = true := by simp; omega
    rw [hr]
    clear hr
    go_enter Tryd.func45, Tryd.ntmps45
    go_wp2
    go_ret
    exact ⟨rfl, rfl⟩
  · have hr : mkB r = false := by simp [mkB]; omega
    have t0 : decide (r < 33) = false := by simp; omega
    have t1 : decide (126 < r) = false := by simp; omega
    have t2 : decide (48 ≤ r) = true := by simp; omega
    have t3 : decide (r ≤ 57) = true := by simp; omega
    have t4 : decide (65 ≤ r) = false := by simp; omega
    have t5 : decide (r ≤ 90) = true := by simp; omega
    have t6 : decide (97 ≤ r) = false := by simp; omega
    have t7 : decide (r ≤ 122) = true := by simp; omega
    rw [hr]
    clear hr
    go_enter Tryd.func45, Tryd.ntmps45
    go_wp2
    go_ret
    exact ⟨rfl, rfl⟩
  · have hr : mkB r = true := by simp [mkB]; omega
    have t0 : decide (r < 33) = false := by simp; omega
    have t1 : decide (126 < r) = false := by simp; omega
    have t2 : decide (48 ≤ r) = true := by simp; omega
    have t3 : decide (r ≤ 57) = false := by simp; omega
    have t4 : decide (65 ≤ r) = false := by simp; omega
    have t5 : decide (r ≤ 90) = true := by simp; omega
    have t6 : decide (97 ≤ r) = false := by simp; omega
    have t7 : decide (r ≤ 122) = true := by simp; omega
    rw [hr]
    clear hr
    go_enter Tryd.func45, Tryd.ntmps45
    go_wp2
    go_ret
    exact ⟨rfl, rfl⟩
  · have hr : mkB r = false := by simp [mkB]; omega
    have t0 : decide (r < 33) = false := by simp; omega
    have t1 : decide (126 < r) = false := by simp; omega
    have t2 : decide (48 ≤ r) = true := by simp; omega
    have t3 : decide (r ≤ 57) = false := by simp; omega
    have t4 : decide (65 ≤ r) = true := by simp; omega
    have t5 : decide (r ≤ 90) = true := by simp; omega
    have t6 : decide (97 ≤ r) = false := by simp; omega
    have t7 : decide (r ≤ 122) = true := by simp; omega
    rw [hr]
    clear hr
    go_enter Tryd.func45, Tryd.ntmps45
    go_wp2
    go_ret
    exact ⟨rfl, rfl⟩
  · have hr : mkB r = true := by simp [mkB]; omega
    have t0 : decide (r < 33) = false := by simp; omega
    have t1 : decide (126 < r) = false := by simp; omega
    have t2 : decide (48 ≤ r) = true := by simp; omega
    have t3 : decide (r ≤ 57) = false := by simp; omega
    have t4 : decide (65 ≤ r) = true := by simp; omega
    have t5 : decide (r ≤ 90) = false := by simp; omega
    have t6 : decide (97 ≤ r) = false := by simp; omega
    have t7 : decide (r ≤ 122) = true := by simp; omega
    rw [hr]
    clear hr
    go_enter Tryd.func45, Tryd.ntmps45
    go_wp2
    go_ret
    exact ⟨rfl, rfl⟩
  · have hr : mkB r = false := by simp [mkB]; omega
    have t0 : decide (r < 33) = false := by simp; omega
    have t1 : decide (126 < r) = false := by simp; omega
    have t2 : decide (48 ≤ r) = true := by simp; omega
    have t3 : decide (r ≤ 57) = false := by simp; omega
    have t4 : decide (65 ≤ r) = true := by simp; omega
    have t5 : decide (r ≤ 90) = false := by simp; omega
    have t6 : decide (97 ≤ r) = true := by simp; omega
    have t7 : decide (r ≤ 122) = true := by simp; omega
    rw [hr]
    clear hr
    go_enter Tryd.func45, Tryd.ntmps45
    go_wp2
    go_ret
    exact ⟨rfl, rfl⟩
  · have hr : mkB r = true := by simp [mkB]; omega
    have t0 : decide (r < 33) = false := by simp; omega
    have t1 : decide (126 < r) = false := by simp; omega
    have t2 : decide (48 ≤ r) = true := by simp; omega
    have t3 : decide (r ≤ 57) = false := by simp; omega
    have t4 : decide (65 ≤ r) = true := by simp; omega
    have t5 : decide (r ≤ 90) = false := by simp; omega
    have t6 : decide (97 ≤ r) = true := by simp; omega
    have t7 : decide (r ≤ 122) = false := by simp; omega
    rw [hr]
    clear hr
    go_enter Tryd.func45, Tryd.ntmps45
    go_wp2
    go_ret
    exact ⟨rfl, rfl⟩
  · have hr : mkB r = false := by simp [mkB]; omega
    have t0 : decide (r < 33) = false := by simp; omega
    have t1 : decide (126 < r) = true := by simp; omega
    have t2 : decide (48 ≤ r) = true := by simp; omega
    have t3 : decide (r ≤ 57) = false := by simp; omega
    have t4 : decide (65 ≤ r) = true := by simp; omega
    have t5 : decide (r ≤ 90) = false := by simp; omega
    have t6 : decide (97 ≤ r) = true := by simp; omega
    have t7 : decide (r ≤ 122) = false := by simp; omega
    rw [hr]
    clear hr
    go_enter Tryd.func45, Tryd.ntmps45
    go_wp2
    go_ret
    exact ⟨rfl, rfl⟩

theorem indexByte_pos : ∀ (l : List UInt8) (c : UInt8), (0 ≤ Lib.indexByte l c ↔ c ∈ l) ∧ -1 ≤ Lib.indexByte l c
  | [], c => by simp [Lib.indexByte]
  | b :: l, c => by
    obtain ⟨ih1, ih2⟩ := indexByte_pos l c
    unfold Lib.indexByte
    by_cases hb : b = c
    · subst hb; simp
    · have h1 : (b == c) = false := by simpa using hb
      have h2 : ¬ c = b := fun h => hb h.symm
      rw [h1]
      simp only [Bool.false_eq_true, if_false, List.mem_cons, h2, false_or]
      by_cases h3 : Lib.indexByte l c = -1
      · have h4 : (Lib.indexByte l c == -1) = true := by simpa using h3
        rw [h4]
        simp only [if_true]
        rw [← ih1, h3]
        omega
      · have h4 : (Lib.indexByte l c == -1) = false := by simpa using h3
        rw [h4]
        simp only [Bool.false_eq_true, if_false]
        rw [← ih1]
        omega
/-- Is it among them? -/
def hasB (l : List UInt8) (c : UInt8) : Bool := decide (c ∈ l)
set_option maxRecDepth 100000 in
theorem has_any (w : World) (s : ByteArray) (c : UInt8) (hc : c.toNat < 128) : Calls Tryd.prog 46 #[.string s, .int .i32 (c.toNat : Nat)] w fun e w' => e = .returned (.bool (hasB (tl s) c)) ∧ w = w' := by
  have h := rune_ascii w s (c.toNat : Nat) (by omega) (by omega)
  have e : ((c.toNat : Int)).toNat.toUInt8 = c := by simp
  rw [e] at h
  obtain ⟨i, hi⟩ : ∃ i, Lib.indexByte s.data.toList c = i := ⟨_, rfl⟩
  have hp := indexByte_pos s.data.toList c
  rw [hi] at h hp
  have hr : hasB (tl s) c = decide (0 ≤ i) := by
    unfold hasB
    exact decide_eq_decide.2 hp.1.symm
  rw [hr]
  clear hr hi hp
  go_enter Tryd.func46, Tryd.ntmps46
  go_wp2_with (go_at_call 36; refine h.mono ?_; rintro e w' ⟨rfl, rfl⟩)
  go_ret
  exact ⟨rfl, rfl⟩

/-- Five marks as they may be. -/
def MarksOK (l : List UInt8) : Prop := l.length = 5 ∧ (∀ x ∈ l, mkB x.toNat = true) ∧ l.Nodup
theorem mkB_lt {x : Nat} (h : mkB x = true) : x < 128 ∧ 32 < x := by simp [mkB] at h; omega

set_option maxRecDepth 100000 in
set_option maxHeartbeats 2000000 in
theorem marks_any (w : World) (s : ByteArray) : Calls Tryd.prog 25 #[.string s] w fun e w' => ∃ b : Bool, e = .returned (.bool b) ∧ (b = true ↔ MarksOK (tl s)) ∧ Below w.heap.size w w' := by
  by_cases h5 : s.size = 5
  · have h5' : ((s.size : Int) == 5) = true := by simp; omega
    obtain ⟨B, hB⟩ : ∃ B, w.heap.size = B := ⟨_, rfl⟩
    have HB : Hid (w.heap.size = B) := hB
    have H5 : Hid (s.size = 5) := h5
    go_enter Tryd.func25, Tryd.ntmps25
    go_wp2
    clear hB h5
    go_loopw [] (fun wr => ∃ (pos : Nat), pos ≤ s.size ∧ wr.heap[B]? = some (.stringIter s pos) ∧ Hid (Below B w wr) ∧ Hid ((∀ x ∈ (tl s).take pos, mkB x.toNat = true) ∧ ((tl s).take pos).Nodup)) (fun wr => s.size - wr.iterPos B)
    case atStart =>
      refine ⟨0, Nat.zero_le _, ?_, ?_, by simp, by simp⟩
      · have := World.iter_heap w s 0
        rw [HB.out] at this
        simpa using this
      · exact (Below.refl _ w).alloc (by have := HB.out; omega) _
    case round =>
      obtain ⟨pos, hps, hit, HE, HP⟩ := hrel
      have HM : Hid (wr.iterPos B = pos) := by show World.iterPos _ _ = _; simp only [World.iterPos, hit]
      by_cases hp : pos < s.size
      · have hnx0 : ∀ ty, (Instr.next (.pointer (some ⟨B, 0, none⟩)) true ty).run Tryd.prog wr = _ := fun ty => Lib.run_next_any_at wr B s pos ty hit hp
        by_cases ha : (s[pos]'hp).toNat < 128
        · have hd := decode_ascii s pos hp ha
          have ht := tl_take_succ s pos hp
          obtain ⟨c, hc⟩ : ∃ c, (s[pos]'hp) = c := ⟨_, rfl⟩
          rw [hc] at ht ha hd
          obtain ⟨W0, hW0⟩ : ∃ W0, wr.iterAt B s (pos + 1) = W0 := ⟨_, rfl⟩
          have hnx : ∀ ty, (Instr.next (.pointer (some ⟨B, 0, none⟩)) true ty).run Tryd.prog wr = .ok (.tuple #[.bool true, .int .i64 pos, .int .i32 (c.toNat : Nat)]) W0 := by
            intro ty; rw [hnx0 ty, hd, hW0]
          have HH : Hid (W0.heap[B]? = some (.stringIter s (pos + 1))) := hW0 ▸ Lib.iterAt_heap wr B s pos (pos + 1) hit
          have HE0 : Hid (Below B w W0) := hW0 ▸ Lib.below_iterAt HE.out (k := B) (Nat.le_refl _) s (pos + 1)
          have HT : Hid ((tl s).take (pos + 1) = (tl s).take pos ++ [c]) := ht
          have HX : Hid (c ∈ tl s) := by
            show c ∈ _
            refine List.mem_of_mem_take (i := pos + 1) ?_
            rw [ht]; simp
          clear hnx0 hd hc hit hW0 ht
          have k1 := isMark_any W0 (c.toNat : Nat)
          cases hb : mkB (c.toNat : Nat) with
          | false =>
            rw [hb] at k1
            go_wp2_with (go_at_call 45; refine k1.mono ?_; rintro e w' ⟨rfl, rfl⟩)
            go_ret
            refine ⟨false, rfl, ⟨fun h => by simp at h, fun h => ?_⟩, HB.out ▸ HE0.out⟩
            have := h.2.1 c HX.out
            rw [hb] at this
            cases this
          | true =>
            rw [hb] at k1
            have k2 := has_any W0 (s.extract 0 pos) c ha
            have e2 : tl (s.extract 0 pos) = (tl s).take pos := by rw [tl_extract]; rfl
            rw [e2] at k2
            cases hh : hasB ((tl s).take pos) c with
            | true =>
              rw [hh] at k2
              go_wp2_with (first | (go_at_call 45; refine k1.mono ?_; rintro e w' ⟨rfl, rfl⟩) | (go_at_call 46; refine k2.mono ?_; rintro e w' ⟨rfl, rfl⟩))
              go_ret
              refine ⟨false, rfl, ⟨fun h => by simp at h, fun h => ?_⟩, HB.out ▸ HE0.out⟩
              have hn : ((tl s).take (pos + 1)).Nodup := List.Nodup.sublist (List.take_sublist _ _) h.2.2
              rw [HT.out, List.nodup_append] at hn
              have hm : c ∈ (tl s).take pos := by simpa [hasB] using hh
              exact absurd rfl (hn.2.2 c hm c (by simp))
            | false =>
              rw [hh] at k2
              have hm : ¬ c ∈ (tl s).take pos := by simpa [hasB] using hh
              have HNM : Hid (¬ c ∈ (tl s).take pos) := hm
              have HMK : Hid (mkB (c.toNat : Nat) = true) := hb
              clear hm hb hh
              go_wp2_with (first | (go_at_call 45; refine k1.mono ?_; rintro e w' ⟨rfl, rfl⟩) | (go_at_call 46; refine k2.mono ?_; rintro e w' ⟨rfl, rfl⟩))
              go_roundw
              case rel =>
                refine ⟨pos + 1, by omega, HH.out, HE0.out, ?_⟩
                show _ ∧ _
                rw [HT.out]
                refine ⟨fun x hx => ?_, ?_⟩
                · rcases List.mem_append.1 hx with hx | hx
                  · exact HP.out.1 x hx
                  · simp at hx; subst hx; exact HMK.out
                · rw [List.nodup_append]
                  refine ⟨HP.out.2, by simp, fun a hq b hb => ?_⟩
                  simp at hb; subst hb
                  intro e; subst e; exact HNM.out hq
              case measure =>
                rw [HM.out]
                simp only [World.iterPos, HH.out]
                omega
        · have hd := (decode_high s pos hp (by omega)).1
          obtain ⟨y, hy⟩ : ∃ y, (Utf8.decode s pos).1 = y := ⟨_, rfl⟩
          obtain ⟨W0, hW0⟩ : ∃ W0, wr.iterAt B s (pos + (Utf8.decode s pos).2) = W0 := ⟨_, rfl⟩
          have hnx : ∀ ty, (Instr.next (.pointer (some ⟨B, 0, none⟩)) true ty).run Tryd.prog wr = .ok (.tuple #[.bool true, .int .i64 pos, .int .i32 (y : Nat)]) W0 := by
            intro ty; rw [hnx0 ty, hy, hW0]
          have HE0 : Hid (Below B w W0) := hW0 ▸ Lib.below_iterAt HE.out (k := B) (Nat.le_refl _) s _
          rw [hy] at hd
          have hb : mkB (y : Nat) = false := by simp [mkB]; omega
          have k1 := isMark_any W0 (y : Nat)
          rw [hb] at k1
          have HA : Hid (¬ (s[pos]'hp).toNat < 128) := ha
          clear hnx0 ha hb hy hW0 hd hit
          go_wp2_with (go_at_call 45; refine k1.mono ?_; rintro e w' ⟨rfl, rfl⟩)
          go_ret
          refine ⟨false, rfl, ⟨fun h => by simp at h, fun h => ?_⟩, HB.out ▸ HE0.out⟩
          have hx : (s[pos]'hp) ∈ tl s := by rw [← tl_get s pos hp]; exact List.getElem_mem _
          have := (mkB_lt (h.2.1 _ hx)).1
          exact absurd this HA.out
      · have hnx : ∀ ty, (Instr.next (.pointer (some ⟨B, 0, none⟩)) true ty).run Tryd.prog wr = _ := fun ty => Lib.run_next_end_at wr B s pos ty hit hp
        have HP5 : Hid (pos = s.size) := by show pos = s.size; omega
        go_wp2
        go_ret
        refine ⟨true, rfl, ⟨fun _ => ?_, fun _ => rfl⟩, HB.out ▸ HE.out⟩
        have := HP.out
        rw [HP5.out, ← tl_len, List.take_length] at this
        exact ⟨by rw [tl_len]; exact H5.out, this.1, this.2⟩
  · have h5' : ((s.size : Int) == 5) = false := by simp; omega
    go_enter Tryd.func25, Tryd.ntmps25
    go_wp2
    go_ret
    exact ⟨false, rfl, ⟨fun h => by simp at h, fun h => absurd (by rw [← tl_len]; exact h.1) h5⟩, Below.refl _ _⟩

/-- A text without the byte that is let go ahead of it. -/
def trimL : List UInt8 → List UInt8
  | 10 :: l => l
  | l => l
set_option maxRecDepth 100000 in
set_option maxHeartbeats 1000000 in
theorem trim_any (w : World) (s : ByteArray) (hs : s.size ≤ maxLen) : Calls Tryd.prog 42 #[.string s, .string { data := #[10] }] w fun e w' => ∃ o, e = .returned (.string o) ∧ tl o = trimL (tl s) ∧ w = w' := by
  unfold maxLen at hs
  by_cases h0 : 0 < s.size
  · have h1' : decide ((1 : Int) ≤ (s.size : Int)) = true := by simp; omega
    have hne : tl s ≠ [] := by intro h; have := tl_len s; rw [h] at this; simp at this; omega
    obtain ⟨b, l, hbl⟩ : ∃ b l, tl s = b :: l := by cases hq : tl s with
      | nil => exact absurd hq hne
      | cons b l => exact ⟨b, l, rfl⟩
    have e1 : (s.extract 0 1).toList = [b] := by
      rw [ByteArray.toList_eq]
      have := tl_extract s 0 1
      rw [hbl] at this
      exact this
    have e2 : tl (s.extract 1 s.size) = l := by
      rw [tl_extract, ← tl_len, List.take_length, hbl]; rfl
    by_cases hb : b = 10
    · subst hb
      have e3 : ((s.extract 0 1).toList == [10]) = true := by rw [e1]; rfl
      go_enter Tryd.func42, Tryd.ntmps42
      go_wp2
      go_ret
      exact ⟨_, rfl, by rw [e2, hbl]; rfl, rfl⟩
    · have e3 : ((s.extract 0 1).toList == [10]) = false := by rw [e1]; simpa using hb
      clear e1
      go_enter Tryd.func42, Tryd.ntmps42
      go_wp2
      go_ret
      refine ⟨_, rfl, ?_, rfl⟩
      rw [hbl]; unfold trimL; split
      · next h => simp at h; exact absurd h.1 hb
      · rfl
  · have h1' : decide ((1 : Int) ≤ (s.size : Int)) = false := by simp; omega
    go_enter Tryd.func42, Tryd.ntmps42
    go_wp2
    go_ret
    refine ⟨_, rfl, ?_, rfl⟩
    have : tl s = [] := List.eq_nil_of_length_eq_zero (by rw [tl_len]; omega)
    rw [this]; rfl

/-- A segment's name, and a field mark behind it if anything. -/
def isSegB (f : UInt8) (l : List UInt8) : Bool := decide (3 ≤ l.length) && (decide (l.length = 3) || (l.getD 3 0 == f))
set_option maxRecDepth 100000 in
set_option maxHeartbeats 1000000 in
theorem isSeg_any (w : World) (s : ByteArray) (f : UInt8) (hs : s.size ≤ maxLen) : Calls Tryd.prog 43 #[.string s, .int .u8 (f.toNat : Nat)] w fun e w' => e = .returned (.bool (isSegB f (tl s))) ∧ w = w' := by
  unfold maxLen at hs
  by_cases h3 : 3 ≤ s.size
  · have t1 : decide ((3 : Int) ≤ (s.size : Int)) = true := by simp; omega
    by_cases h4 : s.size = 3
    · have hr : isSegB f (tl s) = true := by simp [isSegB, tl_len, h4]
      have t2 : ((s.size : Int) == 3) = true := by simp; omega
      rw [hr]; clear hr h4
      go_enter Tryd.func43, Tryd.ntmps43
      go_wp2
      go_ret
      exact ⟨rfl, rfl⟩
    · have t2 : ((s.size : Int) == 3) = false := by simp; omega
      have h5 : 3 < s.size := by omega
      have hr : isSegB f (tl s) = (((s[3]'h5).toNat : Int) == (f.toNat : Int)) := by
        have e1 : (tl s).getD 3 0 = s[3]'h5 := by
          rw [List.getD_eq_getElem?_getD, List.getElem?_eq_getElem (by rw [tl_len]; exact h5), tl_get s 3 h5]; rfl
        simp only [isSegB, tl_len, h3, h4, e1, decide_true, decide_false, Bool.true_and, Bool.false_or]
        by_cases hq : s[3]'h5 = f
        · rw [hq]; simp
        · have : ((s[3]'h5) == f) = false := by simpa using hq
          rw [this]
          symm
          simp only [beq_eq_false_iff_ne]
          intro hh
          exact hq (UInt8.toNat_inj.1 (by exact_mod_cast hh))
      rw [hr]; clear hr
      obtain ⟨c, hc⟩ : ∃ c, (s[3]'h5).toNat = c := ⟨_, rfl⟩
      obtain ⟨y, hy⟩ : ∃ y, f.toNat = y := ⟨_, rfl⟩
      rw [hc, hy]
      clear hy
      go_enter Tryd.func43, Tryd.ntmps43
      go_wp2
      all_goals
        go_ret
        exact ⟨rfl, rfl⟩
  · have t1 : decide ((3 : Int) ≤ (s.size : Int)) = false := by simp; omega
    have hr : isSegB f (tl s) = false := by simp only [isSegB, tl_len, h3, decide_false, Bool.false_and]
    rw [hr]; clear hr
    go_enter Tryd.func43, Tryd.ntmps43
    go_wp2
    go_ret
    exact ⟨rfl, rfl⟩

/-- The header's fields. -/
def headF (f : UInt8) (mk s : List UInt8) : List (List UInt8) := [77, 83, 72] :: mk.take 1 :: mk.drop 1 :: cutU f (s.drop 9)
theorem cutU_pos (m : UInt8) (l : List UInt8) : 0 < (cutU m l).length := by
  cases l with
  | nil => simp [cutU]
  | cons b l =>
    unfold cutU
    split
    · simp
    · split <;> simp
theorem owns_pos {W : World} {base n : Nat} {e : TypeId} {size : Nat} {v : Value} {xs : List Value} (h : W.ownsRow base e size v n xs) (hn : 0 < n) : ∃ g cap, v = .slice (some ⟨g, 0, none⟩) n cap := by
  rcases h.2 with ⟨_, h0⟩ | ⟨g, cap, cur, rfl, _⟩
  · omega
  · exact ⟨g, cap, rfl⟩
theorem strs_one {ps : List (List UInt8)} : ∀ u ∈ strs ps, u.oneCell' = true := by
  intro u hu
  obtain ⟨p, _, rfl⟩ := List.mem_map.1 hu
  rfl
theorem own_news {W : World} {base n g cap : Nat} {e : TypeId} {xs : List Value} (h : W.ownsRow base e 1 (.slice (some ⟨g, 0, none⟩) n cap) n xs) : ∀ j u, xs[j]? = some u → W.cell? ((⟨g, 0, none⟩ : Addr).add j) = some u := by
  intro j u hj
  have hlt : j < xs.length := (List.getElem?_eq_some_iff.1 hj).1
  have hl := h.1
  have hc := h.cellAt j (by omega)
  rw [hj] at hc
  rw [add_at, Nat.zero_add]
  exact hc
theorem below_undrew {W W3 : World} (h : Below W.drew.heap.size W.drew W3) : Below W.heap.size W W3 := (Below.refl _ W).drew.trans h
theorem cell_three_new (w : World) (x y z : Value) (t : TypeId) : ∀ j u, [x, y, z][j]? = some u → (w.alloc (.cells #[x, y, z] t)).cell? ((⟨w.heap.size, 0, none⟩ : Addr).add j) = some u := World.news_of_block (heap_alloc_new w _)

set_option maxRecDepth 100000 in
set_option maxHeartbeats 2000000 in
theorem head_any (w : World) (s mk : ByteArray) (f : UInt8) (h9 : 9 ≤ s.size) (hl : s.size ≤ 16777216) (hm : mk.size = 5) (hf : (tl mk).getD 0 0 = f) (hf1 : f.toNat < 128) : Calls Tryd.prog 44 #[.string s, .string mk] w fun e w' => ∃ v, e = .returned v ∧ w'.ownsRow w.heap.size 9 1 v (headF f (tl mk) (tl s)).length (strs (headF f (tl mk) (tl s))) ∧ Below w.heap.size w w' := by
  obtain ⟨i0, hi, hz0, hz1, hz2⟩ := info_parts info9s
  have m0 : (mk[0]'(by omega)) = f := by
    rw [← hf, List.getD_eq_getElem?_getD, List.getElem?_eq_getElem (by rw [tl_len]; omega), tl_get mk 0 (by omega)]; rfl
  obtain ⟨y, hy⟩ : ∃ y, f.toNat = y := ⟨_, rfl⟩
  have m1 : (mk[0]'(by omega)).toNat = y := by rw [m0]; exact hy
  have e1 : tl (mk.extract 0 1) = (tl mk).take 1 := by rw [tl_extract]; rfl
  have e2 : tl (mk.extract 1 5) = (tl mk).drop 1 := by rw [tl_extract, ← hm, ← tl_len, List.take_length]
  have e3 : tl (s.extract 9 s.size) = (tl s).drop 9 := by rw [tl_extract, ← tl_len, List.take_length]
  obtain ⟨W1, hW1⟩ : ∃ W1, (w.alloc (.cells #[.string { data := #[77, 83, 72] }, .string (mk.extract 0 1), .string (mk.extract 1 5)] 9)).drew = W1 := ⟨_, rfl⟩
  have hb1 : Below w.heap.size w W1 := hW1 ▸ ((Below.refl _ _).alloc (Nat.le_refl _) _).drew
  have hs1 : W1.heap.size = w.heap.size + 1 := by rw [← hW1]; show (w.alloc _).heap.size = _; simp
  have ho1 : W1.ownsRow w.heap.size 9 1 (.slice (some ⟨w.heap.size, 0, none⟩) 3 3) 3 (strs [[77, 83, 72], (tl mk).take 1, (tl mk).drop 1]) := by
    have e4 : strs [[77, 83, 72], (tl mk).take 1, (tl mk).drop 1] = [.string { data := #[77, 83, 72] }, .string (mk.extract 0 1), .string (mk.extract 1 5)] := by
      rw [← e1, ← e2]; simp [strs, bs1_tl]; rfl
    rw [e4, ← hW1]
    exact ⟨by simp, .inr ⟨w.heap.size, 3, #[.string { data := #[77, 83, 72] }, .string (mk.extract 0 1), .string (mk.extract 1 5)], rfl, Nat.le_refl _, heap_alloc_new w _, Nat.le_refl _, by decide, rfl, rfl⟩⟩
  have hz : (s.extract 9 s.size).size = s.size - 9 := size_between s (Nat.le_refl _)
  have hcut := cut_any W1.drew (s.extract 9 s.size) f hf1 (by omega)
  rw [e3, hy] at hcut
  have hcl : (cutU f ((tl s).drop 9)).length ≤ s.size + 1 := by
    refine Nat.le_trans (cutU_len _ _) ?_
    rw [List.length_drop, tl_len]; omega
  have hcp : 0 < (cutU f ((tl s).drop 9)).length := cutU_pos _ _
  obtain ⟨ps, hps⟩ : ∃ ps, cutU f ((tl s).drop 9) = ps := ⟨_, rfl⟩
  have HF : Hid (headF f (tl mk) (tl s) = [[77, 83, 72], (tl mk).take 1, (tl mk).drop 1] ++ ps) := by show headF _ _ _ = _; rw [← hps]; rfl
  rw [hps] at hcut hcl hcp
  have HC : Hid (Calls Tryd.prog 41 #[.string (s.extract 9 s.size), .int .u8 (y : Nat)] W1.drew fun e w' => ∃ v, e = .returned v ∧ w'.ownsRow (W1.drew.heap.size + 1) 9 1 v ps.length (strs ps) ∧ Below W1.drew.heap.size W1.drew w') := hcut
  have HO1 : Hid (W1.ownsRow w.heap.size 9 1 (.slice (some ⟨w.heap.size, 0, none⟩) 3 3) 3 (strs [[77, 83, 72], (tl mk).take 1, (tl mk).drop 1])) := ho1
  have HB1 : Hid (Below w.heap.size w W1) := hb1
  have HL : Hid (ps.length ≤ s.size + 1) := hcl
  have HZ : Hid (0 < ps.length) := hcp
  have HS1 : Hid (W1.heap.size = w.heap.size + 1) := hs1
  have h9i : (9 : Int) ≤ (s.size : Int) := by omega
  have h9n : ¬ ((s.size : Int) < 9) := by omega
  clear hcut hcl hcp hps ho1 hb1 e1 e2 e3 m0 hy hf hs1 hz
  go_enter Tryd.func44, Tryd.ntmps44
  go_wp2
  go_region
  clear hW1
  go_wp2
  go_region_law (first | (go_simp; go_at_call 41; refine HC.out.mono ?_; rintro e W3 ⟨v3, rfl, ho3, hb3⟩; have hex := owns_pos ho3 HZ.out; obtain ⟨g3, c3, rfl⟩ := hex; have HO3 : Hid (W3.ownsRow _ 9 1 _ ps.length (strs ps)) := ho3; have HB3 : Hid (Below W1.heap.size W1 W3) := below_undrew hb3; clear ho3 hb3) | (go_loud (refine step_append_lies _ rfl (.tmp 11) (.tmp 16) 38 rfl w.heap.size 9 i0 _ 1 16 Tryd.underlying38 hi hz0 hz1 hz2 rfl (by decide) (.slice (some ⟨w.heap.size, 0, none⟩) 3 3) 3 (strs [[77, 83, 72], (tl mk).take 1, (tl mk).drop 1]) (by simp [Act.eval]) (ownsRow_below HO1.out HB3.out (Nat.le_refl _)) ⟨g3, 0, none⟩ ps.length c3 (strs ps) (by simp [Act.eval]) (by rw [strs_len, Nat.mul_one]) (own_news HO3.out) strs_one HZ.out (by have := HL.out; unfold maxLen; omega) (by have := HL.out; omega) (by have := HB3.out.size; have := HS1.out; omega) _ rfl ?_; intro g cap W4 hown4 hgrow4 hat4 hlt4; have HO4 : Hid (W4.ownsRow w.heap.size 9 1 (.slice (some ⟨g, 0, none⟩) (3 + ps.length) cap) (3 + ps.length) (strs [[77, 83, 72], (tl mk).take 1, (tl mk).drop 1] ++ strs ps)) := hown4; have HG4 : Hid (W3.grownBy W4 _) := hgrow4; clear hown4 hgrow4 hat4 hlt4)))
  all_goals
    have HX : Hid (W4.ownsRow w.heap.size 9 1 (.slice (some ⟨g, 0, none⟩) (3 + ps.length) cap) (headF f (tl mk) (tl s)).length (strs (headF f (tl mk) (tl s)))) := by
      show World.ownsRow _ _ _ _ _ _ _
      rw [HF.out, strs_app, List.length_append]
      exact HO4.out
    have HY : Hid (Below w.heap.size w W4) := (HB1.out.trans (HB3.out.mono (by have := HS1.out; omega))).grown HG4.out (by have := HB3.out.size; have := HS1.out; omega) (fun j hj => by cases hj; exact Nat.le_refl _)
    go_wp2
    go_ret
    exact ⟨_, rfl, HX.out, HY.out⟩
end Go.Proofs.YtnheeenkdjmhoaaDoor
