import Derived.Test.YtnheeenkdjmhoaaDoorQ
/-
  DERIVED. The document's marks and pieces.
-/
namespace Go.Proofs.YtnheeenkdjmhoaaDoor
open Go Go.Proofs Go.RowKit

set_option maxRecDepth 100000 in
set_option maxHeartbeats 1000000 in
theorem markR_any (w : World) (r : Nat) : Calls Tryd.prog 49 #[.int .u8 (r : Int)] w fun e w' => e = .returned (.bool (mkB r)) ∧ w = w' := by
  rcases (show r < 33 ∨ (33 ≤ r ∧ r ≤ 47) ∨ (48 ≤ r ∧ r ≤ 57) ∨ (58 ≤ r ∧ r ≤ 64) ∨ (65 ≤ r ∧ r ≤ 90) ∨ (91 ≤ r ∧ r ≤ 96) ∨ (97 ≤ r ∧ r ≤ 122) ∨ (123 ≤ r ∧ r ≤ 126) ∨ 126 < r by omega) with h | ⟨h, h'⟩ | ⟨h, h'⟩ | ⟨h, h'⟩ | ⟨h, h'⟩ | ⟨h, h'⟩ | ⟨h, h'⟩ | ⟨h, h'⟩ | h
  · have hr : mkB (r : Nat) = false := by simp [mkB]; omega
    have t0 : decide ((33 : Int) ≤ (r : Int)) = false := by simp; omega
    have t1 : decide ((r : Int) ≤ 126) = true := by simp; omega
    have t2 : decide ((48 : Int) ≤ (r : Int)) = false := by simp; omega
    have t3 : decide ((r : Int) ≤ 57) = true := by simp; omega
    have t4 : decide ((65 : Int) ≤ (r : Int)) = false := by simp; omega
    have t5 : decide ((r : Int) ≤ 90) = true := by simp; omega
    have t6 : decide ((97 : Int) ≤ (r : Int)) = false := by simp; omega
    have t7 : decide ((r : Int) ≤ 122) = true := by simp; omega
    rw [hr]
    clear hr
    go_enter Tryd.func49, Tryd.ntmps49
    go_wp2
    go_ret
    exact ⟨rfl, rfl⟩
  · have hr : mkB (r : Nat) = true := by simp [mkB]; omega
    have t0 : decide ((33 : Int) ≤ (r : Int)) = true := by simp; omega
    have t1 : decide ((r : Int) ≤ 126) = true := by simp; omega
    have t2 : decide ((48 : Int) ≤ (r : Int)) = false := by simp; omega
    have t3 : decide ((r : Int) ≤ 57) = true := by simp; omega
    have t4 : decide ((65 : Int) ≤ (r : Int)) = false := by simp; omega
    have t5 : decide ((r : Int) ≤ 90) = true := by simp; omega
    have t6 : decide ((97 : Int) ≤ (r : Int)) = false := by simp; omega
    have t7 : decide ((r : Int) ≤ 122) = true := by simp; omega
    rw [hr]
    clear hr
    go_enter Tryd.func49, Tryd.ntmps49
    go_wp2
    go_ret
    exact ⟨rfl, rfl⟩
  · have hr : mkB (r : Nat) = false := by simp [mkB]; omega
    have t0 : decide ((33 : Int) ≤ (r : Int)) = true := by simp; omega
    have t1 : decide ((r : Int) ≤ 126) = true := by simp; omega
    have t2 : decide ((48 : Int) ≤ (r : Int)) = true := by simp; omega
    have t3 : decide ((r : Int) ≤ 57) = true := by simp; omega
    have t4 : decide ((65 : Int) ≤ (r : Int)) = false := by simp; omega
    have t5 : decide ((r : Int) ≤ 90) = true := by simp; omega
    have t6 : decide ((97 : Int) ≤ (r : Int)) = false := by simp; omega
    have t7 : decide ((r : Int) ≤ 122) = true := by simp; omega
    rw [hr]
    clear hr
    go_enter Tryd.func49, Tryd.ntmps49
    go_wp2
    go_ret
    exact ⟨rfl, rfl⟩
  · have hr : mkB (r : Nat) = true := by simp [mkB]; omega
    have t0 : decide ((33 : Int) ≤ (r : Int)) = true := by simp; omega
    have t1 : decide ((r : Int) ≤ 126) = true := by simp; omega
    have t2 : decide ((48 : Int) ≤ (r : Int)) = true := by simp; omega
    have t3 : decide ((r : Int) ≤ 57) = false := by simp; omega
    have t4 : decide ((65 : Int) ≤ (r : Int)) = false := by simp; omega
    have t5 : decide ((r : Int) ≤ 90) = true := by simp; omega
    have t6 : decide ((97 : Int) ≤ (r : Int)) = false := by simp; omega
    have t7 : decide ((r : Int) ≤ 122) = true := by simp; omega
    rw [hr]
    clear hr
    go_enter Tryd.func49, Tryd.ntmps49
    go_wp2
    go_ret
    exact ⟨rfl, rfl⟩
  · have hr : mkB (r : Nat) = false := by simp [mkB]; omega
    have t0 : decide ((33 : Int) ≤ (r : Int)) = true := by simp; omega
    have t1 : decide ((r : Int) ≤ 126) = true := by simp; omega
    have t2 : decide ((48 : Int) ≤ (r : Int)) = true := by simp; omega
    have t3 : decide ((r : Int) ≤ 57) = false := by simp; omega
    have t4 : decide ((65 : Int) ≤ (r : Int)) = true := by simp; omega
    have t5 : decide ((r : Int) ≤ 90) = true := by simp; omega
    have t6 : decide ((97 : Int) ≤ (r : Int)) = false := by simp; omega
    have t7 : decide ((r : Int) ≤ 122) = true := by simp; omega
    rw [hr]
    clear hr
    go_enter Tryd.func49, Tryd.ntmps49
    go_wp2
    go_ret
    exact ⟨rfl, rfl⟩
  · have hr : mkB (r : Nat) = true := by simp [mkB]; omega
    have t0 : decide ((33 : Int) ≤ (r : Int)) = true := by simp; omega
    have t1 : decide ((r : Int) ≤ 126) = true := by simp; omega
    have t2 : decide ((48 : Int) ≤ (r : Int)) = true := by simp; omega
    have t3 : decide ((r : Int) ≤ 57) = false := by simp; omega
    have t4 : decide ((65 : Int) ≤ (r : Int)) = true := by simp; omega
    have t5 : decide ((r : Int) ≤ 90) = false := by simp; omega
    have t6 : decide ((97 : Int) ≤ (r : Int)) = false := by simp; omega
    have t7 : decide ((r : Int) ≤ 122) = true := by simp; omega
    rw [hr]
    clear hr
    go_enter Tryd.func49, Tryd.ntmps49
    go_wp2
    go_ret
    exact ⟨rfl, rfl⟩
  · have hr : mkB (r : Nat) = false := by simp [mkB]; omega
    have t0 : decide ((33 : Int) ≤ (r : Int)) = true := by simp; omega
    have t1 : decide ((r : Int) ≤ 126) = true := by simp; omega
    have t2 : decide ((48 : Int) ≤ (r : Int)) = true := by simp; omega
    have t3 : decide ((r : Int) ≤ 57) = false := by simp; omega
    have t4 : decide ((65 : Int) ≤ (r : Int)) = true := by simp; omega
    have t5 : decide ((r : Int) ≤ 90) = false := by simp; omega
    have t6 : decide ((97 : Int) ≤ (r : Int)) = true := by simp; omega
    have t7 : decide ((r : Int) ≤ 122) = true := by simp; omega
    rw [hr]
    clear hr
    go_enter Tryd.func49, Tryd.ntmps49
    go_wp2
    go_ret
    exact ⟨rfl, rfl⟩
  · have hr : mkB (r : Nat) = true := by simp [mkB]; omega
    have t0 : decide ((33 : Int) ≤ (r : Int)) = true := by simp; omega
    have t1 : decide ((r : Int) ≤ 126) = true := by simp; omega
    have t2 : decide ((48 : Int) ≤ (r : Int)) = true := by simp; omega
    have t3 : decide ((r : Int) ≤ 57) = false := by simp; omega
    have t4 : decide ((65 : Int) ≤ (r : Int)) = true := by simp; omega
    have t5 : decide ((r : Int) ≤ 90) = false := by simp; omega
    have t6 : decide ((97 : Int) ≤ (r : Int)) = true := by simp; omega
    have t7 : decide ((r : Int) ≤ 122) = false := by simp; omega
    rw [hr]
    clear hr
    go_enter Tryd.func49, Tryd.ntmps49
    go_wp2
    go_ret
    exact ⟨rfl, rfl⟩
  · have hr : mkB (r : Nat) = false := by simp [mkB]; omega
    have t0 : decide ((33 : Int) ≤ (r : Int)) = true := by simp; omega
    have t1 : decide ((r : Int) ≤ 126) = false := by simp; omega
    have t2 : decide ((48 : Int) ≤ (r : Int)) = true := by simp; omega
    have t3 : decide ((r : Int) ≤ 57) = false := by simp; omega
    have t4 : decide ((65 : Int) ≤ (r : Int)) = true := by simp; omega
    have t5 : decide ((r : Int) ≤ 90) = false := by simp; omega
    have t6 : decide ((97 : Int) ≤ (r : Int)) = true := by simp; omega
    have t7 : decide ((r : Int) ≤ 122) = false := by simp; omega
    rw [hr]
    clear hr
    go_enter Tryd.func49, Tryd.ntmps49
    go_wp2
    go_ret
    exact ⟨rfl, rfl⟩

theorem below_drw0 (w : World) (m : Nat) : Below w.heap.size w (w.drewN m) := ⟨rfl, rfl, rfl, Nat.le_refl _, fun _ _ => rfl⟩
theorem drewN_drewN (w : World) (a b : Nat) : (w.drewN a).drewN b = w.drewN (a + b) := by simp

set_option maxRecDepth 100000 in
set_option maxHeartbeats 4000000 in
theorem marksR_any (w : World) (s : ByteArray) : Calls Tryd.prog 28 #[.string s] w fun e w' => ∃ b : Bool, e = .returned (.bool b) ∧ (b = true ↔ MarksOK (tl s)) ∧ Below w.heap.size w w' := by
  by_cases h5 : s.size = 5
  · have h5' : ((s.size : Int) == 5) = true := by simp; omega
    have H5 : Hid (s.size = 5) := h5
    go_enter Tryd.func28, Tryd.ntmps28
    go_wp2
    clear h5
    go_loopw [3] (fun i wr => ∃ (k : Nat), k ≤ 5 ∧ i = .int .i64 k ∧ Hid (Below w.heap.size w wr) ∧ Hid ((∀ x ∈ (tl s).take k, mkB x.toNat = true) ∧ ((tl s).take k).Nodup)) (fun i _ => 5 - (intOf i).toNat)
    case atStart => exact ⟨0, by omega, rfl, Below.refl _ _, by simp, by simp⟩
    case round =>
      obtain ⟨k, hk, rfl, HE, HP⟩ := hrel
      by_cases hk5 : k < 5
      · have hks : k < s.size := by rw [H5.out]; exact hk5
        obtain ⟨c, hc⟩ : ∃ c, (s[k]'hks) = c := ⟨_, rfl⟩
        have ht := tl_take_succ s k hks
        rw [hc] at ht
        have HT : Hid ((tl s).take (k + 1) = (tl s).take k ++ [c]) := ht
        have HX : Hid (c ∈ tl s) := by
          show c ∈ _
          refine List.mem_of_mem_take (i := k + 1) ?_
          rw [ht]; simp
        have hcy : (s[k]'hks).toNat = c.toNat := by rw [hc]
        obtain ⟨y, hy⟩ : ∃ y, c.toNat = y := ⟨_, rfl⟩
        rw [hy] at hcy
        have HY : Hid (c.toNat = y) := hy
        have km := markR_any wr y
        clear hc ht hy
        cases hb : mkB (y : Nat) with
        | false =>
          rw [hb] at km
          go_wp2_with (go_at_call 49; refine km.mono ?_; rintro e w' ⟨rfl, rfl⟩)
          go_ret
          refine ⟨false, rfl, ⟨fun h => by simp at h, fun h => ?_⟩, HE.out⟩
          have := h.2.1 c HX.out
          rw [HY.out, hb] at this
          cases this
        | true =>
          rw [hb] at km
          have HMK : Hid (mkB (y : Nat) = true) := hb
          clear hb
          go_wp2_with (go_at_call 49; refine km.mono ?_; rintro e w' ⟨rfl, rfl⟩)
          clear km
          go_loopw [4] (fun j wq => ∃ (m : Nat), m ≤ k ∧ j = .int .i64 m ∧ Hid (Below w.heap.size w wq) ∧ Hid (¬ c ∈ (tl s).take m)) (fun j _ => k - (intOf j).toNat)
          case atStart => exact ⟨0, by omega, rfl, HE.out, by show ¬ _; simp⟩
          case round =>
            obtain ⟨m, hm, rfl, HEq, HNq⟩ := hrel
            clear HE
            by_cases hmk : m < k
            · have hms : m < s.size := by omega
              obtain ⟨d, hd⟩ : ∃ d, (s[m]'hms) = d := ⟨_, rfl⟩
              have ht2 := tl_take_succ s m hms
              rw [hd] at ht2
              have HT2 : Hid ((tl s).take (m + 1) = (tl s).take m ++ [d]) := ht2
              obtain ⟨z, hz⟩ : ∃ z, d.toNat = z := ⟨_, rfl⟩
              have hdz : (s[m]'hms).toNat = z := by rw [hd]; exact hz
              have HZ : Hid (d.toNat = z) := hz
              have HL : Hid (d ∈ (tl s).take k) := by
                show d ∈ _
                have e1 : d ∈ (tl s).take (m + 1) := by rw [ht2]; simp
                have e2 : (tl s).take (m + 1) = ((tl s).take k).take (m + 1) := by rw [List.take_take, Nat.min_eq_left (by omega)]
                rw [e2] at e1
                exact List.mem_of_mem_take e1
              have i1 : (m : Int) < (s.size : Int) := by omega
              have i2 : (k : Int) < (s.size : Int) := by omega
              clear hd ht2 hz
              by_cases hzy : z = y
              · have q1 : ((z : Int) == (y : Int)) = true := by simp; omega
                go_wp2
                go_quiet (fail)
                go_wp2
                go_ret
                refine ⟨false, rfl, ⟨fun h => by simp at h, fun h => ?_⟩, below_drw HEq.out _⟩
                have hdc : d = c := UInt8.toNat_inj.1 (by rw [HZ.out, HY.out]; exact hzy)
                have hn : ((tl s).take (k + 1)).Nodup := List.Nodup.sublist (List.take_sublist _ _) h.2.2
                rw [HT.out, List.nodup_append] at hn
                exact absurd hdc (hn.2.2 d HL.out c (by simp))
              · have q1 : ((z : Int) == (y : Int)) = false := by simp; omega
                go_wp2
                go_quiet (fail)
                go_wp2
                go_roundw
                case rel =>
                  refine ⟨m + 1, by omega, by go_num, below_drw HEq.out _, ?_⟩
                  show ¬ _
                  rw [HT2.out]
                  intro hh
                  rcases List.mem_append.1 hh with h1 | h1
                  · exact HNq.out h1
                  · simp at h1
                    apply hzy
                    rw [← HZ.out, ← HY.out, h1]
                case measure => simp [intOf]; omega
            · have hme : m = k := by omega
              have HME : Hid (m = k) := hme
              clear hme
              go_wp2
              go_roundw
              case rel =>
                refine ⟨k + 1, by omega, by go_num, HEq.out, ?_⟩
                show _ ∧ _
                rw [HT.out]
                refine ⟨fun x hx => ?_, ?_⟩
                · rcases List.mem_append.1 hx with hx | hx
                  · exact HP.out.1 x hx
                  · simp at hx; subst hx; rw [HY.out]; exact HMK.out
                · rw [List.nodup_append]
                  refine ⟨HP.out.2, by simp, fun a hq b hb => ?_⟩
                  simp at hb; subst hb
                  intro e; subst e
                  have := HNq.out
                  rw [HME.out] at this
                  exact this hq
              case measure => simp [intOf]; omega
      · have hke : k = 5 := by omega
        have HK : Hid (k = 5) := hke
        clear hke
        go_wp2
        go_ret
        refine ⟨true, rfl, ⟨fun _ => ?_, fun _ => rfl⟩, HE.out⟩
        have := HP.out
        rw [HK.out, ← H5.out, ← tl_len, List.take_length] at this
        exact ⟨by rw [tl_len]; exact H5.out, this.1, this.2⟩
  · have h5' : ((s.size : Int) == 5) = false := by simp; omega
    go_enter Tryd.func28, Tryd.ntmps28
    go_wp2
    go_ret
    exact ⟨false, rfl, ⟨fun h => by simp at h, fun h => absurd (by rw [← tl_len]; exact h.1) h5⟩, Below.refl _ _⟩

def CutRI (w : World) (B : Nat) (s : ByteArray) (m : UInt8) (pv fv iv : Value) (wr : World) : Prop :=
  ∃ (pos from' : Nat) (ps : List (List UInt8)), from' ≤ pos ∧ pos ≤ s.size ∧ iv = .int .i64 pos ∧ fv = .int .i64 from' ∧ wr.ownsRow B 9 1 pv ps.length (strs ps) ∧ Below B w wr ∧ ps ++ cutU m ((tl s).drop from') = cutU m (tl s) ∧ (∀ x ∈ ((tl s).take pos).drop from', x ≠ m) ∧ ps.length ≤ pos

set_option maxRecDepth 100000 in
set_option maxHeartbeats 4000000 in
theorem cutR_any (w : World) (s : ByteArray) (m : UInt8) (hl : s.size ≤ 16777216) : Calls Tryd.prog 30 #[.string s, .int .u8 (m.toNat : Nat)] w fun e w' => ∃ v, e = .returned v ∧ w'.ownsRow w.heap.size 9 1 v (cutU m (tl s)).length (strs (cutU m (tl s))) ∧ Below w.heap.size w w' := by
  obtain ⟨i0, hi, hz0, hz1, hz2⟩ := info_parts info9s
  obtain ⟨B, hB⟩ : ∃ B, w.heap.size = B := ⟨_, rfl⟩
  have HB : Hid (w.heap.size = B) := hB
  obtain ⟨y, hy⟩ : ∃ y, m.toNat = y := ⟨_, rfl⟩
  have HY : Hid (m.toNat = y) := hy
  rw [hy, hB]
  clear hy hB
  go_enter Tryd.func30, Tryd.ntmps30
  go_wp2
  go_loopw [5, 6, 7] (fun pv fv iv wr => CutRI w B s m pv fv iv wr) (fun _ _ i _ => s.size - (intOf i).toNat)
  case atStart => exact ⟨0, 0, [], Nat.le_refl _, Nat.zero_le _, rfl, rfl, World.ownsRow_nil _ _ _ _, Below.refl _ _, rfl, by simp, Nat.le_refl _⟩
  case round =>
    obtain ⟨pos, fr, ps, hfp, hps, rfl, rfl, hown, hbe, hcut, hno, hpl⟩ := hrel
    obtain ⟨ao, cap, rfl⟩ := own_slice hown
    have HC : Hid (ps ++ cutU m ((tl s).drop fr) = cutU m (tl s)) := hcut
    have HN : Hid (∀ x ∈ ((tl s).take pos).drop fr, x ≠ m) := hno
    have HO : Hid (wr.ownsRow B 9 1 (.slice ao ps.length cap) ps.length (strs ps)) := hown
    have HE : Hid (Below B w wr) := hbe
    have hb1 : B ≤ wr.heap.size := by have := HE.out.size; have := HB.out; omega
    clear hcut hno hown hbe
    by_cases hp : pos < s.size
    · obtain ⟨c, hc⟩ : ∃ c, (s[pos]'hp).toNat = c := ⟨_, rfl⟩
      have HCc : Hid ((s[pos]'hp).toNat = c) := hc
      by_cases hcm : c = y
      · subst hcm
        have hem : s[pos] = m := UInt8.toNat_inj.1 (HCc.out.trans HY.out.symm)
        have HP : Hid (cutU m ((tl s).drop fr) = ((tl s).take pos).drop fr :: cutU m ((tl s).drop (pos + 1))) := by
          have e1 : (tl s).drop fr = ((tl s).take pos).drop fr ++ m :: (tl s).drop (pos + 1) := by
            have e2 : (tl s) = (tl s).take pos ++ m :: (tl s).drop (pos + 1) := by
              have := List.take_append_drop pos (tl s)
              rw [List.drop_eq_getElem_cons (by rw [tl_len]; exact hp), tl_get s pos hp, hem] at this
              exact this.symm
            have e3 := congrArg (List.drop fr) e2
            rw [List.drop_append_of_le_length (by rw [List.length_take, tl_len]; omega)] at e3
            exact e3
          show cutU m _ = _
          rw [e1]
          exact cutU_at m _ _ HN.out
        have HT : Hid (tl (s.extract fr pos) = ((tl s).take pos).drop fr) := tl_extract s fr pos
        clear hem
        go_wp2_with (first | (at_builtin; refine wpList_append_lies _ rfl _ _ 38 rfl B 9 i0 _ 1 16 Tryd.underlying38 hi hz0 hz1 hz2 rfl (by decide) (.slice ao ps.length cap) ps.length (strs ps) rfl (World.ownsRow.alloc HO.out _) ⟨wr.heap.size, 0, none⟩ 1 1 [.string (s.extract fr pos)] rfl rfl (cell_one_new _ _ _) (by intro u hu; simp at hu; subst hu; rfl) (by decide) (by unfold maxLen; omega) (by omega) (by simp; omega) (wr.heap.size + 1) (by simp) ?_) | fail)
        intro g cp W2 hown2 hgrow2 hat2 hlt2
        have HE2 : Hid (Below B w W2) := (HE.out.alloc hb1 _).grown hgrow2 (by simp; omega) (fun j hj => (HO.out.lt j hj).1)
        have HO2 : Hid (W2.ownsRow B 9 1 (.slice (some ⟨g, 0, none⟩) (ps.length + 1) cp) (ps ++ [((tl s).take pos).drop fr]).length (strs (ps ++ [((tl s).take pos).drop fr]))) := by
          show World.ownsRow _ _ _ _ _ _ _
          rw [strs_app, List.length_append]
          have : strs [((tl s).take pos).drop fr] = [.string (s.extract fr pos)] := by rw [← HT.out]; simp [strs, bs1_tl]
          rw [this]
          exact hown2
        clear hown2 hgrow2 hat2 hlt2
        go_wp2
        go_roundw
        case rel =>
          refine ⟨pos + 1, pos + 1, ps ++ [((tl s).take pos).drop fr], Nat.le_refl _, by omega, by go_num, by go_num, HO2.out, HE2.out, ?_, ?_, by simp; omega⟩
          · rw [List.append_assoc, ← HC.out, HP.out]; rfl
          · rw [List.drop_eq_nil_of_le (by rw [List.length_take]; omega)]; simp
        case measure => simp [intOf]; omega
      · have hne : ((c : Int) == (y : Int)) = false := by simp; omega
        go_wp2
        go_roundw
        case rel =>
          refine ⟨pos + 1, fr, ps, by omega, by omega, by go_num, rfl, HO.out, HE.out, HC.out, ?_, by omega⟩
          refine drop_take_mono (by omega) HN.out fun k hk h1 h2 => ?_
          have : k = pos := by omega
          subst this
          rw [tl_get s k hp]
          intro he
          have := HCc.out; rw [he, HY.out] at this
          exact hcm this.symm
        case measure => simp [intOf]; omega
    · have hpe : pos = s.size := by omega
      have HP : Hid (pos = s.size) := hpe
      have hns : fr ≤ s.size := by omega
      have HT : Hid (tl (s.extract fr s.size) = (tl s).drop fr) := by
        show tl _ = _
        rw [tl_extract, ← tl_len, List.take_length]
      have HR : Hid (cutU m (tl s) = ps ++ [(tl s).drop fr]) := by
        show cutU m _ = _
        rw [← HC.out, cutU_none m ((tl s).drop fr)]
        have := HN.out
        rw [HP.out, ← tl_len, List.take_length] at this
        exact this
      clear hpe
      go_wp2_with (first | (at_builtin; refine wpList_append_lies _ rfl _ _ 38 rfl B 9 i0 _ 1 16 Tryd.underlying38 hi hz0 hz1 hz2 rfl (by decide) (.slice ao ps.length cap) ps.length (strs ps) rfl (World.ownsRow.alloc HO.out _) ⟨wr.heap.size, 0, none⟩ 1 1 [.string (s.extract fr s.size)] rfl rfl (cell_one_new _ _ _) (by intro u hu; simp at hu; subst hu; rfl) (by decide) (by unfold maxLen; omega) (by omega) (by simp; omega) (wr.heap.size + 1) (by simp) ?_) | fail)
      intro g cp W2 hown2 hgrow2 hat2 hlt2
      have HE2 : Hid (Below B w W2) := (HE.out.alloc hb1 _).grown hgrow2 (by simp; omega) (fun j hj => (HO.out.lt j hj).1)
      have HO2 : Hid (W2.ownsRow B 9 1 (.slice (some ⟨g, 0, none⟩) (ps.length + 1) cp) (cutU m (tl s)).length (strs (cutU m (tl s)))) := by
        show World.ownsRow _ _ _ _ _ _ _
        rw [HR.out, strs_app, List.length_append]
        have : strs [(tl s).drop fr] = [.string (s.extract fr s.size)] := by rw [← HT.out]; simp [strs, bs1_tl]
        rw [this]
        exact hown2
      clear hown2 hgrow2 hat2 hlt2
      go_wp2
      go_ret
      exact ⟨_, rfl, HO2.out, HE2.out⟩
end Go.Proofs.YtnheeenkdjmhoaaDoor
