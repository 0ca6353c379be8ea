import Derived.Test.YtnheeenkdjmhoaaDoorIf
/-
  DERIVED. What an escape's inside stands for, by the document.
-/
namespace Go.Proofs.YtnheeenkdjmhoaaDoor
open Go Go.Proofs Go.RowKit

theorem own_one (w : World) (x : UInt8) : (w.alloc (.cells #[.int .u8 (x.toNat : Int)] 5)).ownsRow w.heap.size 5 1 (.slice (some ⟨w.heap.size, 0, none⟩) 1 1) [x].length (Lib.byteCells [x]) := by
  refine ⟨rfl, .inr ⟨w.heap.size, 1, #[.int .u8 (x.toNat : Int)], rfl, Nat.le_refl _, ?_, Nat.le_refl _, by decide, rfl, rfl⟩⟩
  exact heap_alloc_new w _

/-- What said tells. -/
def SaidR (w : World) (M : Option (List UInt8)) (e : Ending) (w' : World) : Prop :=
  ((∃ x v, M = some x ∧ e = .returned (.tuple #[v, .bool true]) ∧ w'.ownsRow w.heap.size 5 1 v x.length (Lib.byteCells x)) ∨ (M = none ∧ e = .returned (.tuple #[.slice none 0 0, .bool false]))) ∧ Below w.heap.size w w'
theorem said_no {w : World} {M : Option (List UInt8)} (h : M = none) : SaidR w M (.returned (.tuple #[.slice none 0 0, .bool false])) w := ⟨.inr ⟨h, rfl⟩, Below.refl _ _⟩
theorem mean_one (mk s : List UInt8) (c : UInt8) (hs : s = [c]) : meanO mk s = (ltrI c).map fun i => [mk.getD i 0] := by
  subst hs
  unfold meanO
  by_cases h : c = 88
  · subst h; rfl
  · rw [if_neg (by simpa using h), if_pos (show [c].length = 1 from rfl)]; rfl

def HrI (w : World) (B : Nat) (s : ByteArray) (R : Option (List UInt8)) (bv iv : Value) (wr : World) : Prop :=
  ∃ (k : Nat) (acc : List UInt8), 2 * k + 1 ≤ s.size ∧ acc.length = k ∧ iv = .int .i64 ((2 * k + 1 : Nat) : Int) ∧ wr.ownsRow B 5 1 bv acc.length (Lib.byteCells acc) ∧ Below B w wr ∧ (hexP ((tl s).drop (2 * k + 1))).map (fun l => acc ++ l) = R

set_option maxRecDepth 100000 in
set_option maxHeartbeats 4000000 in
theorem said_short (w : World) (mk s : ByteArray) (hm : mk.size = 5) (h1 : s.size = 1) : Calls Tryd.prog 33 #[.string mk, .string s] w (SaidR w (meanO (tl mk) (tl s))) := by
  have h0 : 0 < s.size := by omega
  obtain ⟨c, hc⟩ : ∃ c, s[0]'h0 = c := ⟨_, rfl⟩
  have hs : tl s = [c] := by
    have := tl_getD s 0 h0
    rw [hc] at this
    cases hq : tl s with
    | nil => have h2 := tl_len s; rw [hq] at h2; simp at h2; omega
    | cons a r =>
      rw [hq] at this
      have hr : r = [] := by have h2 := tl_len s; rw [hq] at h2; simp at h2; exact List.eq_nil_of_length_eq_zero (by omega)
      subst hr
      simp at this; rw [this]
  rw [mean_one _ _ c hs]
  have t1 : ((s.size : Int) == 1) = true := by simp; omega
  have h0i : (0 : Int) < (s.size : Int) := by omega
  have m0 : (0 : Int) < (mk.size : Int) := by omega
  have m1 : (1 : Int) < (mk.size : Int) := by omega
  have m2 : (2 : Int) < (mk.size : Int) := by omega
  have m3 : (3 : Int) < (mk.size : Int) := by omega
  have m4 : (4 : Int) < (mk.size : Int) := by omega
  obtain ⟨y, hy⟩ : ∃ y, c.toNat = y := ⟨_, rfl⟩
  have hcy : (s[0]'h0).toNat = y := by rw [hc]; exact hy
  have hyc : ∀ n : UInt8, (c = n ↔ y = n.toNat) := fun n => by rw [← hy]; exact UInt8.toNat_inj.symm
  have HS1 : Hid (s.size = 1) := h1
  have d3 : decide ((s.size : Int) < 3) = true := by simp; omega
  clear hs h1
  by_cases h70 : c = 70
  · have hM : ltrI c = some 0 := by rw [h70]; rfl
    have hyy : y = 70 := (hyc 70).1 h70
    subst hyy
    have hmi : 0 < mk.size := by omega
    have hgi : (tl mk).getD 0 0 = mk[0]'hmi := tl_getD mk 0 hmi
    rw [hM]
    show Calls _ _ _ _ (SaidR w (some [(tl mk).getD 0 0]))
    rw [hgi]
    have hown := own_one w (mk[0]'hmi)
    have HO : Hid ((w.alloc (.cells #[.int .u8 ((mk[0]'hmi).toNat : Int)] 5)).ownsRow w.heap.size 5 1 (.slice (some ⟨w.heap.size, 0, none⟩) 1 1) [mk[0]'hmi].length (Lib.byteCells [mk[0]'hmi])) := hown
    clear hown hM hgi hyc hy hc h70 HS1
    go_enter Tryd.func33, Tryd.ntmps33
    go_wp2
    exact bodyPost_ret (v := .tuple #[.slice (some ⟨w.heap.size, 0, none⟩) 1 1, .bool true]) (by simp [results, Tryd.results33, go_sem]) rfl ⟨.inl ⟨_, _, rfl, rfl, HO.out⟩, (Below.refl _ _).alloc (Nat.le_refl _) _⟩
  have e70 : ((y : Int) == 70) = false := by have := mt (hyc 70).2 h70; simp at this ⊢; omega
  by_cases h83 : c = 83
  · have hM : ltrI c = some 1 := by rw [h83]; rfl
    have hyy : y = 83 := (hyc 83).1 h83
    subst hyy
    have hmi : 1 < mk.size := by omega
    have hgi : (tl mk).getD 1 0 = mk[1]'hmi := tl_getD mk 1 hmi
    rw [hM]
    show Calls _ _ _ _ (SaidR w (some [(tl mk).getD 1 0]))
    rw [hgi]
    have hown := own_one w (mk[1]'hmi)
    have HO : Hid ((w.alloc (.cells #[.int .u8 ((mk[1]'hmi).toNat : Int)] 5)).ownsRow w.heap.size 5 1 (.slice (some ⟨w.heap.size, 0, none⟩) 1 1) [mk[1]'hmi].length (Lib.byteCells [mk[1]'hmi])) := hown
    clear hown hM hgi hyc hy hc h83 HS1 h70
    go_enter Tryd.func33, Tryd.ntmps33
    go_wp2
    exact bodyPost_ret (v := .tuple #[.slice (some ⟨w.heap.size, 0, none⟩) 1 1, .bool true]) (by simp [results, Tryd.results33, go_sem]) rfl ⟨.inl ⟨_, _, rfl, rfl, HO.out⟩, (Below.refl _ _).alloc (Nat.le_refl _) _⟩
  have e83 : ((y : Int) == 83) = false := by have := mt (hyc 83).2 h83; simp at this ⊢; omega
  by_cases h82 : c = 82
  · have hM : ltrI c = some 2 := by rw [h82]; rfl
    have hyy : y = 82 := (hyc 82).1 h82
    subst hyy
    have hmi : 2 < mk.size := by omega
    have hgi : (tl mk).getD 2 0 = mk[2]'hmi := tl_getD mk 2 hmi
    rw [hM]
    show Calls _ _ _ _ (SaidR w (some [(tl mk).getD 2 0]))
    rw [hgi]
    have hown := own_one w (mk[2]'hmi)
    have HO : Hid ((w.alloc (.cells #[.int .u8 ((mk[2]'hmi).toNat : Int)] 5)).ownsRow w.heap.size 5 1 (.slice (some ⟨w.heap.size, 0, none⟩) 1 1) [mk[2]'hmi].length (Lib.byteCells [mk[2]'hmi])) := hown
    clear hown hM hgi hyc hy hc h82 HS1 h70 h83
    go_enter Tryd.func33, Tryd.ntmps33
    go_wp2
    exact bodyPost_ret (v := .tuple #[.slice (some ⟨w.heap.size, 0, none⟩) 1 1, .bool true]) (by simp [results, Tryd.results33, go_sem]) rfl ⟨.inl ⟨_, _, rfl, rfl, HO.out⟩, (Below.refl _ _).alloc (Nat.le_refl _) _⟩
  have e82 : ((y : Int) == 82) = false := by have := mt (hyc 82).2 h82; simp at this ⊢; omega
  by_cases h69 : c = 69
  · have hM : ltrI c = some 3 := by rw [h69]; rfl
    have hyy : y = 69 := (hyc 69).1 h69
    subst hyy
    have hmi : 3 < mk.size := by omega
    have hgi : (tl mk).getD 3 0 = mk[3]'hmi := tl_getD mk 3 hmi
    rw [hM]
    show Calls _ _ _ _ (SaidR w (some [(tl mk).getD 3 0]))
    rw [hgi]
    have hown := own_one w (mk[3]'hmi)
    have HO : Hid ((w.alloc (.cells #[.int .u8 ((mk[3]'hmi).toNat : Int)] 5)).ownsRow w.heap.size 5 1 (.slice (some ⟨w.heap.size, 0, none⟩) 1 1) [mk[3]'hmi].length (Lib.byteCells [mk[3]'hmi])) := hown
    clear hown hM hgi hyc hy hc h69 HS1 h70 h83 h82
    go_enter Tryd.func33, Tryd.ntmps33
    go_wp2
    exact bodyPost_ret (v := .tuple #[.slice (some ⟨w.heap.size, 0, none⟩) 1 1, .bool true]) (by simp [results, Tryd.results33, go_sem]) rfl ⟨.inl ⟨_, _, rfl, rfl, HO.out⟩, (Below.refl _ _).alloc (Nat.le_refl _) _⟩
  have e69 : ((y : Int) == 69) = false := by have := mt (hyc 69).2 h69; simp at this ⊢; omega
  by_cases h84 : c = 84
  · have hM : ltrI c = some 4 := by rw [h84]; rfl
    have hyy : y = 84 := (hyc 84).1 h84
    subst hyy
    have hmi : 4 < mk.size := by omega
    have hgi : (tl mk).getD 4 0 = mk[4]'hmi := tl_getD mk 4 hmi
    rw [hM]
    show Calls _ _ _ _ (SaidR w (some [(tl mk).getD 4 0]))
    rw [hgi]
    have hown := own_one w (mk[4]'hmi)
    have HO : Hid ((w.alloc (.cells #[.int .u8 ((mk[4]'hmi).toNat : Int)] 5)).ownsRow w.heap.size 5 1 (.slice (some ⟨w.heap.size, 0, none⟩) 1 1) [mk[4]'hmi].length (Lib.byteCells [mk[4]'hmi])) := hown
    clear hown hM hgi hyc hy hc h84 HS1 h70 h83 h82 h69
    go_enter Tryd.func33, Tryd.ntmps33
    go_wp2
    exact bodyPost_ret (v := .tuple #[.slice (some ⟨w.heap.size, 0, none⟩) 1 1, .bool true]) (by simp [results, Tryd.results33, go_sem]) rfl ⟨.inl ⟨_, _, rfl, rfl, HO.out⟩, (Below.refl _ _).alloc (Nat.le_refl _) _⟩
  have e84 : ((y : Int) == 84) = false := by have := mt (hyc 84).2 h84; simp at this ⊢; omega
  have hM : ltrI c = none := by unfold ltrI; rw [if_neg h70, if_neg h83, if_neg h82, if_neg h69, if_neg h84]
  rw [hM]
  show Calls _ _ _ _ (SaidR w none)
  clear hM hyc hy hc h70 h83 h82 h69 h84
  go_enter Tryd.func33, Tryd.ntmps33
  go_wp2
  exact bodyPost_ret (v := .tuple #[.slice none 0 0, .bool false]) (by simp [results, Tryd.results33, go_sem]) rfl (said_no rfl)

set_option maxRecDepth 100000 in
set_option maxHeartbeats 4000000 in
theorem said_any (w : World) (mk s : ByteArray) (hm : mk.size = 5) (hl : s.size ≤ 16000000) : Calls Tryd.prog 33 #[.string mk, .string s] w (SaidR w (meanO (tl mk) (tl s))) := by
  by_cases h1 : s.size = 1
  · exact said_short w mk s hm h1
  have t1 : ((s.size : Int) == 1) = false := by simp; omega
  have hlen := tl_len s
  by_cases h3 : s.size < 3
  · have hM : meanO (tl mk) (tl s) = none := by
      cases hq : tl s with
      | nil => rfl
      | cons a r =>
        cases r with
        | nil => rw [hq] at hlen; simp at hlen; omega
        | cons b r2 =>
          have hr : r2 = [] := by rw [hq] at hlen; simp at hlen; exact List.eq_nil_of_length_eq_zero (by omega)
          subst hr
          unfold meanO
          split
          · rfl
          · rfl
    rw [hM]
    have d3 : decide ((s.size : Int) < 3) = true := by simp; omega
    clear hM hlen h1
    go_enter Tryd.func33, Tryd.ntmps33
    go_wp2
    exact bodyPost_ret (v := .tuple #[.slice none 0 0, .bool false]) (by simp [results, Tryd.results33, go_sem]) rfl (said_no rfl)
  have d3 : decide ((s.size : Int) < 3) = false := by simp; omega
  have h0 : 0 < s.size := by omega
  have h0i : (0 : Int) < (s.size : Int) := by omega
  obtain ⟨y, hy⟩ : ∃ y, (s[0]'h0).toNat = y := ⟨_, rfl⟩
  have hhd : (tl s).head? = some (s[0]'h0) := by
    have := tl_getD s 0 h0
    cases hq : tl s with
    | nil => rw [hq] at hlen; simp at hlen; omega
    | cons a r => rw [hq] at this; simp at this; rw [this]; rfl
  by_cases hX : s[0]'h0 = 88
  · have hy8 : y = 88 := by rw [← hy, hX]; rfl
    subst hy8
    have hM : meanO (tl mk) (tl s) = hexP (tl s).tail := by
      unfold meanO
      rw [if_pos (by rw [hhd, hX])]
      unfold hexO
      rw [if_neg (by intro hh; have := congrArg List.length hh; rw [List.length_tail] at this; simp at this; omega)]
    rw [hM]
    by_cases hod : s.size % 2 = 0
    · have hP := hexP_odd (tl s).tail (by rw [List.length_tail]; omega)
      rw [hP]
      have hr2 : Int.tmod (s.size : Int) 2 = 0 := by rw [Int.tmod_eq_emod_of_nonneg (by omega)]; omega
      have hr1 : ((s.size : Int) % 2) = 0 := by omega
      clear hM hP hlen hhd h1 hX hod
      go_enter Tryd.func33, Tryd.ntmps33
      go_wp2
      all_goals
        exact bodyPost_ret (v := .tuple #[.slice none 0 0, .bool false]) (by simp [results, Tryd.results33, go_sem]) rfl (said_no rfl)
    · have hr2 : Int.tmod (s.size : Int) 2 = 1 := by rw [Int.tmod_eq_emod_of_nonneg (by omega)]; omega
      have hr1 : ((s.size : Int) % 2) = 1 := by omega
      obtain ⟨i0, hi, hz0, hz1, hz2⟩ := info_parts info5s
      obtain ⟨B, hB⟩ : ∃ B, w.heap.size = B := ⟨_, rfl⟩
      have HB : Hid (w.heap.size = B) := hB
      obtain ⟨R, hR⟩ : ∃ R, hexP (tl s).tail = R := ⟨_, rfl⟩
      rw [hR]
      have HR : Hid (hexP ((tl s).drop 1) = R) := by show _ = _; rw [← hR, List.drop_one]
      have HOD : Hid (s.size % 2 = 1) := by show _ = _; omega
      have HS3 : Hid (3 ≤ s.size) := by show _ ≤ _; omega
      clear hM hR hlen hhd h1 hX hod
      unfold SaidR
      rw [hB]
      go_enter Tryd.func33, Tryd.ntmps33
      go_wp2
      all_goals clear hr1 hr2 hy
      all_goals
        go_loopw [6, 7] (fun bv iv wr => HrI w B s R bv iv wr) (fun _ i _ => s.size - (intOf i).toNat)
      case atStart => exact ⟨0, [], by omega, rfl, rfl, World.ownsRow_nil _ _ _ _, Below.refl _ _, by have := HR.out; show (hexP ((tl s).drop 1)).map _ = R; rw [this]; simp⟩
      case round =>
        obtain ⟨k, acc, hk, hak, rfl, hown, hbe, hmap⟩ := hrel
        obtain ⟨ao, cap, rfl⟩ := own_slice hown
        have HO : Hid (wr.ownsRow B 5 1 (.slice ao acc.length cap) acc.length (Lib.byteCells acc)) := hown
        have HE : Hid (Below B w wr) := hbe
        have HM : Hid ((hexP ((tl s).drop (2 * k + 1))).map (fun l => acc ++ l) = R) := hmap
        have hbs : B ≤ wr.heap.size := by have := HE.out.size; have := HB.out; omega
        have HAK : Hid (acc.length = k) := hak
        have hac : acc.length ≤ 16000000 := by omega
        clear hown hbe hmap hak
        obtain ⟨i, hi2⟩ : ∃ i, 2 * k + 1 = i := ⟨_, rfl⟩
        rw [hi2] at hk HM
        simp only [hi2]
        have HI2 : Hid (2 * k + 1 = i) := hi2
        clear hi2
        by_cases hin : i < s.size
        · have hi3 : i + 1 < s.size := by have := HI2.out; have := HOD.out; omega
          obtain ⟨a, ha⟩ : ∃ a, (s[i]'hin).toNat = a := ⟨_, rfl⟩
          obtain ⟨b, hb⟩ : ∃ b, (s[i + 1]'hi3).toNat = b := ⟨_, rfl⟩
          have hdr : (tl s).drop i = s[i] :: s[i + 1] :: (tl s).drop (i + 2) := by
            rw [List.drop_eq_getElem_cons (by rw [tl_len]; exact hin), List.drop_eq_getElem_cons (by rw [tl_len]; omega), tl_get s i hin, tl_get s (i + 1) (by omega)]
          have hG := HM.out
          rw [hdr] at hG
          have hG2 : ((match hvs [s[i], s[i + 1]] 0 with
            | none => none
            | some n => (hexP ((tl s).drop (i + 2))).map fun l => UInt8.ofNat n :: l) : Option (List UInt8)).map (fun l => acc ++ l) = R := hG
          have hva : hexD a = hvN a := by rw [← ha]; exact hexD_is _
          have hvb : hexD b = hvN b := by rw [← hb]; exact hexD_is _
          have ha2 : a < 256 := by rw [← ha]; exact UInt8.toNat_lt _
          have hb2 : b < 256 := by rw [← hb]; exact UInt8.toNat_lt _
          have hvv : hvs [s[i], s[i + 1]] 0 = (hexD a).bind fun x => (hexD b).map fun y => 16 * x + y := by
            unfold hvs
            rw [ha, ← hva]
            cases hexD a with
            | none => rfl
            | some x =>
              show hvs [s[i + 1]] (16 * 0 + x) = _
              unfold hvs
              rw [hb, ← hvb]
              cases hexD b with
              | none => rfl
              | some y => simp [hvs]
          rw [hvv] at hG2
          have c1 := hex51 wr a ha2
          have c2 := hex51 wr b hb2
          clear hdr hG hvv hva hvb
          cases hxa : hexD a with
          | none =>
            have hva : hexV a = -1 := by unfold hexV; rw [hxa]
            rw [hva] at c1
            rw [hxa] at hG2
            have HGn : Hid (R = none) := hG2.symm
            clear hG2 hxa hva
            obtain ⟨q, hq⟩ : ∃ q, hexV b = q := ⟨_, rfl⟩
            rw [hq] at c2
            clear hq
            go_wp2_with (go_at_call 51; refine StopF.out ?_)
            refine StopF.mk (c1.mono ?_)
            rintro e w' ⟨rfl, hw⟩
            obtain rfl : wr = w' := hw.symm
            clear hw c1
            go_wp2_with (go_at_call 51; refine StopF.out ?_)
            refine StopF.mk (c2.mono ?_)
            rintro e w' ⟨rfl, hw⟩
            obtain rfl : wr = w' := hw.symm
            clear hw c2
            go_wp2
            exact bodyPost_ret (v := .tuple #[.slice none 0 0, .bool false]) (by simp [results, Tryd.results33, go_sem]) rfl ⟨.inr ⟨HGn.out, rfl⟩, HE.out⟩
          | some da =>
            have hva : hexV a = (da : Int) := by unfold hexV; rw [hxa]
            have hda := hexD_lt hxa
            rw [hva] at c1
            rw [hxa] at hG2
            cases hxb : hexD b with
            | none =>
              have hvb : hexV b = -1 := by unfold hexV; rw [hxb]
              rw [hvb] at c2
              rw [hxb] at hG2
              have HGn : Hid (R = none) := hG2.symm
              have n1 : decide ((da : Int) < 0) = false := decide_eq_false (by omega)
              clear hG2 hxa hva hxb hvb
              go_wp2_with (go_at_call 51; refine StopF.out ?_)
              refine StopF.mk (c1.mono ?_)
              rintro e w' ⟨rfl, hw⟩
              obtain rfl : wr = w' := hw.symm
              clear hw c1
              go_wp2_with (go_at_call 51; refine StopF.out ?_)
              refine StopF.mk (c2.mono ?_)
              rintro e w' ⟨rfl, hw⟩
              obtain rfl : wr = w' := hw.symm
              clear hw c2
              go_wp2
              exact bodyPost_ret (v := .tuple #[.slice none 0 0, .bool false]) (by simp [results, Tryd.results33, go_sem]) rfl ⟨.inr ⟨HGn.out, rfl⟩, HE.out⟩
            | some db =>
              have hvb : hexV b = (db : Int) := by unfold hexV; rw [hxb]
              have hdb := hexD_lt hxb
              rw [hvb] at c2
              rw [hxb] at hG2
              obtain ⟨N2, hN2⟩ : ∃ n, 16 * da + db = n := ⟨_, rfl⟩
              have hNl : N2 < 256 := by omega
              have HG2 : Hid ((hexP ((tl s).drop (i + 2))).map (fun l => (acc ++ [UInt8.ofNat N2]) ++ l) = R) := by
                show Option.map _ _ = _
                rw [← hG2]
                simp only [Option.bind_some, Option.map_some, hN2, Option.map_map]
                congr 1
                funext l
                simp
              have n1 : decide ((da : Int) < 0) = false := decide_eq_false (by omega)
              have n2 : decide ((db : Int) < 0) = false := decide_eq_false (by omega)
              have w1 : IntKind.i64.wrap (16 * (da : Int)) = 16 * (da : Int) := by simp [IntKind.wrap, IntKind.bits, IntKind.signed]; omega
              have w2 : IntKind.i64.wrap (16 * (da : Int) + (db : Int)) = (N2 : Int) := by simp [IntKind.wrap, IntKind.bits, IntKind.signed]; omega
              have w8 : IntKind.u8.wrap (N2 : Int) = (N2 : Int) := by simp [IntKind.wrap, IntKind.bits, IntKind.signed]; omega
              have HN : Hid (N2 < 256) := hNl
              clear hG2 hxa hva hxb hvb hN2 hNl hda hdb
              go_wp2_with (go_at_call 51; refine StopF.out ?_)
              refine StopF.mk (c1.mono ?_)
              rintro e w' ⟨rfl, hw⟩
              obtain rfl : wr = w' := hw.symm
              clear hw c1
              go_wp2_with (go_at_call 51; refine StopF.out ?_)
              refine StopF.mk (c2.mono ?_)
              rintro e w' ⟨rfl, hw⟩
              obtain rfl : wr = w' := hw.symm
              clear hw c2
              go_wp2_with (first | (at_builtin; refine wpList_append_lies _ rfl _ _ 22 rfl B 5 i0 _ 1 1 Tryd.underlying22 hi hz0 hz1 hz2 rfl (by decide) (.slice ao acc.length cap) acc.length (Lib.byteCells acc) rfl (World.ownsRow.alloc HO.out _) ⟨wr.heap.size, 0, none⟩ 1 1 [.int .u8 (N2 : Int)] rfl rfl (cell_one_new _ _ _) (by intro u hu; simp at hu; subst hu; rfl) (by decide) (by unfold maxLen; omega) (by omega) (by simp; omega) (wr.heap.size + 1) (by simp) ?_) | fail)
              intro g cp W3 hown3 hgrow3 hat3 hlt3
              have HE3 : Hid (Below B w W3) := (HE.out.alloc hbs _).grown hgrow3 (by simp; omega) (fun j hj => (HO.out.lt j hj).1)
              have HO3 : Hid (W3.ownsRow B 5 1 (.slice (some ⟨g, 0, none⟩) (acc.length + 1) cp) (acc ++ [UInt8.ofNat N2]).length (Lib.byteCells (acc ++ [UInt8.ofNat N2]))) := by
                show World.ownsRow _ _ _ _ _ _ _
                rw [Lib.byteCells_append, List.length_append]
                have : Lib.byteCells [UInt8.ofNat N2] = [.int .u8 (N2 : Int)] := by simp [Lib.byteCells, UInt8.toNat_ofNat', Nat.mod_eq_of_lt HN.out]
                rw [this]
                exact hown3
              clear hown3 hgrow3 hat3 hlt3
              go_wp2
              go_roundw
              case rel => exact ⟨k + 1, acc ++ [UInt8.ofNat N2], by have := HI2.out; omega, by simp [HAK.out], by rw [show 2 * (k + 1) + 1 = i + 2 by have := HI2.out; omega]; go_num, HO3.out, HE3.out, by rw [show 2 * (k + 1) + 1 = i + 2 by have := HI2.out; omega]; exact HG2.out⟩
              case measure => simp [intOf]; omega
        · have hie : i = s.size := by omega
          have hG := HM.out
          rw [hie, ← tl_len, List.drop_length] at hG
          have HG2 : Hid (R = some acc) := by show R = _; rw [← hG]; simp [hexP]
          clear hG hie
          go_wp2
          exact bodyPost_ret (v := .tuple #[.slice ao acc.length cap, .bool true]) (by simp [results, Tryd.results33, go_sem]) rfl ⟨.inl ⟨acc, _, HG2.out, rfl, HO.out⟩, HE.out⟩
  · have hM : meanO (tl mk) (tl s) = none := by
      unfold meanO
      rw [if_neg (by rw [hhd]; simpa using hX), if_neg (by rw [hlen]; exact h1)]
    rw [hM]
    have e8 : ((y : Int) == 88) = false := by
      have : ¬ y = 88 := fun h => hX (UInt8.toNat_inj.1 (hy.trans h))
      simp; omega
    clear hM hlen hhd h1 hX
    go_enter Tryd.func33, Tryd.ntmps33
    go_wp2
    exact bodyPost_ret (v := .tuple #[.slice none 0 0, .bool false]) (by simp [results, Tryd.results33, go_sem]) rfl (said_no rfl)
end Go.Proofs.YtnheeenkdjmhoaaDoor
