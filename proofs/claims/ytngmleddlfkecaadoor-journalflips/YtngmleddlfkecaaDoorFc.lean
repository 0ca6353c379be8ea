import Derived.Test.YtngmleddlfkecaaDoorFb
import Derived.Test.YtngmleddlfkecaaDoorZa
namespace Go.Proofs.YtngmleddlfkecaaDoor
open Go Go.Proofs Go.RowKit

/-- The program's error, the document's: none, or a place and a number. -/
def PE (w : World) (v : Value) : Option (Int × Int) → Prop
  | none => v = .nilIface
  | some (a, c) => ∃ q, v = .iface 67 (.pointer (some ⟨q, 0, none⟩)) ∧ FaultAt w q a c
def RE (w : World) (v : Value) : Option (Int × Int) → Prop
  | none => v = .agg #[.slice none 0 0, .int .i64 0]
  | some (a, c) => RFault w v a c

theorem PE.next {w w' : World} {v : Value} {o : Option (Int × Int)} (h : PE w v o) (hb : Below w.heap.size w w') : PE w' v o := by
  cases o with
  | none => exact h
  | some x => obtain ⟨q, rfl, hf⟩ := h; exact ⟨q, rfl, hf.next hb⟩
theorem RE.next {w w' : World} {v : Value} {o : Option (Int × Int)} (h : RE w v o) (hb : Below w.heap.size w w') : RE w' v o := by
  cases o with
  | none => exact h
  | some x => exact RFault.next h hb
theorem RE.shape {w : World} {v : Value} {o : Option (Int × Int)} (h : RE w v o) : ∃ fa fn fc c, v = .agg #[.slice fa fn fc, .int .i64 c] := by
  cases o with
  | none => exact ⟨_, _, _, _, h⟩
  | some x => obtain ⟨g, c, rfl, _⟩ := h; exact ⟨_, _, _, _, rfl⟩

theorem is_eq {w : World} {ve vf : Value} {o : Option (Int × Int)} (h1 : PE w ve o) (h2 : RE w vf o) (ho : ∀ a c, o = some (a, c) → (c != 0) = true) :
    Calls Tryd.prog 15 #[ve, vf] w fun e w' => e = .returned (.bool true) ∧ Below w.heap.size w w' := by
  cases o with
  | none =>
    obtain rfl : ve = .nilIface := h1
    obtain rfl : vf = .agg #[.slice none 0 0, .int .i64 0] := h2
    exact is_nil w
  | some x =>
    obtain ⟨a, c⟩ := x
    obtain ⟨q, rfl, hf⟩ := h1
    obtain ⟨g, cg, rfl, g0, g1⟩ := h2
    exact is_one c (ho a c rfl) q g cg a w hf.1 hf.2.1 hf.2.2 g0 g1

/-- What Frame gives. -/
def frameO (n : Nat) (body : List Nat) : List Nat := if body.length ≤ 131072 then frameL n body else []
def frameE (body : List Nat) : Option (Int × Int) := if body.length ≤ 131072 then none else some (0, 40)

theorem Own.nil (w : World) (B : Nat) : Own w B (.slice none 0 0) [] := ⟨World.ownsRow_nil _ _ _ _, by simp⟩

set_option maxRecDepth 100000 in
/-- Frame. -/
theorem framep_any {w : World} {b off m c : Nat} {body : List Nat} (hA : At w b off body) (hmm : body.length = m) (hbB : b < w.heap.size) (hT : Tab w) (n : Nat) (hn : n < 4294967296) (hml : m ≤ 400000) (hmc : m ≤ c) :
    Calls Tryd.prog 9 #[.int .u32 (n : Int), .slice (some ⟨b, off, none⟩) m c] w fun e w' => ∃ v ve, e = .returned (.tuple #[v, ve]) ∧ Own w' w.heap.size v (frameO n body) ∧ PE w' ve (frameE body) ∧ Below w.heap.size w w' := by
  have h0 : 0 < w.heap.size := cell_lt (hT 0 (by decide))
  unfold frameO frameE
  rw [hmm]
  by_cases hm : m ≤ 131072
  · rw [if_pos hm, if_pos hm]
    obtain ⟨i0, hi, hz0, hz1, hz2⟩ := info_parts Tryd.info5
    have HM : Hid (body.length = m) := hmm
    have HA : Hid (At w b off body) := hA
    have HT : Hid (Tab w) := hT
    clear hA hT hmm
    obtain ⟨B, hB⟩ : ∃ B, w.heap.size = B := ⟨_, rfl⟩
    rw [hB] at h0 hbB ⊢
    go_enter Tryd.func9, Tryd.ntmps9
    go_wp2_with (first | (at_make; refine wpList_make_own _ rfl _ _ 22 rfl B 5 i0 (.int .u8 0) 1 Tryd.underlying22 hi hz0 hz1 .i64 .i64 _ (17 + m) rfl rfl ?_ ?_ ?_ ?_ ?_) | fail)
    · omega
    · rw [hz2]; omega
    · unfold maxLen; omega
    · omega
    · intro w1 hown1 hgrow1
      have hb1 : Below B w w1 := (Below.refl B w).grown hgrow1 (by omega) (by simp)
      have c1 := addFrame_any (w := w1) (B := B) (g := B) (cap := 17 + m) (bs := []) (body := body) (b := b) (off := off) (c := c) ⟨hown1, by simp⟩ (by have := hb1.size; omega) h0 (HA.out.under hb1 hbB) hbB (HT.out.under hb1 h0) n hn (by rw [HM.out]; omega) (by rw [HM.out]; omega) (by rw [HM.out]; simp) (by simp)
      rw [HM.out] at c1
      simp only [List.length_nil, Nat.zero_add, List.nil_append] at c1
      clear hown1 hgrow1
      go_wp2_with (go_at_call 29; refine c1.mono ?_; rintro e w2 ⟨rfl, hO, hb2⟩)
      go_ret2
      exact ⟨_, _, rfl, hO, rfl, hb1.trans hb2⟩
  · rw [if_neg hm, if_neg hm]
    clear hA hT hmm
    go_enter Tryd.func9, Tryd.ntmps9
    go_wp2_with (go_at_call 26; refine (refusal_fault _ _ _).mono ?_; rintro e W2 ⟨q, rfl, hf, hq, hb2⟩)
    go_ret2
    exact ⟨_, _, rfl, Own.nil _ _, ⟨q, rfl, hf⟩, hb2⟩

/-- join, its length named. -/
theorem join_at {w : World} {v1 v2 : Value} {l1 l2 : List Nat} (h1 : V w v1 l1) (h2 : V w v2 l2) (r : Nat) (hr : (l1 ++ l2).length = r) (hl : r ≤ 70368744177664) :
    Calls Tryd.prog 40 #[v1, v2] w fun e w' => e = .returned (.slice (some ⟨w.heap.size, 0, none⟩) r r) ∧ Own w' w.heap.size (.slice (some ⟨w.heap.size, 0, none⟩) r r) (l1 ++ l2) ∧ Below w.heap.size w w' := by
  rw [List.length_append] at hr
  subst hr
  exact join_any h1 h2 hl

/-- number, its value's shape seen. -/
theorem number_at (w : World) (v n : Nat) (hv : v < 18446744073709551616) (hn : n ≤ 8) :
    Calls Tryd.prog 41 #[.int .u64 (v : Int), .int .i64 (n : Int)] w fun e w' => ∃ a p, e = .returned (.slice a n p) ∧ V w' (.slice a n p) (dig n v) ∧ Below w.heap.size w w' := by
  refine (number_any w v n hv hn).mono ?_
  rintro e w' ⟨v', rfl, hO, hb⟩
  obtain ⟨a, p, rfl⟩ := hO.shape
  have := hO.v
  rw [dig_length] at this
  exact ⟨a, p, by rw [dig_length], this, hb⟩

theorem lead_eq (n : Nat) (body : List Nat) : [165] ++ dig 4 n ++ dig 4 body.length = leadL n body := rfl

set_option maxRecDepth 100000 in
set_option maxHeartbeats 1000000 in
/-- The document's frame. -/
theorem rframe_any {w : World} {v : Value} {body : List Nat} (h : V w v body) (n : Nat) (hn : n < 4294967296) (hml : body.length ≤ 400000) :
    Calls Tryd.prog 37 #[.int .u32 (n : Int), v] w fun e w' => ∃ v', e = .returned v' ∧ Own w' w.heap.size v' (frameL n body) ∧ Below w.heap.size w w' := by
  obtain ⟨ao, cap, hv, _, hby⟩ := h.form
  obtain ⟨m, hmm⟩ : ∃ m, body.length = m := ⟨_, rfl⟩
  have HM : Hid (body.length = m) := hmm
  rw [hmm] at hv hml
  have HV : Hid (V w (.slice ao m cap) body) := by rw [← hv]; exact h
  subst hv
  clear h hmm
  have ewn := wrap_u64_small n (by omega)
  have ewm := wrap_u64_small m (by omega)
  obtain ⟨W1, hW1⟩ : ∃ W1, w.alloc (.cells #[.int .u8 165] 5) = W1 := ⟨_, rfl⟩
  have hb1 : Below w.heap.size w W1 := hW1 ▸ (Below.refl _ _).alloc (Nat.le_refl _) _
  have hV1 : V W1 (.slice (some ⟨w.heap.size, 0, none⟩) 1 1) [165] := by
    refine V.mk ⟨?_, by simp⟩ rfl (Nat.le_refl _)
    intro k hk
    obtain rfl : k = 0 := by simpa using hk
    rw [← hW1]
    simp
  go_enter Tryd.func37, Tryd.ntmps37
  go_wp2_with (go_at_call 41; fail)
  refine (number_at W1 n 4 (by omega) (by decide)).mono ?_
  rintro e W2 ⟨x2, y2, rfl, hV2, hb2⟩
  have J2 := join_at (hV1.next hb2) hV2 5 (by simp [dig_length]) (by decide)
  clear hW1
  go_wp2_with (go_at_call 40; fail)
  refine J2.mono ?_
  rintro e W3 ⟨rfl, hO3, hb3⟩
  have hb03 : Below w.heap.size w W3 := (hb1.trans (hb2.mono hb1.size)).trans (hb3.mono (Nat.le_trans hb1.size hb2.size))
  clear J2 hV1 hV2 hb3 hb2 hb1
  go_wp2_with (go_at_call 41; fail)
  refine (number_at W3 m 4 (by omega) (by decide)).mono ?_
  rintro e W4 ⟨x4, y4, rfl, hV4, hb4⟩
  have J4 := join_at (hO3.v.next hb4) hV4 9 (by simp [dig_length]) (by decide)
  have hb04 : Below w.heap.size w W4 := hb03.trans (hb4.mono hb03.size)
  go_wp2_with (go_at_call 40; fail)
  refine J4.mono ?_
  rintro e W5 ⟨rfl, hO5, hb5⟩
  have hb05 : Below w.heap.size w W5 := hb04.trans (hb5.mono hb04.size)
  rw [show [165] ++ dig 4 n ++ dig 4 m = leadL n body by rw [leadL, HM.out]] at hO5
  clear J4 hV4 hb4 hb04 hb5 hO3 hb03
  have c5 : Calls Tryd.prog 23 #[.slice (some ⟨W4.heap.size, 0, none⟩) 9 9] W5 fun e w' => e = .returned (.int .u32 (crc (leadL n body) : Nat)) ∧ W5 = w' := rsum_any hO5.v (by rw [leadL_length]; decide)
  have hcl : crc (leadL n body) < 4294967296 := crc_lt _ hO5.2
  obtain ⟨C, hC⟩ : ∃ C, crc (leadL n body) = C := ⟨_, rfl⟩
  have HC : Hid (crc (leadL n body) = C) := hC
  rw [hC] at c5 hcl
  have ewc := wrap_u64_small C (by omega)
  clear hC
  go_wp2_with (first | (go_at_call 23; refine c5.mono ?_; rintro e w' ⟨rfl, rfl⟩) | (go_at_call 41; fail))
  refine (number_at W5 C 4 (by omega) (by decide)).mono ?_
  rintro e W6 ⟨x6, y6, rfl, hV6, hb6⟩
  have J6 := join_at (hO5.v.next hb6) hV6 13 (by simp [dig_length, leadL_length]) (by decide)
  have hb06 : Below w.heap.size w W6 := hb05.trans (hb6.mono hb05.size)
  go_wp2_with (go_at_call 40; fail)
  refine J6.mono ?_
  rintro e W7 ⟨rfl, hO7, hb7⟩
  have hb07 : Below w.heap.size w W7 := hb06.trans (hb7.mono hb06.size)
  clear J6 hV6 hb6 hb06 hb7 hO5 hb05 c5
  have J8 := join_at hO7.v (HV.out.next hb07) (13 + m) (by simp [dig_length, leadL_length, HM.out]; omega) (by omega)
  go_wp2_with (go_at_call 40; fail)
  refine J8.mono ?_
  rintro e W8 ⟨rfl, hO8, hb8⟩
  have hb08 : Below w.heap.size w W8 := hb07.trans (hb8.mono hb07.size)
  have c8 : Calls Tryd.prog 23 #[.slice ao m cap] W8 fun e w' => e = .returned (.int .u32 (crc body : Nat)) ∧ W8 = w' := rsum_any (HV.out.next hb08) (by rw [HM.out]; omega)
  have hcb : crc body < 4294967296 := crc_lt _ hby
  obtain ⟨D, hD⟩ : ∃ C, crc body = C := ⟨_, rfl⟩
  have HD : Hid (crc body = D) := hD
  rw [hD] at c8 hcb
  have ewd := wrap_u64_small D (by omega)
  clear hD J8 hO7 hb07 hb8
  go_wp2_with (first | (go_at_call 23; refine c8.mono ?_; rintro e w' ⟨rfl, rfl⟩) | (go_at_call 41; fail))
  refine (number_at W8 D 4 (by omega) (by decide)).mono ?_
  rintro e W9 ⟨x9, y9, rfl, hV9, hb9⟩
  have hb09 : Below w.heap.size w W9 := hb08.trans (hb9.mono hb08.size)
  have J9 := join_at (hO8.v.next hb9) hV9 (17 + m) (by simp [dig_length, leadL_length, HM.out]; omega) (by omega)
  clear c8 hO8
  go_wp2_with (go_at_call 40; fail)
  refine J9.mono ?_
  rintro e W10 ⟨rfl, hO10, hb10⟩
  have hb010 : Below w.heap.size w W10 := hb09.trans (hb10.mono hb09.size)
  go_wp2
  go_ret
  refine ⟨_, rfl, ?_, hb010⟩
  have := hO10.base hb09.size
  rw [← HC.out, ← HD.out] at this
  exact this
end Go.Proofs.YtngmleddlfkecaaDoor
