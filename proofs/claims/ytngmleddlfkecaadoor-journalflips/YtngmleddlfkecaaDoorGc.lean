import Derived.Test.YtngmleddlfkecaaDoorGb
namespace Go.Proofs.YtngmleddlfkecaaDoor
open Go Go.Proofs Go.RowKit

set_option maxRecDepth 100000 in
set_option maxHeartbeats 1000000 in
/-- addFrame of no bytes, where there is room. -/
theorem addFrame_nil {w : World} {B g cap : Nat} {bs : List Nat} (h : Own w B (.slice (some ⟨g, 0, none⟩) bs.length cap) bs) (hB : B ≤ w.heap.size) (hB0 : 0 < B) (hT : Tab w) (n : Nat) (hn : n < 4294967296) (hc : bs.length + 17 ≤ cap) (hbs : bs.length ≤ 140737488351232) :
    Calls Tryd.prog 29 #[.slice (some ⟨g, 0, none⟩) bs.length cap, .int .u32 (n : Int), .slice none 0 0] w fun e w' => e = .returned (.slice (some ⟨g, 0, none⟩) (bs.length + 17) cap) ∧ Own w' B (.slice (some ⟨g, 0, none⟩) (bs.length + 17) cap) (bs ++ frameL n []) ∧ Below B w w' := by
  obtain ⟨i0, hi, hz0, hz1, hz2⟩ := info_parts Tryd.info5
  have hgB : B ≤ g := (h.1.lt g rfl).1
  obtain ⟨k, hk⟩ : ∃ k, bs.length = k := ⟨_, rfl⟩
  have HK : Hid (bs.length = k) := hk
  have hown : w.ownsRow B 5 1 (.slice (some ⟨g, 0, none⟩) k cap) k (u8s bs) := by rw [← hk]; exact h.1
  have HL : Hid (∀ x ∈ bs, x < 256) := h.2
  have HT : Hid (Tab w) := hT
  rw [hk] at hc
  rw [hk] at hbs
  rw [hk]
  clear h hk hT
  go_enter Tryd.func29, Tryd.ntmps29
  go_wp2_with (first | (at_builtin; refine wpList_append_fits _ rfl (.tmp 10) (.tmp 11) 22 rfl B 5 i0 1 Tryd.underlying22 hi hz1 g k cap _ rfl (hown.alloc _) ⟨w.heap.size, 0, none⟩ 1 1 [.int .u8 165] rfl rfl ?_ ?_ ?_ ?_) | fail)
  · exact cell_one_new _ _ _
  · intro u hu; simp at hu; subst hu; rfl
  · omega
  · intro w1 hown1 hgrow1
    have hb1 : Below B w w1 := ((Below.refl B w).alloc hB _).grown hgrow1 (by simp; omega) (fun j hj => by cases hj; exact hgB)
    have hO1 : Own w1 B (.slice (some ⟨g, 0, none⟩) (bs ++ [165]).length cap) (bs ++ [165]) := by
      refine ⟨?_, ?_⟩
      · rw [List.length_append, HK.out, u8s_append]; exact hown1
      · intro x hx
        rcases List.mem_append.1 hx with hx | hx
        · exact HL.out x hx
        · simp at hx; omega
    have c1 := add32_any hO1 (Nat.le_trans hB hb1.size) (by rw [List.length_append, HK.out]; simp; omega) n hn
    rw [List.length_append, HK.out] at c1
    clear hown hown1 hgrow1
    go_wp2_with (go_at_call 43; fail)
    refine c1.mono ?_
    rintro e w2 ⟨rfl, hO2, hb2⟩
    have e2 : (bs ++ [165] ++ dig 4 n).length = k + 5 := by simp [dig_length, HK.out]
    have c2 := add32_any (w := w2) (B := B) (g := g) (cap := cap) (bs := bs ++ [165] ++ dig 4 n) (by rw [e2]; exact hO2) (Nat.le_trans hB (hb1.trans hb2).size) (by rw [e2]; omega) 0 (by omega)
    rw [e2, show k + 5 + 4 = k + 9 from rfl] at c2
    clear c1 hO1
    go_wp2_with (go_at_call 43; fail)
    refine c2.mono ?_
    rintro e w3 ⟨rfl, hO3, hb3⟩
    have hb13 : Below B w w3 := (hb1.trans hb2).trans hb3
    have e3 : (bs ++ [165] ++ dig 4 n ++ dig 4 0).length = k + 9 := by simp [dig_length, HK.out]
    have hO3' : Own w3 B (.slice (some ⟨g, 0, none⟩) (bs ++ leadL n []).length cap) (bs ++ leadL n []) := by
      have : bs ++ leadL n [] = bs ++ [165] ++ dig 4 n ++ dig 4 0 := by rw [leadL]; simp
      rw [this, e3]
      exact hO3
    have hA3 : At w3 g k (leadL n []) := by
      have := hO3'.at.drop k
      rw [List.drop_append, List.drop_eq_nil_of_le (by rw [HK.out]; exact Nat.le_refl _), HK.out, Nat.sub_self, List.drop_zero, List.nil_append, Nat.zero_add] at this
      exact this
    have c3 : Calls Tryd.prog 6 #[.slice (some ⟨g, k, none⟩) 9 (cap - k)] w3 fun e w' => e = .returned (.int .u32 (crc (leadL n []) : Nat)) ∧ w3 = w' := sum_any (V.mk hA3 (leadL_length n []) (by omega)) (HT.out.under hb13 hB0) (by rw [leadL_length]; omega)
    have hcl : crc (leadL n []) < 4294967296 := crc_lt _ hA3.2
    have c4 := add32_any hO3' (Nat.le_trans hB hb13.size) (by rw [List.length_append, HK.out, leadL_length]; omega) (crc (leadL n [])) hcl
    rw [List.length_append, HK.out, leadL_length] at c4
    have hck : ¬ cap = k := by omega
    clear c2 hO2 hO3 hA3 e2 e3
    rw [show k + 9 + 4 = k + 13 from rfl] at c4
    have hk9 : k + 9 - k = 9 := by omega
    go_wp2_with (first | (go_at_call 6; refine c3.mono ?_; rintro e w' ⟨rfl, rfl⟩) | (go_at_call 43; fail))
    refine c4.mono ?_
    rintro e w4 ⟨rfl, hO4, hb4⟩
    have hb14 : Below B w w4 := hb13.trans hb4
    obtain ⟨L4, hL4⟩ : ∃ L, bs ++ leadL n [] ++ dig 4 (crc (leadL n [])) = L := ⟨_, rfl⟩
    have HL4 : Hid (bs ++ leadL n [] ++ dig 4 (crc (leadL n [])) = L4) := hL4
    have hl4 : L4.length = k + 13 := by rw [← hL4]; simp [dig_length, leadL_length, HK.out]
    have HLl : Hid (L4.length = k + 13) := hl4
    rw [hL4] at hO4
    have hown4 : w4.ownsRow B 5 1 (.slice (some ⟨g, 0, none⟩) (k + 13) cap) (k + 13) (u8s L4) := by
      have := hO4.1
      rw [hl4] at this
      exact this
    have HL5 : Hid (∀ x ∈ L4, x < 256) := hO4.2
    clear c3 c4 hO3' hO4 hL4 hl4
    have c5 : Calls Tryd.prog 6 #[.slice none 0 0] w4 fun e w' => e = .returned (.int .u32 (crc [] : Nat)) ∧ w4 = w' := sum_any (.inl ⟨_, _, rfl, rfl⟩) (HT.out.under hb14 hB0) (by simp)
    have hO4 : Own w4 B (.slice (some ⟨g, 0, none⟩) L4.length cap) L4 := ⟨by rw [HLl.out]; exact hown4, HL5.out⟩
    have c6 := add32_any hO4 (Nat.le_trans hB hb14.size) (by rw [HLl.out]; omega) (crc []) (crc_lt _ (by simp))
    rw [HLl.out] at c6
    clear hO4 hown4
    go_wp2_with (first | (go_at_call 6; refine c5.mono ?_; rintro e w' ⟨rfl, rfl⟩) | (go_at_call 43; fail))
    refine c6.mono ?_
    rintro e w6 ⟨rfl, hO6, hb6⟩
    go_wp2
    go_ret
    have el : L4 ++ dig 4 (crc []) = bs ++ frameL n [] := by rw [← HL4.out]; simp [frameL]
    rw [el, show k + 13 + 4 = k + 17 by omega] at hO6
    exact ⟨rfl, hO6, hb14.trans hb6⟩

set_option maxRecDepth 100000 in
/-- Frame of no bytes. -/
theorem framep_nil {w : World} (hT : Tab w) (n : Nat) (hn : n < 4294967296) :
    Calls Tryd.prog 9 #[.int .u32 (n : Int), .slice none 0 0] w fun e w' => ∃ v, e = .returned (.tuple #[v, .nilIface]) ∧ Own w' w.heap.size v (frameL n []) ∧ Below w.heap.size w w' := by
  have h0 : 0 < w.heap.size := cell_lt (hT 0 (by decide))
  obtain ⟨i0, hi, hz0, hz1, hz2⟩ := info_parts Tryd.info5
  have HT : Hid (Tab w) := hT
  clear hT
  obtain ⟨B, hB⟩ : ∃ B, w.heap.size = B := ⟨_, rfl⟩
  rw [hB] at h0 ⊢
  go_enter Tryd.func9, Tryd.ntmps9
  go_wp2_with (first | (at_make; refine wpList_make_own _ rfl _ _ 22 rfl B 5 i0 (.int .u8 0) 1 Tryd.underlying22 hi hz0 hz1 .i64 .i64 _ 17 rfl rfl ?_ ?_ ?_ ?_ ?_) | fail)
  · omega
  · rw [hz2]; omega
  · unfold maxLen; omega
  · omega
  · intro w1 hown1 hgrow1
    have hb1 : Below B w w1 := (Below.refl B w).grown hgrow1 (by omega) (by simp)
    have c1 := addFrame_nil (w := w1) (B := B) (g := B) (cap := 17) (bs := []) ⟨hown1, by simp⟩ (by have := hb1.size; omega) h0 (HT.out.under hb1 h0) n hn (by simp) (by simp)
    simp only [List.length_nil, Nat.zero_add, List.nil_append] at c1
    clear hown1 hgrow1
    go_wp2_with (go_at_call 29; refine c1.mono ?_; rintro e w2 ⟨rfl, hO, hb2⟩)
    go_ret2
    exact ⟨_, rfl, hO, hb1.trans hb2⟩

/-- Frame of bytes of our own. -/
theorem frame_own {w : World} {B0 : Nat} {v : Value} {body : List Nat} (h : Own w B0 v body) (hT : Tab w) (n : Nat) (hn : n < 4294967296) (hml : body.length ≤ 131072) :
    Calls Tryd.prog 9 #[.int .u32 (n : Int), v] w fun e w' => ∃ v', e = .returned (.tuple #[v', .nilIface]) ∧ Own w' w.heap.size v' (frameL n body) ∧ Below w.heap.size w w' := by
  rcases h.1.2 with ⟨rfl, h0⟩ | ⟨g, cap, cur, rfl, h1, h2, h3⟩
  · obtain rfl : body = [] := List.eq_nil_of_length_eq_zero h0
    exact framep_nil hT n hn
  · refine (framep_any (b := g) (off := 0) (m := body.length) (c := cap) h.at rfl (h.1.lt g rfl).2 hT n hn (by omega) h3.1).mono ?_
    rintro e w' ⟨v', ve, rfl, hO, hE, hb⟩
    unfold frameO at hO
    unfold frameE at hE
    rw [if_pos hml] at hO hE
    obtain rfl : ve = .nilIface := hE
    exact ⟨v', rfl, hO, hb⟩

theorem VV.rows {w : World} {B : Nat} {v : Value} {l : List (List Nat)} (h : VV w B v l) : ∃ ao cap, v = .slice ao l.length cap ∧ (0 < l.length → ∃ b, ao = some ⟨b, 0, none⟩ ∧ ∀ i, i < l.length → ∃ x, w.cell? ⟨b, i, none⟩ = some x ∧ Own w B x (l.getD i [])) := by
  obtain ⟨cells, h1, h2⟩ := h
  have hcl : cells.length = l.length := by simpa using h1.1
  rcases h1.2 with ⟨rfl, h0⟩ | ⟨b, cap, cur, rfl, hb, hg, hr⟩
  · exact ⟨none, 0, by rw [h0], by omega⟩
  · refine ⟨_, cap, rfl, fun _ => ⟨b, rfl, fun i hi => ⟨cells.getD i undef, ?_, h2 i hi⟩⟩⟩
    rw [h1.cellAt (g := b) (cap := cap) i (by omega)]
    simp [List.getD_eq_getElem?_getD, List.getElem?_eq_getElem (show i < cells.length by omega)]

set_option maxRecDepth 100000 in
set_option maxHeartbeats 1000000 in
/-- slotBytes, of bytes of our own. -/
theorem slotBytes_own {w : World} {B0 : Nat} {v : Value} {bss : List (List Nat)} (h : VV w B0 v bss) (hT : Tab w) (gen : Nat) (hg : gen < 18446744073709551616) (hF : Few bss) (h6 : bss.length ≤ 600) (hs : ∀ i, i < bss.length → (bss.getD i []).length ≤ 131072) :
    Calls Tryd.prog 28 #[.int .u64 (gen : Int), v] w fun e w' => ∃ v', e = .returned v' ∧ Own w' w.heap.size v' (headL gen bss) ∧ Below w.heap.size w w' := by
  have c42 := fsize_any h.vs hF
  have hB0 : 0 < w.heap.size := cell_lt (hT 0 (by decide))
  obtain ⟨ao, cp, rfl, hf⟩ := h.rows
  obtain ⟨n, hn⟩ : ∃ n, bss.length = n := ⟨_, rfl⟩
  have HN : Hid (bss.length = n) := hn
  have HF : Hid (Few bss) := hF
  have HC : Hid (0 < n → ∃ b, ao = some ⟨b, 0, none⟩ ∧ ∀ i, i < n → ∃ x, w.cell? ⟨b, i, none⟩ = some x ∧ Own w B0 x (bss.getD i [])) := by rw [← hn]; exact hf
  have HT : Hid (Tab w) := hT
  have HSm : Hid (∀ i, i < bss.length → (bss.getD i []).length ≤ 131072) := hs
  obtain ⟨S, hS⟩ : ∃ S, sizeL bss = S := ⟨_, rfl⟩
  have hS4 : S ≤ 411900 := by rw [← hS]; exact hF.2
  have HS : Hid (sizeL bss = S) := hS
  rw [hS] at c42
  rw [hn] at c42 h6 ⊢
  obtain ⟨B, hB⟩ : ∃ B, w.heap.size = B := ⟨_, rfl⟩
  rw [hB] at hB0 ⊢
  obtain ⟨i0, hi, hz0, hz1, hz2⟩ := info_parts Tryd.info5
  have hn32 : (n : Int) % 4294967296 = (n : Int) := by omega
  have hS32 : (S : Int) % 4294967296 = (S : Int) := by omega
  obtain ⟨g0, hg0⟩ : ∃ x : Nat, x = gen % 4294967296 := ⟨_, rfl⟩
  obtain ⟨g1, hg1⟩ : ∃ x : Nat, x = gen / 4294967296 := ⟨_, rfl⟩
  have e0 : (gen : Int) % 4294967296 = (g0 : Int) := by omega
  have e1 : (gen : Int) / 4294967296 % 4294967296 = (g1 : Int) := by omega
  have e1' : (gen : Int) / 4294967296 = (g1 : Int) := by omega
  have hl0 : g0 < 4294967296 := by omega
  have hl1 : g1 < 4294967296 := by omega
  have HD : Hid (dig 8 gen = dig 4 g0 ++ dig 4 g1) := by rw [hg0, hg1]; exact dig8 gen
  clear hf hF hn h hT hs hS hg0 hg1
  go_enter Tryd.func28, Tryd.ntmps28
  go_wp2_with (first | (go_at_call 42; refine c42.mono ?_; rintro e w' ⟨rfl, rfl⟩) | (at_make; refine wpList_make_own _ rfl _ _ 22 rfl B 5 i0 (.int .u8 0) 1 Tryd.underlying22 hi hz0 hz1 .i64 .i64 _ (24 + S) rfl rfl ?_ ?_ ?_ ?_ ?_))
  · omega
  · rw [hz2]; omega
  · unfold maxLen; omega
  · omega
  · intro w1 hown1 hgrow1
    have hb1 : Below B w w1 := (Below.refl B w).grown hgrow1 (by omega) (by simp)
    clear hgrow1
    go_wp2_with (first | (at_builtin; refine Lib.wpList_append_fits_string _ rfl _ _ 22 9 rfl B 5 i0 Tryd.underlying22 Tryd.underlying9 hi hz1 (some ⟨B, 0, none⟩) 0 (24 + S) [] rfl hown1 { data := #[77, 87, 74, 1] } rfl ?_ ?_ ?_) | fail)
    · omega
    · show 0 + 4 ≤ 24 + S; omega
    · intro w2 hown2 hgrow2
      have hb2 : Below B w w2 := hb1.grown hgrow2 (by have := hb1.size; omega) (fun j hj => by cases hj; exact Nat.le_refl _)
      have hO2 : Own w2 B (.slice (some ⟨B, 0, none⟩) 4 (24 + S)) [77, 87, 74, 1] := ⟨hown2, by simp⟩
      have c3 := add32_at hO2 rfl (r := 8) rfl (by have := hb2.size; omega) (by omega) g0 hl0 rfl
      clear hown1 hown2 hgrow2 c42
      go_wp2_with (go_at_call 43; fail)
      refine c3.mono ?_
      rintro e w3 ⟨rfl, hO3, hb3⟩
      have hb03 := hb2.trans hb3
      have c4 := add32_at hO3 (by simp [dig_length]) (r := 12) rfl (by have := hb03.size; omega) (by omega) g1 hl1 rfl
      clear c3 hO2
      go_wp2_with (go_at_call 43; fail)
      refine c4.mono ?_
      rintro e w4 ⟨rfl, hO4, hb4⟩
      have hb04 := hb03.trans hb4
      have c5 := add32_at hO4 (by simp [dig_length]) (r := 16) rfl (by have := hb04.size; omega) (by omega) n (by omega) rfl
      clear c4 hO3
      go_wp2_with (go_at_call 43; fail)
      refine c5.mono ?_
      rintro e w5 ⟨rfl, hO5, hb5⟩
      have hb05 := hb04.trans hb5
      have c6 := add32_at hO5 (by simp [dig_length]) (r := 20) rfl (by have := hb05.size; omega) (by omega) S (by omega) (cs := hd0 gen n S) (by rw [hd0, HD.out]; simp)
      clear c5 hO4
      go_wp2_with (go_at_call 43; fail)
      refine c6.mono ?_
      rintro e w6 ⟨rfl, hO6, hb6⟩
      have hb06 := hb05.trans hb6
      have hO6V : V w6 (.slice (some ⟨B, 0, none⟩) 20 (24 + S)) (hd0 gen n S) := by
        have := (own_at hO6 (hd0_length _ _ _)).v
        rw [hd0_length] at this
        exact this
      have c7 : Calls Tryd.prog 6 #[.slice (some ⟨B, 0, none⟩) 20 (24 + S)] w6 fun e w' => e = .returned (.int .u32 (crc (hd0 gen n S) : Nat)) ∧ w6 = w' := sum_any hO6V (HT.out.under hb06 hB0) (by rw [hd0_length]; decide)
      have c8 := add32_at hO6 (hd0_length _ _ _) (r := 24) rfl (by have := hb06.size; omega) (by omega) (crc (hd0 gen n S)) (crc_lt _ hO6.2) rfl
      clear c6 hO5
      go_wp2_with (first | (go_at_call 6; refine c7.mono ?_; rintro e w' ⟨rfl, rfl⟩) | (go_at_call 43; fail))
      refine c8.mono ?_
      rintro e w7 ⟨rfl, hO7, hb7⟩
      have hb07 := hb06.trans hb7
      obtain ⟨H, hH⟩ : ∃ H, hd0 gen n S ++ dig 4 (crc (hd0 gen n S)) = H := ⟨_, rfl⟩
      have HH : Hid (hd0 gen n S ++ dig 4 (crc (hd0 gen n S)) = H) := hH
      have HHl : Hid (H.length = 24) := by show _ = _; rw [← hH]; simp [hd0_length, dig_length]
      rw [hH] at hO7
      have HO7 : Hid (Own w7 B (.slice (some ⟨B, 0, none⟩) 24 (24 + S)) H) := hO7
      clear c7 c8 hO6 hO6V hO7 hH hb7 hb06 hb6 hb05 hb5 hb04 hb4 hb03 hb3 hb2 hb1 e0 e1 e1'
      go_wp2
      go_loopw [6, 40] (fun o i wr => ∃ k r : Nat, k ≤ n ∧ i = .int .i64 k ∧ r ≤ 24 + S ∧ o = .slice (some ⟨B, 0, none⟩) r (24 + S) ∧ Hid (r = 24 + sizeL (bss.take k)) ∧ Hid (Own wr B (.slice (some ⟨B, 0, none⟩) r (24 + S)) (H ++ framesL 0 (bss.take k))) ∧ Below B w wr) (fun _ i _ => n - (intOf i).toNat)
      case atStart => exact ⟨0, 24, Nat.zero_le _, rfl, by omega, rfl, rfl, by simpa [framesL, Hid] using HO7.out, hb07⟩
      case round =>
        clear HO7 hb07
        obtain ⟨k, r, hk, rfl, hr, rfl, HR, HO, hbe⟩ := hrel
        by_cases hkn : k < n
        · obtain ⟨b, rfl, hc⟩ := HC.out (by omega)
          obtain ⟨x, hx, hL⟩ := hc k hkn
          have hkl : k < bss.length := by rw [HN.out]; exact hkn
          have hxr : wr.cell? ⟨b, k, none⟩ = some x := (hbe.cell (p := ⟨b, k, none⟩) (by rw [← hB]; exact cell_lt hx)).trans hx
          have hsm := HSm.out k hkl
          have hfit := sizeL_take_le bss (k + 1)
          rw [take_snoc hkl, sizeL_snoc, HS.out] at hfit
          obtain ⟨m, hm⟩ : ∃ m, (bss.getD k []).length = m := ⟨_, rfl⟩
          have hR := HR.out
          have hll : (H ++ framesL 0 (bss.take k)).length = r := by rw [List.length_append, HHl.out, framesL_length, hR]
          have HE1 : Hid (H ++ framesL 0 (bss.take k) ++ frameL k (bss.getD k []) = H ++ framesL 0 (bss.take (k + 1))) := by
            show _ = _
            rw [take_snoc hkl, framesL_snoc, Nat.zero_add, List.length_take, Nat.min_eq_left (by omega), List.append_assoc]
          have HE2 : Hid (r + (17 + m) = 24 + sizeL (bss.take (k + 1))) := by
            show _ = _
            rw [take_snoc hkl, sizeL_snoc, hm, hR]; omega
          have hk32 : (k : Int) % 4294967296 = (k : Int) := by omega
          rw [hm] at hfit hsm
          have hr2 : r + (17 + m) ≤ 24 + S := by omega
          obtain ⟨y, hy⟩ : ∃ y, bss.getD k [] = y := ⟨_, rfl⟩
          rw [hy] at hL HE1 hm
          rcases hL.1.2 with ⟨rfl, h0⟩ | ⟨gk, ck, cur, rfl, h1, h2, h3⟩
          · obtain rfl : m = 0 := by omega
            obtain rfl : y = [] := List.eq_nil_of_length_eq_zero h0
            have c29 := addFrame_nil (w := wr) (B := B) (g := B) (cap := 24 + S) (bs := H ++ framesL 0 (bss.take k)) (own_at HO.out hll) (by have := hbe.size; omega) hB0 (HT.out.under hbe hB0) k (by omega) (by rw [hll]; omega) (by rw [hll]; omega)
            rw [hll] at c29
            clear hx hL hc hkl hm hR hll hfit hy
            go_wp2_with (go_at_call 29; fail)
            refine c29.mono ?_
            rintro e w8 ⟨rfl, hO8, hb8⟩
            rw [HE1.out] at hO8
            have HO8 : Hid (Own w8 B (.slice (some ⟨B, 0, none⟩) (r + 17) (24 + S)) (H ++ framesL 0 (bss.take (k + 1)))) := hO8
            have hbe8 := hbe.trans hb8
            clear hO8 c29 HE1 hxr
            go_wp2
            go_roundw
            case rel => exact ⟨k + 1, r + 17, by omega, by go_num, hr2, rfl, HE2, HO8, hbe8⟩
            case measure => simp [intOf]; omega
          · have hgk : gk < B := by rw [← hB]; exact (hL.1.lt gk rfl).2
            rw [hm] at h3 hxr
            have c29 := addFrame_any (w := wr) (B := B) (g := B) (cap := 24 + S) (b := gk) (off := 0) (c := ck) (bs := H ++ framesL 0 (bss.take k)) (body := y) (own_at HO.out hll) (by have := hbe.size; omega) hB0 (hL.at.under hbe hgk) hgk (HT.out.under hbe hB0) k (by omega) (by omega) (by rw [hm]; exact h3.1) (by rw [hll, hm]; omega) (by rw [hll]; omega)
            rw [hll, hm] at c29
            clear hx hL hc hkl hm hR hll hfit hy h1 h2 h3
            go_wp2_with (go_at_call 29; fail)
            refine c29.mono ?_
            rintro e w8 ⟨rfl, hO8, hb8⟩
            rw [HE1.out] at hO8
            have HO8 : Hid (Own w8 B (.slice (some ⟨B, 0, none⟩) (r + (17 + m)) (24 + S)) (H ++ framesL 0 (bss.take (k + 1)))) := hO8
            have hbe8 := hbe.trans hb8
            clear hO8 c29 HE1 hxr
            go_wp2
            go_roundw
            case rel => exact ⟨k + 1, r + (17 + m), by omega, by go_num, hr2, rfl, HE2, HO8, hbe8⟩
            case measure => simp [intOf]; omega
        · obtain rfl : k = n := by omega
          go_wp2
          go_ret
          refine ⟨_, rfl, ?_, hbe⟩
          have e : H ++ framesL 0 (bss.take k) = headL gen bss := by
            have e2 : bss.take k = bss := by rw [← HN.out]; exact List.take_length
            unfold headL
            rw [HN.out, HS.out, HH.out, e2]
          have := HO.out
          rw [e] at this
          exact this

end Go.Proofs.YtngmleddlfkecaaDoor
