import Derived.Test.YtngmleddlfkecaaDoorFg
import Derived.Room.AppendFits
namespace Go.Proofs.YtngmleddlfkecaaDoor
open Go Go.Proofs Go.RowKit

def hd0 (gen n S : Nat) : List Nat := [77, 87, 74, 1] ++ dig 8 gen ++ dig 4 n ++ dig 4 S
def framesL : Nat → List (List Nat) → List Nat
  | _, [] => []
  | i, b :: r => frameL i b ++ framesL (i + 1) r
def headL (gen : Nat) (bss : List (List Nat)) : List Nat := hd0 gen bss.length (sizeL bss) ++ dig 4 (crc (hd0 gen bss.length (sizeL bss))) ++ framesL 0 bss

theorem hd0_length (gen n S : Nat) : (hd0 gen n S).length = 20 := by simp [hd0, dig_length]
theorem hd0_lt (gen n S : Nat) : ∀ x ∈ hd0 gen n S, x < 256 := by
  intro x hx
  simp only [hd0, List.mem_append, List.mem_cons, List.not_mem_nil, or_false] at hx
  rcases hx with (((rfl | rfl | rfl | rfl) | hx) | hx) | hx
  · decide
  · decide
  · decide
  · decide
  · exact dig_lt _ _ x hx
  · exact dig_lt _ _ x hx
  · exact dig_lt _ _ x hx

theorem framesL_snoc : ∀ (l : List (List Nat)) (i : Nat) (b : List Nat), framesL i (l ++ [b]) = framesL i l ++ frameL (i + l.length) b
  | [], i, b => by simp [framesL]
  | a :: l, i, b => by
    simp only [List.cons_append, framesL, framesL_snoc l (i + 1) b, List.length_cons, List.append_assoc]
    rw [show i + 1 + l.length = i + (l.length + 1) by omega]

theorem framesL_length : ∀ (l : List (List Nat)) (i : Nat), (framesL i l).length = sizeL l
  | [], _ => rfl
  | a :: l, i => by simp only [framesL, List.length_append, frameL_length, framesL_length l, sizeL]

theorem dig8 (g : Nat) : dig 8 g = dig 4 (g % 4294967296) ++ dig 4 (g / 4294967296) := by
  simp only [dig, List.cons_append, List.nil_append, List.cons.injEq, and_true]
  omega

theorem lent_at {w : World} {B g : Nat} {d : List Nat} (h : Lent w B g d) : At w g 0 d :=
  ⟨fun k hk => by have := h.cell k (by omega); rw [Nat.zero_add, this]; simp [List.getD_eq_getElem?_getD, List.getElem?_append_left hk], fun x hx => h.2 x (by simp [hx])⟩

theorem own_at {w : World} {B g cap n : Nat} {bs : List Nat} (h : Own w B (.slice (some ⟨g, 0, none⟩) n cap) bs) (hn : bs.length = n) : Own w B (.slice (some ⟨g, 0, none⟩) bs.length cap) bs := by rw [hn]; exact h

theorem add32_at {w : World} {B g cap k r : Nat} {bs cs : List Nat} (h : Own w B (.slice (some ⟨g, 0, none⟩) k cap) bs) (hk : bs.length = k) (hr : k + 4 = r) (hB : B ≤ w.heap.size) (hc : r ≤ cap) (n : Nat) (hn : n < 4294967296) (hcs : bs ++ dig 4 n = cs) :
    Calls Tryd.prog 43 #[.slice (some ⟨g, 0, none⟩) k cap, .int .u32 (n : Int)] w fun e w' => e = .returned (.slice (some ⟨g, 0, none⟩) r cap) ∧ Own w' B (.slice (some ⟨g, 0, none⟩) r cap) cs ∧ Below B w w' := by
  subst hk hr hcs
  exact add32_any h hB hc n hn

set_option maxRecDepth 100000 in
set_option maxHeartbeats 1000000 in
/-- slotBytes. -/
theorem slotBytes_any {w : World} {B0 : Nat} {v : Value} {bss : List (List Nat)} {gs : Nat → Nat} (h : LS w B0 v bss gs) (hT : Tab w) (gen : Nat) (hg : gen < 18446744073709551616) (hF : Few bss) (h6 : bss.length ≤ 600) (hs : ∀ i, i < bss.length → (bss.getD i []).length ≤ 131072) :
    Calls Tryd.prog 28 #[.int .u64 (gen : Int), v] w fun e w' => ∃ v', e = .returned v' ∧ Own w' w.heap.size v' (headL gen bss) ∧ Below w.heap.size w w' := by
  have c42 := fsize_any h.vs hF
  have hB0 : 0 < w.heap.size := cell_lt (hT 0 (by decide))
  obtain ⟨ao, cp, rfl, hf⟩ := h.form
  obtain ⟨n, hn⟩ : ∃ n, bss.length = n := ⟨_, rfl⟩
  have HN : Hid (bss.length = n) := hn
  have HF : Hid (Few bss) := hF
  have HC : Hid (0 < n → ∃ b, ao = some ⟨b, 0, none⟩ ∧ ∀ i, i < n → w.cell? ⟨b, i, none⟩ = some (lentV (gs i) (bss.getD i []).length) ∧ Lent w B0 (gs i) (bss.getD i [])) := by rw [← hn]; exact hf
  have HT : Hid (Tab w) := hT
  have HSm : Hid (∀ i, i < bss.length → (bss.getD i []).length ≤ 131072) := hs
  obtain ⟨S, hS⟩ : ∃ S, sizeL bss = S := ⟨_, rfl⟩
  have hS4 : S ≤ 411900 := by rw [← hS]; exact hF.2
  have HS : Hid (sizeL bss = S) := hS
  rw [hS] at c42
  rw [hn] at c42 h6 ⊢
  obtain ⟨B, hB⟩ : ∃ B, w.heap.size = B := ⟨_, rfl⟩
  rw [hB] at hB0 ⊢
  obtain ⟨i0, hi, hz0, hz1, hz2⟩ := info_parts Tryd.info5
  have hn32 : (n : Int) % 4294967296 = (n : Int) := by omega
  have hS32 : (S : Int) % 4294967296 = (S : Int) := by omega
  obtain ⟨g0, hg0⟩ : ∃ x : Nat, x = gen % 4294967296 := ⟨_, rfl⟩
  obtain ⟨g1, hg1⟩ : ∃ x : Nat, x = gen / 4294967296 := ⟨_, rfl⟩
  have e0 : (gen : Int) % 4294967296 = (g0 : Int) := by omega
  have e1 : (gen : Int) / 4294967296 % 4294967296 = (g1 : Int) := by omega
  have e1' : (gen : Int) / 4294967296 = (g1 : Int) := by omega
  have hl0 : g0 < 4294967296 := by omega
  have hl1 : g1 < 4294967296 := by omega
  have HD : Hid (dig 8 gen = dig 4 g0 ++ dig 4 g1) := by rw [hg0, hg1]; exact dig8 gen
  clear hf hF hn h hT hs hS hg0 hg1
  go_enter Tryd.func28, Tryd.ntmps28
  go_wp2_with (first | (go_at_call 42; refine c42.mono ?_; rintro e w' ⟨rfl, rfl⟩) | (at_make; refine wpList_make_own _ rfl _ _ 22 rfl B 5 i0 (.int .u8 0) 1 Tryd.underlying22 hi hz0 hz1 .i64 .i64 _ (24 + S) rfl rfl ?_ ?_ ?_ ?_ ?_))
  · omega
  · rw [hz2]; omega
  · unfold maxLen; omega
  · omega
  · intro w1 hown1 hgrow1
    have hb1 : Below B w w1 := (Below.refl B w).grown hgrow1 (by omega) (by simp)
    clear hgrow1
    go_wp2_with (first | (at_builtin; refine Lib.wpList_append_fits_string _ rfl _ _ 22 9 rfl B 5 i0 Tryd.underlying22 Tryd.underlying9 hi hz1 (some ⟨B, 0, none⟩) 0 (24 + S) [] rfl hown1 { data := #[77, 87, 74, 1] } rfl ?_ ?_ ?_) | fail)
    · omega
    · show 0 + 4 ≤ 24 + S; omega
    · intro w2 hown2 hgrow2
      have hb2 : Below B w w2 := hb1.grown hgrow2 (by have := hb1.size; omega) (fun j hj => by cases hj; exact Nat.le_refl _)
      have hO2 : Own w2 B (.slice (some ⟨B, 0, none⟩) 4 (24 + S)) [77, 87, 74, 1] := ⟨hown2, by simp⟩
      have c3 := add32_at hO2 rfl (r := 8) rfl (by have := hb2.size; omega) (by omega) g0 hl0 rfl
      clear hown1 hown2 hgrow2 c42
      go_wp2_with (go_at_call 43; fail)
      refine c3.mono ?_
      rintro e w3 ⟨rfl, hO3, hb3⟩
      have hb03 := hb2.trans hb3
      have c4 := add32_at hO3 (by simp [dig_length]) (r := 12) rfl (by have := hb03.size; omega) (by omega) g1 hl1 rfl
      clear c3 hO2
      go_wp2_with (go_at_call 43; fail)
      refine c4.mono ?_
      rintro e w4 ⟨rfl, hO4, hb4⟩
      have hb04 := hb03.trans hb4
      have c5 := add32_at hO4 (by simp [dig_length]) (r := 16) rfl (by have := hb04.size; omega) (by omega) n (by omega) rfl
      clear c4 hO3
      go_wp2_with (go_at_call 43; fail)
      refine c5.mono ?_
      rintro e w5 ⟨rfl, hO5, hb5⟩
      have hb05 := hb04.trans hb5
      have c6 := add32_at hO5 (by simp [dig_length]) (r := 20) rfl (by have := hb05.size; omega) (by omega) S (by omega) (cs := hd0 gen n S) (by rw [hd0, HD.out]; simp)
      clear c5 hO4
      go_wp2_with (go_at_call 43; fail)
      refine c6.mono ?_
      rintro e w6 ⟨rfl, hO6, hb6⟩
      have hb06 := hb05.trans hb6
      have hO6V : V w6 (.slice (some ⟨B, 0, none⟩) 20 (24 + S)) (hd0 gen n S) := by
        have := (own_at hO6 (hd0_length _ _ _)).v
        rw [hd0_length] at this
        exact this
      have c7 : Calls Tryd.prog 6 #[.slice (some ⟨B, 0, none⟩) 20 (24 + S)] w6 fun e w' => e = .returned (.int .u32 (crc (hd0 gen n S) : Nat)) ∧ w6 = w' := sum_any hO6V (HT.out.under hb06 hB0) (by rw [hd0_length]; decide)
      have c8 := add32_at hO6 (hd0_length _ _ _) (r := 24) rfl (by have := hb06.size; omega) (by omega) (crc (hd0 gen n S)) (crc_lt _ hO6.2) rfl
      clear c6 hO5
      go_wp2_with (first | (go_at_call 6; refine c7.mono ?_; rintro e w' ⟨rfl, rfl⟩) | (go_at_call 43; fail))
      refine c8.mono ?_
      rintro e w7 ⟨rfl, hO7, hb7⟩
      have hb07 := hb06.trans hb7
      obtain ⟨H, hH⟩ : ∃ H, hd0 gen n S ++ dig 4 (crc (hd0 gen n S)) = H := ⟨_, rfl⟩
      have HH : Hid (hd0 gen n S ++ dig 4 (crc (hd0 gen n S)) = H) := hH
      have HHl : Hid (H.length = 24) := by show _ = _; rw [← hH]; simp [hd0_length, dig_length]
      rw [hH] at hO7
      have HO7 : Hid (Own w7 B (.slice (some ⟨B, 0, none⟩) 24 (24 + S)) H) := hO7
      clear c7 c8 hO6 hO6V hO7 hH hb7 hb06 hb6 hb05 hb5 hb04 hb4 hb03 hb3 hb2 hb1 e0 e1 e1'
      go_wp2
      go_loopw [6, 40] (fun o i wr => ∃ k r : Nat, k ≤ n ∧ i = .int .i64 k ∧ r ≤ 24 + S ∧ o = .slice (some ⟨B, 0, none⟩) r (24 + S) ∧ Hid (r = 24 + sizeL (bss.take k)) ∧ Hid (Own wr B (.slice (some ⟨B, 0, none⟩) r (24 + S)) (H ++ framesL 0 (bss.take k))) ∧ Below B w wr) (fun _ i _ => n - (intOf i).toNat)
      case atStart => exact ⟨0, 24, Nat.zero_le _, rfl, by omega, rfl, rfl, by simpa [framesL, Hid] using HO7.out, hb07⟩
      case round =>
        clear HO7 hb07
        obtain ⟨k, r, hk, rfl, hr, rfl, HR, HO, hbe⟩ := hrel
        by_cases hkn : k < n
        · obtain ⟨b, rfl, hc⟩ := HC.out (by omega)
          obtain ⟨hx, hL⟩ := hc k hkn
          have hkl : k < bss.length := by rw [HN.out]; exact hkn
          have hxr : wr.cell? ⟨b, k, none⟩ = some (lentV (gs k) (bss.getD k []).length) := (hbe.cell (p := ⟨b, k, none⟩) (by rw [← hB]; exact cell_lt hx)).trans hx
          have hgk : gs k < B := by rw [← hB]; exact hL.lt.2
          have hsm := HSm.out k hkl
          have hfit := sizeL_take_le bss (k + 1)
          rw [take_snoc hkl, sizeL_snoc, HS.out] at hfit
          obtain ⟨m, hm⟩ : ∃ m, (bss.getD k []).length = m := ⟨_, rfl⟩
          have hR := HR.out
          have hll : (H ++ framesL 0 (bss.take k)).length = r := by rw [List.length_append, HHl.out, framesL_length, hR]
          have c29 := addFrame_any (w := wr) (B := B) (g := B) (cap := 24 + S) (b := gs k) (off := 0) (c := m + 3) (bs := H ++ framesL 0 (bss.take k)) (body := bss.getD k []) (own_at HO.out hll) (by have := hbe.size; omega) hB0 ((lent_at hL).under hbe hgk) hgk (HT.out.under hbe hB0) k (by omega) hsm (by omega) (by rw [hll]; omega) (by rw [hll]; omega)
          rw [hll, hm] at c29
          rw [hm] at hxr hfit hsm
          have HE1 : Hid (H ++ framesL 0 (bss.take k) ++ frameL k (bss.getD k []) = H ++ framesL 0 (bss.take (k + 1))) := by
            show _ = _
            rw [take_snoc hkl, framesL_snoc, Nat.zero_add, List.length_take, Nat.min_eq_left (by omega), List.append_assoc]
          have HE2 : Hid (r + (17 + m) = 24 + sizeL (bss.take (k + 1))) := by
            show _ = _
            rw [take_snoc hkl, sizeL_snoc, hm, hR]; omega
          have hk32 : (k : Int) % 4294967296 = (k : Int) := by omega
          have hr2 : r + (17 + m) ≤ 24 + S := by omega
          unfold lentV at hxr
          clear hx hL hc hkl hm hR hll hfit
          go_wp2_with (go_at_call 29; fail)
          refine c29.mono ?_
          rintro e w8 ⟨rfl, hO8, hb8⟩
          rw [HE1.out] at hO8
          have HO8 : Hid (Own w8 B (.slice (some ⟨B, 0, none⟩) (r + (17 + m)) (24 + S)) (H ++ framesL 0 (bss.take (k + 1)))) := hO8
          have hbe8 := hbe.trans hb8
          clear hO8 c29 HE1 hxr
          go_wp2
          go_roundw
          case rel => exact ⟨k + 1, r + (17 + m), by omega, by go_num, hr2, rfl, HE2, HO8, hbe8⟩
          case measure => simp [intOf]; omega
        · obtain rfl : k = n := by omega
          go_wp2
          go_ret
          refine ⟨_, rfl, ?_, hbe⟩
          have e : H ++ framesL 0 (bss.take k) = headL gen bss := by
            have e2 : bss.take k = bss := by rw [← HN.out]; exact List.take_length
            unfold headL
            rw [HN.out, HS.out, HH.out, e2]
          have := HO.out
          rw [e] at this
          exact this

/-- What Head gives. -/
def headE (gen : Nat) (bss : List (List Nat)) : Option (Int × Int) := if gen = 0 then some (0, 41) else baseE bss
def headO (gen : Nat) (bss : List (List Nat)) : List Nat := match headE gen bss with | none => headL gen bss | some _ => []

theorem longAt_none : ∀ {l : List (List Nat)} {i : Nat}, longAt i l = none → ∀ b ∈ l, b.length ≤ 131072
  | [], _, _, b, hb => by simp at hb
  | a :: l, i, h, b, hb => by
    rw [longAt] at h
    by_cases ha : a.length ≤ 131072
    · rw [if_pos ha] at h
      rcases List.mem_cons.1 hb with rfl | hb
      · exact ha
      · exact longAt_none h b hb
    · rw [if_neg ha] at h; simp at h

theorem baseE_none {bss : List (List Nat)} (h : baseE bss = none) : bss.length ≤ 600 ∧ ∀ i, i < bss.length → (bss.getD i []).length ≤ 131072 := by
  unfold baseE at h
  by_cases h6 : bss.length ≤ 600
  · rw [if_pos h6] at h
    refine ⟨h6, fun i hi => longAt_none h _ ?_⟩
    rw [List.getD_eq_getElem?_getD, List.getElem?_eq_getElem hi]
    exact List.getElem_mem _
  · rw [if_neg h6] at h; simp at h

theorem headE_code {gen : Nat} {bss : List (List Nat)} : ∀ a c, headE gen bss = some (a, c) → (c != 0) = true := by
  have hl : ∀ (l : List (List Nat)) (i : Nat) (a c : Int), longAt i l = some (a, c) → c = 40 := by
    intro l
    induction l with
    | nil => intro i a c h; simp [longAt] at h
    | cons b l ih =>
      intro i a c h
      rw [longAt] at h
      by_cases hb : b.length ≤ 131072
      · rw [if_pos hb] at h; exact ih _ _ _ h
      · rw [if_neg hb] at h; simp at h; exact h.2.symm
  intro a c h
  unfold headE at h
  by_cases hg : gen = 0
  · rw [if_pos hg] at h; simp at h; rw [← h.2]; decide
  · rw [if_neg hg] at h
    unfold baseE at h
    by_cases h6 : bss.length ≤ 600
    · rw [if_pos h6] at h; rw [hl _ _ _ _ h]; decide
    · rw [if_neg h6] at h; simp at h; rw [← h.2]; decide

set_option maxRecDepth 100000 in
/-- Head. -/
theorem head_any {w : World} {B0 : Nat} {v : Value} {bss : List (List Nat)} {gs : Nat → Nat} (h : LS w B0 v bss gs) (hT : Tab w) (gen : Nat) (hg : gen < 18446744073709551616) (hF : Few bss) :
    Calls Tryd.prog 7 #[.int .u64 (gen : Int), v] w fun e w' => ∃ v' ve, e = .returned (.tuple #[v', ve]) ∧ Own w' w.heap.size v' (headO gen bss) ∧ PE w' ve (headE gen bss) ∧ Below w.heap.size w w' := by
  unfold headO headE
  by_cases hg0 : gen = 0
  · rw [if_pos hg0]
    subst hg0
    obtain ⟨ao, cp, rfl, _⟩ := h.form
    clear h hT
    go_enter Tryd.func7, Tryd.ntmps7
    go_wp2_with (go_at_call 26; refine (refusal_fault _ _ _).mono ?_; rintro e W2 ⟨q, rfl, hf, hq, hb2⟩)
    go_ret2
    exact ⟨_, _, rfl, Own.nil _ _, ⟨q, rfl, hf⟩, hb2⟩
  · rw [if_neg hg0]
    have hgb : ((gen : Int) == 0) = false := by simp; omega
    have c27 := check_any h.vs
    have HLS : Hid (LS w B0 v bss gs) := h
    have HT : Hid (Tab w) := hT
    have HFw : Hid (Few bss) := hF
    obtain ⟨ao, cp, hv, _⟩ := h.form
    clear h hT hF
    subst hv
    cases hbE : baseE bss with
    | some x =>
      rw [hbE] at c27
      have HE : Hid (baseE bss = some x) := hbE
      clear hbE
      go_enter Tryd.func7, Tryd.ntmps7
      go_wp2_with (go_at_call 27; fail)
      refine c27.mono ?_
      rintro e W1 ⟨ve, rfl, hE, hb1⟩
      obtain ⟨q, rfl, hf⟩ := hE
      clear c27
      go_wp2
      go_ret2
      exact ⟨_, _, rfl, Own.nil _ _, ⟨q, rfl, hf⟩, hb1⟩
    | none =>
      rw [hbE] at c27
      obtain ⟨h6, hs⟩ := baseE_none hbE
      clear hbE
      have c28 := fun W1 hb1 => slotBytes_any (w := W1) (HLS.out.next hb1) (HT.out.next hb1) gen hg HFw.out h6 hs
      clear h6 hs
      go_enter Tryd.func7, Tryd.ntmps7
      go_wp2_with (go_at_call 27; fail)
      refine c27.mono ?_
      rintro e W1 ⟨ve, rfl, hE, hb1⟩
      obtain rfl : ve = .nilIface := hE
      clear c27
      go_wp2_with (go_at_call 28; fail)
      refine (c28 W1 hb1).mono ?_
      rintro e W2 ⟨v2, rfl, hO2, hb2⟩
      go_wp2
      go_ret2
      exact ⟨_, _, rfl, hO2.base hb1.size, rfl, hb1.trans (hb2.mono hb1.size)⟩
end Go.Proofs.YtngmleddlfkecaaDoor
