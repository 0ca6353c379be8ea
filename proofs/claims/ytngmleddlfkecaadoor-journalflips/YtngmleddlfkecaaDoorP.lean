import Derived.Test.YtngmleddlfkecaaDoorO
namespace Go.Proofs.YtngmleddlfkecaaDoor
open Go Go.Proofs Go.RowKit

theorem wrap_u64_small (S : Nat) (h : S < 18446744073709551616) : IntKind.u64.wrap (S : Int) = (S : Int) := by simp [IntKind.wrap, IntKind.bits, IntKind.signed]; omega

/-- What a call of readFrames leaves, its value's shape seen. -/
theorem frames_shape {w' : World} {B : Nat} {v : Value} {bss : List (List Nat)} {d : List Nat} {k pos : Nat} (hE : EndP d k pos bss) (hV : VV w' B v bss) : ∃ a p, v = .slice a k p := by
  obtain ⟨cells, h1, _⟩ := hV
  rw [(runP_facts hE.1).1] at h1
  rcases h1.2 with ⟨rfl, h0⟩ | ⟨g, p, cur, rfl, _⟩
  · exact ⟨none, 0, by rw [h0]⟩
  · exact ⟨_, _, rfl⟩

set_option maxRecDepth 100000 in
theorem scan_no2 {w : World} {b off l cap : Nat} {d : List Nat} (h : At w b off d) (hT : Tab w) (hlen : d.length = l) (hc : l < cap) (hl : l ≤ 400000) (hH : headP d = true)
    (hno : ∀ k pos bss, EndP ((d.drop 24).take (sizeP d)) k pos bss → ¬ (k = countP d ∧ pos = sizeP d)) :
    Calls Tryd.prog 10 #[.slice (some ⟨b, off, none⟩) l cap] w fun e w' => ∃ q, e = .returned (.tuple #[noScan, .iface 67 (.pointer (some ⟨q, 0, none⟩))]) ∧ FaultAt w' q 0 43 ∧ Below w.heap.size w w' := by
  obtain ⟨W1, hW1⟩ : ∃ W1, w.alloc (.cells #[.int .u64 0, .slice none 0 0, .slice none 0 0, .int .i64 0] 34) = W1 := ⟨_, rfl⟩
  have hb1 : Below w.heap.size w W1 := hW1 ▸ (Below.refl _ _).alloc (Nat.le_refl _) _
  have c := head_yes (h.next hb1) (hT.next hb1) hlen hc hl hH
  have hs1 : w.heap.size < W1.heap.size := by rw [← hW1]; simp
  have HRC : Hid (Rc W1 w.heap.size) := by
    rw [← hW1]
    exact ⟨by simp, by simp, by simp, by simp, fun i => by simp⟩
  have h24 : 24 ≤ l := by
    unfold headP at hH
    simp only [Bool.and_eq_true, decide_eq_true_eq] at hH
    have := summedP_len hH.1.1.1
    omega
  have HA : Hid (At W1 b off d) := h.next hb1
  have HT : Hid (Tab W1) := hT.next hb1
  have HL : Hid (d.length = l) := hlen
  obtain ⟨G, hG⟩ : ∃ G, genP d = G := ⟨_, rfl⟩
  obtain ⟨N, hN⟩ : ∃ N, countP d = N := ⟨_, rfl⟩
  obtain ⟨S, hS⟩ : ∃ S, sizeP d = S := ⟨_, rfl⟩
  have hS32 : S < 4294967296 := by rw [← hS]; exact le4_lt h.2 16
  have hN6 : N ≤ 600 := by
    unfold headP at hH
    simp only [Bool.and_eq_true, decide_eq_true_eq] at hH
    rw [← hN]; exact hH.2
  rw [hG, hN, hS] at c
  rw [hN, hS] at hno
  have HNO : Hid (∀ k pos bss, EndP ((d.drop 24).take S) k pos bss → ¬ (k = N ∧ pos = S)) := hno
  clear h hT hlen hH hG hN hS hno
  have e24 : ¬ cap = 24 := by omega
  have ew := wrap_u64_small S (by omega)
  obtain ⟨M, hM1, hM2, HM⟩ : ∃ M, M ≤ l - 24 ∧ (M = S ∨ M = l - 24 ∧ l - 24 < S) ∧ Hid ((d.drop 24).take S = (d.drop 24).take M) := by
    by_cases hSM : S ≤ l - 24
    · exact ⟨S, hSM, .inl rfl, rfl⟩
    · refine ⟨l - 24, Nat.le_refl _, .inr ⟨rfl, by omega⟩, ?_⟩
      show _ = _
      rw [List.take_of_length_le (by rw [List.length_drop, HL.out]; omega), List.take_of_length_le (by rw [List.length_drop, HL.out]; omega)]
  have cf : ∀ m, Calls Tryd.prog 31 #[.slice (some ⟨b, off + 24, none⟩) M (cap - 24)] (W1.drewN m) fun e w' => ∃ k pos bss v, e = .returned (.tuple #[v, .int .i64 (pos : Nat)]) ∧ EndP ((d.drop 24).take S) k pos bss ∧ VV w' (W1.drewN m).heap.size v bss ∧ Below (W1.drewN m).heap.size (W1.drewN m) w' := by
    intro m
    rw [HM.out]
    exact frames_some (W1.drewN m) b (off + 24) M (cap - 24) _ ((HA.out.drop 24).take M) HT.out (by rw [List.length_take, List.length_drop, HL.out]; omega) (by omega) (by omega)
  rcases hM2 with rfl | ⟨rfl, hlt⟩
  · clear HM
    go_enter Tryd.func10, Tryd.ntmps10
    go_wp2_with (first | (go_at_call 30; refine c.mono ?_; rintro e w' ⟨rfl, m, rfl⟩) | fail)
    refine (cf m).mono ?_
    rintro e W2 ⟨k, pos, bss, v, rfl, HE, HV, hb2⟩
    obtain ⟨a1, p1, rfl⟩ := frames_shape HE HV
    obtain ⟨_, hpos, hk17⟩ := runP_facts HE.1
    rw [List.length_take, List.length_drop, HL.out] at hpos
    have hb2' : Below W1.heap.size W1 W2 := (below_drewN (Below.refl _ _) m).trans hb2
    have HB2 : Hid (Below W1.heap.size W1 W2) := hb2'
    have HR2 : Hid (Rc W2 w.heap.size) := HRC.out.next hb2'
    have hs2 : w.heap.size < W2.heap.size := Nat.lt_of_lt_of_le hs1 hb2'.size
    have hne := HNO.out k pos bss HE
    clear hb2' hb2 HV HE cf c
    by_cases hkN : k = N
    · subst hkN
      have hpS : ((pos : Int) != (M : Int)) = true := by simp; omega
      clear hne
      go_wp2_with (first | (go_at_call 26; refine (refusal_fault _ _ _).mono ?_; rintro e W3 ⟨q, rfl, hf, hq, hb3⟩; obtain ⟨b0, b1, b2, b3, bf⟩ := HR2.out.next hb3) | fail)
      have hqw : w.heap.size ≠ q := by omega
      have hsets := Rc.set ⟨b0, b1, b2, b3, bf⟩ (.int .u64 0) (.slice none 0 0) (.slice none 0 0) (.int .i64 0)
      simp only at hsets
      obtain ⟨u0, u1, u2, u3⟩ := hsets
      refine bodyPost_ret (v := .tuple #[noScan, .iface 67 (.pointer (some ⟨q, 0, none⟩))]) (by simp only [results, Tryd.results10]; simp [go_sem, u0, u1, u2, u3, noScan]) rfl ⟨q, rfl, (((hf.set hqw _).set hqw _).set hqw _).set hqw _, ?_⟩
      exact (((((hb1.trans (HB2.out.mono hb1.size)).trans (hb3.mono (by omega))).setCell (p := ⟨w.heap.size, 0, none⟩) (Nat.le_refl _) _).setCell (p := ⟨w.heap.size, 1, none⟩) (Nat.le_refl _) _).setCell (p := ⟨w.heap.size, 2, none⟩) (Nat.le_refl _) _).setCell (p := ⟨w.heap.size, 3, none⟩) (Nat.le_refl _) _
    · have hkn : ((k : Int) != (N : Int)) = true := by simp; omega
      clear hne hkN
      go_wp2_with (first | (go_at_call 26; refine (refusal_fault _ _ _).mono ?_; rintro e W3 ⟨q, rfl, hf, hq, hb3⟩; obtain ⟨b0, b1, b2, b3, bf⟩ := HR2.out.next hb3) | fail)
      have hqw : w.heap.size ≠ q := by omega
      have hsets := Rc.set ⟨b0, b1, b2, b3, bf⟩ (.int .u64 0) (.slice none 0 0) (.slice none 0 0) (.int .i64 0)
      simp only at hsets
      obtain ⟨u0, u1, u2, u3⟩ := hsets
      refine bodyPost_ret (v := .tuple #[noScan, .iface 67 (.pointer (some ⟨q, 0, none⟩))]) (by simp only [results, Tryd.results10]; simp [go_sem, u0, u1, u2, u3, noScan]) rfl ⟨q, rfl, (((hf.set hqw _).set hqw _).set hqw _).set hqw _, ?_⟩
      exact (((((hb1.trans (HB2.out.mono hb1.size)).trans (hb3.mono (by omega))).setCell (p := ⟨w.heap.size, 0, none⟩) (Nat.le_refl _) _).setCell (p := ⟨w.heap.size, 1, none⟩) (Nat.le_refl _) _).setCell (p := ⟨w.heap.size, 2, none⟩) (Nat.le_refl _) _).setCell (p := ⟨w.heap.size, 3, none⟩) (Nat.le_refl _) _
  · clear HM
    go_enter Tryd.func10, Tryd.ntmps10
    go_wp2_with (first | (go_at_call 30; refine c.mono ?_; rintro e w' ⟨rfl, m, rfl⟩) | fail)
    refine (cf m).mono ?_
    rintro e W2 ⟨k, pos, bss, v, rfl, HE, HV, hb2⟩
    obtain ⟨a1, p1, rfl⟩ := frames_shape HE HV
    obtain ⟨_, hpos, hk17⟩ := runP_facts HE.1
    rw [List.length_take, List.length_drop, HL.out] at hpos
    have hb2' : Below W1.heap.size W1 W2 := (below_drewN (Below.refl _ _) m).trans hb2
    have HB2 : Hid (Below W1.heap.size W1 W2) := hb2'
    have HR2 : Hid (Rc W2 w.heap.size) := HRC.out.next hb2'
    have hs2 : w.heap.size < W2.heap.size := Nat.lt_of_lt_of_le hs1 hb2'.size
    have hne := HNO.out k pos bss HE
    clear hb2' hb2 HV HE cf c
    by_cases hkN : k = N
    · subst hkN
      have hpS : ((pos : Int) != (S : Int)) = true := by simp; omega
      clear hne
      go_wp2_with (first | (go_at_call 26; refine (refusal_fault _ _ _).mono ?_; rintro e W3 ⟨q, rfl, hf, hq, hb3⟩; obtain ⟨b0, b1, b2, b3, bf⟩ := HR2.out.next hb3) | fail)
      have hqw : w.heap.size ≠ q := by omega
      have hsets := Rc.set ⟨b0, b1, b2, b3, bf⟩ (.int .u64 0) (.slice none 0 0) (.slice none 0 0) (.int .i64 0)
      simp only at hsets
      obtain ⟨u0, u1, u2, u3⟩ := hsets
      refine bodyPost_ret (v := .tuple #[noScan, .iface 67 (.pointer (some ⟨q, 0, none⟩))]) (by simp only [results, Tryd.results10]; simp [go_sem, u0, u1, u2, u3, noScan]) rfl ⟨q, rfl, (((hf.set hqw _).set hqw _).set hqw _).set hqw _, ?_⟩
      exact (((((hb1.trans (HB2.out.mono hb1.size)).trans (hb3.mono (by omega))).setCell (p := ⟨w.heap.size, 0, none⟩) (Nat.le_refl _) _).setCell (p := ⟨w.heap.size, 1, none⟩) (Nat.le_refl _) _).setCell (p := ⟨w.heap.size, 2, none⟩) (Nat.le_refl _) _).setCell (p := ⟨w.heap.size, 3, none⟩) (Nat.le_refl _) _
    · have hkn : ((k : Int) != (N : Int)) = true := by simp; omega
      clear hne hkN
      go_wp2_with (first | (go_at_call 26; refine (refusal_fault _ _ _).mono ?_; rintro e W3 ⟨q, rfl, hf, hq, hb3⟩; obtain ⟨b0, b1, b2, b3, bf⟩ := HR2.out.next hb3) | fail)
      have hqw : w.heap.size ≠ q := by omega
      have hsets := Rc.set ⟨b0, b1, b2, b3, bf⟩ (.int .u64 0) (.slice none 0 0) (.slice none 0 0) (.int .i64 0)
      simp only at hsets
      obtain ⟨u0, u1, u2, u3⟩ := hsets
      refine bodyPost_ret (v := .tuple #[noScan, .iface 67 (.pointer (some ⟨q, 0, none⟩))]) (by simp only [results, Tryd.results10]; simp [go_sem, u0, u1, u2, u3, noScan]) rfl ⟨q, rfl, (((hf.set hqw _).set hqw _).set hqw _).set hqw _, ?_⟩
      exact (((((hb1.trans (HB2.out.mono hb1.size)).trans (hb3.mono (by omega))).setCell (p := ⟨w.heap.size, 0, none⟩) (Nat.le_refl _) _).setCell (p := ⟨w.heap.size, 1, none⟩) (Nat.le_refl _) _).setCell (p := ⟨w.heap.size, 2, none⟩) (Nat.le_refl _) _).setCell (p := ⟨w.heap.size, 3, none⟩) (Nat.le_refl _) _
end Go.Proofs.YtngmleddlfkecaaDoor
