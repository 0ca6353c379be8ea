import Derived.Test.YtngmleddlfkecaaDoorR
namespace Go.Proofs.YtngmleddlfkecaaDoor
open Go Go.Proofs Go.RowKit

set_option maxRecDepth 100000 in
theorem framed_cut {w : World} {b off l cap : Nat} {d : List Nat} (k : Nat) (h : At w b off d) (hlen : d.length = l) (hc : l ≤ cap) (hl : l ≤ 400000) (hk : k < 4294967296) (h17 : 17 ≤ l) (h0 : d.getD 0 0 = 165) (h1 : le ((d.drop 1).take 4) = k) (h2 : le ((d.drop 9).take 4) = crc (d.take 9)) (h3 : lenP d ≤ 131072) (h4 : l < 17 + lenP d) :
    Calls Tryd.prog 34 #[.int .u32 (k : Int), .slice (some ⟨b, off, none⟩) l cap] w fun e w' => e = .returned (.tuple #[.slice none 0 0, .int .i64 0]) ∧ ∃ m, w' = w.drewN m := by
  obtain ⟨hc0, cv, cs⟩ := framed_parts h hlen hc hl h17
  rw [h0] at hc0
  have c1 := fun o nn cp => cv 1 o nn cp 0
  have c5 := fun o nn cp => cv 5 o nn cp 0
  have c9 := cv 9
  rw [h1] at c1
  obtain ⟨X9, hX9⟩ : ∃ X, le ((d.drop 9).take 4) = X := ⟨_, rfl⟩
  obtain ⟨Y9, hY9⟩ : ∃ X, crc (d.take 9) = X := ⟨_, rfl⟩
  obtain ⟨M, hM⟩ : ∃ X, lenP d = X := ⟨_, rfl⟩
  rw [hX9] at c9
  rw [hY9] at cs
  have c5' : ∀ o nn cp, o = off + 5 ∧ 5 + 4 ≤ l ∧ nn = 4 ∧ 4 ≤ cp → Calls Tryd.prog 32 #[.slice (some ⟨b, o, none⟩) nn cp] w fun e w' => e = .returned (.int .u64 (M : Int)) ∧ w' = w := by rw [← hM]; exact c5
  have c1' : ∀ o nn cp, o = off + 1 ∧ 1 + 4 ≤ l ∧ nn = 4 ∧ 4 ≤ cp → Calls Tryd.prog 32 #[.slice (some ⟨b, o, none⟩) nn cp] w fun e w' => e = .returned (.int .u64 (k : Int)) ∧ w' = w := c1
  have hM32 : M < 4294967296 := by rw [← hM]; exact le4_lt h.2 5
  have hX32 : X9 < 4294967296 := by rw [← hX9]; exact le4_lt h.2 9
  have hY32 : Y9 < 4294967296 := by rw [← hY9]; exact crc_lt _ (take_lt h.2 9)
  have ew := wrap_u64_small k (by omega)
  have ewY := wrap_u64_small Y9 (by omega)
  have ewl := wrap_u64_small l (by omega)
  have hcn : ¬ cap = 1 := by omega
  have hcn5 : ¬ cap = 5 := by omega
  have hcn9 : ¬ cap = 9 := by omega
  rw [hX9, hY9] at h2
  rw [hM] at h3 h4
  have hne : ((X9 : Int) != (Y9 : Int)) = false := by simp; omega
  have hgt : decide ((131072 : Int) < (M : Int)) = false := by simp; omega
  have h4i : (l : Int) < 17 + (M : Int) := by omega
  clear h hlen h0 h1 cv c1 c5 hX9 hY9 hM h2
  go_enter Tryd.func34, Tryd.ntmps34
  go_wp2_with (first | (go_at_call 32; refine (c1' _ _ _ ?_).mono ?_; (focus omega); rintro e w' ⟨rfl, rfl⟩) | (go_at_call 32; refine (c5' _ _ _ ?_).mono ?_; (focus omega); rintro e w' ⟨rfl, rfl⟩))
  go_quiet (first | (go_at_call 32; refine Calls.quiet_of_same (c9 _ _ _ _ ?_); (focus omega)) | (go_at_call 23; exact Calls.quiet_of_same (cs _)))
  go_wp2
  go_ret2
  exact ⟨rfl, _, rfl⟩

set_option maxRecDepth 100000 in
theorem framed_body {w : World} {b off l cap : Nat} {d : List Nat} (k : Nat) (h : At w b off d) (hlen : d.length = l) (hc : l ≤ cap) (hl : l ≤ 400000) (hk : k < 4294967296) (h17 : 17 ≤ l) (h0 : d.getD 0 0 = 165) (h1 : le ((d.drop 1).take 4) = k) (h2 : le ((d.drop 9).take 4) = crc (d.take 9)) (h3 : lenP d ≤ 131072) (h4 : 17 + lenP d ≤ l) (h5 : le (((d.drop 13).drop (lenP d)).take 4) ≠ crc ((d.drop 13).take (lenP d))) :
    Calls Tryd.prog 34 #[.int .u32 (k : Int), .slice (some ⟨b, off, none⟩) l cap] w fun e w' => e = .returned (.tuple #[.slice none 0 0, .int .i64 0]) ∧ ∃ m, w' = w.drewN m := by
  obtain ⟨hc0, cv, cs⟩ := framed_parts h hlen hc hl h17
  rw [h0] at hc0
  have c1 := fun o nn cp => cv 1 o nn cp 0
  have c5 := fun o nn cp => cv 5 o nn cp 0
  have c9 := cv 9
  rw [h1] at c1
  obtain ⟨X9, hX9⟩ : ∃ X, le ((d.drop 9).take 4) = X := ⟨_, rfl⟩
  obtain ⟨Y9, hY9⟩ : ∃ X, crc (d.take 9) = X := ⟨_, rfl⟩
  obtain ⟨M, hM⟩ : ∃ X, lenP d = X := ⟨_, rfl⟩
  rw [hX9] at c9
  rw [hY9] at cs
  have c5' : ∀ o nn cp, o = off + 5 ∧ 5 + 4 ≤ l ∧ nn = 4 ∧ 4 ≤ cp → Calls Tryd.prog 32 #[.slice (some ⟨b, o, none⟩) nn cp] w fun e w' => e = .returned (.int .u64 (M : Int)) ∧ w' = w := by rw [← hM]; exact c5
  have c1' : ∀ o nn cp, o = off + 1 ∧ 1 + 4 ≤ l ∧ nn = 4 ∧ 4 ≤ cp → Calls Tryd.prog 32 #[.slice (some ⟨b, o, none⟩) nn cp] w fun e w' => e = .returned (.int .u64 (k : Int)) ∧ w' = w := c1
  have hM32 : M < 4294967296 := by rw [← hM]; exact le4_lt h.2 5
  have hX32 : X9 < 4294967296 := by rw [← hX9]; exact le4_lt h.2 9
  have hY32 : Y9 < 4294967296 := by rw [← hY9]; exact crc_lt _ (take_lt h.2 9)
  have ew := wrap_u64_small k (by omega)
  have ewY := wrap_u64_small Y9 (by omega)
  have ewl := wrap_u64_small l (by omega)
  have hcn : ¬ cap = 1 := by omega
  have hcn5 : ¬ cap = 5 := by omega
  have hcn9 : ¬ cap = 9 := by omega
  rw [hX9, hY9] at h2
  rw [hM] at h3 h4 h5
  have hne : ((X9 : Int) != (Y9 : Int)) = false := by simp; omega
  have hgt : decide ((131072 : Int) < (M : Int)) = false := by simp; omega
  have hlt : decide ((l : Int) < 17 + (M : Int)) = false := by simp; omega
  have cE : ∀ o nn cp m, o = off + (13 + M) ∧ nn = 4 ∧ 4 ≤ cp → Calls Tryd.prog 32 #[.slice (some ⟨b, o, none⟩) nn cp] (w.drewN m) fun e w' => e = .returned (.int .u64 (le (((d.drop 13).drop M).take 4) : Nat)) ∧ w' = w.drewN m := by
    rintro o nn cp m ⟨rfl, rfl, hcp⟩
    rw [List.drop_drop]
    exact cv (13 + M) _ _ _ m ⟨rfl, by omega, rfl, hcp⟩
  have cB : ∀ cp m, M ≤ cp → Calls Tryd.prog 23 #[.slice (some ⟨b, off + 13, none⟩) M cp] (w.drewN m) fun e w' => e = .returned (.int .u32 (crc ((d.drop 13).take M) : Nat)) ∧ w' = w.drewN m := by
    intro cp m hcp
    have hv : V (w.drewN m) (.slice (some ⟨b, off + 13, none⟩) M cp) ((d.drop 13).take M) := V.mk ((h.drop 13).take M) (by simp; omega) hcp
    refine (rsum_any hv (by simp; omega)).mono ?_
    rintro e w' ⟨rfl, rfl⟩
    exact ⟨rfl, rfl⟩
  obtain ⟨XE, hXE⟩ : ∃ X, le (((d.drop 13).drop M).take 4) = X := ⟨_, rfl⟩
  obtain ⟨YE, hYE⟩ : ∃ X, crc ((d.drop 13).take M) = X := ⟨_, rfl⟩
  rw [hXE] at cE h5
  rw [hYE] at cB h5
  have ewE := wrap_u64_small YE (Nat.lt_of_lt_of_le (show YE < 4294967296 from hYE ▸ crc_lt _ (fun x hx => h.2 x (List.mem_of_mem_drop (List.mem_of_mem_take hx)))) (by decide))
  have hneE : ((XE : Int) != (YE : Int)) = true := by simp; omega
  have ecM : ¬ cap = 13 := by omega
  have ecN : ¬ cap = 13 + M := by omega
  clear h hlen h0 h1 cv c1 c5 hX9 hY9 hM h2 h5 hXE hYE
  go_enter Tryd.func34, Tryd.ntmps34
  go_wp2_with (first | (go_at_call 32; refine (c1' _ _ _ ?_).mono ?_; (focus omega); rintro e w' ⟨rfl, rfl⟩) | (go_at_call 32; refine (c5' _ _ _ ?_).mono ?_; (focus omega); rintro e w' ⟨rfl, rfl⟩))
  go_quiet (first | (go_at_call 32; refine Calls.quiet_of_same (c9 _ _ _ _ ?_); (focus omega)) | (go_at_call 23; exact Calls.quiet_of_same (cs _)))
  go_wp2_with (first | (go_at_call 32; refine (cE _ _ _ _ ?_).mono ?_; (focus omega); rintro e w' ⟨rfl, rfl⟩) | (go_at_call 23; refine (cB _ _ ?_).mono ?_; (focus omega); rintro e w' ⟨rfl, rfl⟩))
  go_ret2
  exact ⟨rfl, _, rfl⟩
set_option maxRecDepth 100000 in
theorem framed_good {w : World} {b off l cap : Nat} {d : List Nat} (k : Nat) (h : At w b off d) (hlen : d.length = l) (hc : l ≤ cap) (hl : l ≤ 400000) (hk : k < 4294967296) (h17 : 17 ≤ l) (h0 : d.getD 0 0 = 165) (h1 : le ((d.drop 1).take 4) = k) (h2 : le ((d.drop 9).take 4) = crc (d.take 9)) (h3 : lenP d ≤ 131072) (h4 : 17 + lenP d ≤ l) (h5 : le (((d.drop 13).drop (lenP d)).take 4) = crc ((d.drop 13).take (lenP d))) :
    Calls Tryd.prog 34 #[.int .u32 (k : Int), .slice (some ⟨b, off, none⟩) l cap] w fun e w' => ∃ a p, e = .returned (.tuple #[.slice a (lenP d) p, .int .i64 ((17 + lenP d : Nat) : Int)]) ∧ Own w' w.heap.size (.slice a (lenP d) p) (bodyP d) ∧ Below w.heap.size w w' := by
  obtain ⟨hc0, cv, cs⟩ := framed_parts h hlen hc hl h17
  rw [h0] at hc0
  have c1 := fun o nn cp => cv 1 o nn cp 0
  have c5 := fun o nn cp => cv 5 o nn cp 0
  have c9 := cv 9
  rw [h1] at c1
  obtain ⟨X9, hX9⟩ : ∃ X, le ((d.drop 9).take 4) = X := ⟨_, rfl⟩
  obtain ⟨Y9, hY9⟩ : ∃ X, crc (d.take 9) = X := ⟨_, rfl⟩
  obtain ⟨M, hM⟩ : ∃ X, lenP d = X := ⟨_, rfl⟩
  rw [hX9] at c9
  rw [hY9] at cs
  have c5' : ∀ o nn cp, o = off + 5 ∧ 5 + 4 ≤ l ∧ nn = 4 ∧ 4 ≤ cp → Calls Tryd.prog 32 #[.slice (some ⟨b, o, none⟩) nn cp] w fun e w' => e = .returned (.int .u64 (M : Int)) ∧ w' = w := by rw [← hM]; exact c5
  have c1' : ∀ o nn cp, o = off + 1 ∧ 1 + 4 ≤ l ∧ nn = 4 ∧ 4 ≤ cp → Calls Tryd.prog 32 #[.slice (some ⟨b, o, none⟩) nn cp] w fun e w' => e = .returned (.int .u64 (k : Int)) ∧ w' = w := c1
  have hM32 : M < 4294967296 := by rw [← hM]; exact le4_lt h.2 5
  have hX32 : X9 < 4294967296 := by rw [← hX9]; exact le4_lt h.2 9
  have hY32 : Y9 < 4294967296 := by rw [← hY9]; exact crc_lt _ (take_lt h.2 9)
  have ew := wrap_u64_small k (by omega)
  have ewY := wrap_u64_small Y9 (by omega)
  have ewl := wrap_u64_small l (by omega)
  have hcn : ¬ cap = 1 := by omega
  have hcn5 : ¬ cap = 5 := by omega
  have hcn9 : ¬ cap = 9 := by omega
  rw [hX9, hY9] at h2
  rw [hM] at h3 h4 h5 ⊢
  have hne : ((X9 : Int) != (Y9 : Int)) = false := by simp; omega
  have hgt : decide ((131072 : Int) < (M : Int)) = false := by simp; omega
  have hlt : decide ((l : Int) < 17 + (M : Int)) = false := by simp; omega
  have cE : ∀ o nn cp m, o = off + (13 + M) ∧ nn = 4 ∧ 4 ≤ cp → Calls Tryd.prog 32 #[.slice (some ⟨b, o, none⟩) nn cp] (w.drewN m) fun e w' => e = .returned (.int .u64 (le (((d.drop 13).drop M).take 4) : Nat)) ∧ w' = w.drewN m := by
    rintro o nn cp m ⟨rfl, rfl, hcp⟩
    rw [List.drop_drop]
    exact cv (13 + M) _ _ _ m ⟨rfl, by omega, rfl, hcp⟩
  have cB : ∀ cp m, M ≤ cp → Calls Tryd.prog 23 #[.slice (some ⟨b, off + 13, none⟩) M cp] (w.drewN m) fun e w' => e = .returned (.int .u32 (crc ((d.drop 13).take M) : Nat)) ∧ w' = w.drewN m := by
    intro cp m hcp
    have hv : V (w.drewN m) (.slice (some ⟨b, off + 13, none⟩) M cp) ((d.drop 13).take M) := V.mk ((h.drop 13).take M) (by simp; omega) hcp
    refine (rsum_any hv (by simp; omega)).mono ?_
    rintro e w' ⟨rfl, rfl⟩
    exact ⟨rfl, rfl⟩
  obtain ⟨XE, hXE⟩ : ∃ X, le (((d.drop 13).drop M).take 4) = X := ⟨_, rfl⟩
  obtain ⟨YE, hYE⟩ : ∃ X, crc ((d.drop 13).take M) = X := ⟨_, rfl⟩
  rw [hXE] at cE h5
  rw [hYE] at cB h5
  have ewE := wrap_u64_small YE (Nat.lt_of_lt_of_le (show YE < 4294967296 from hYE ▸ crc_lt _ (fun x hx => h.2 x (List.mem_of_mem_drop (List.mem_of_mem_take hx)))) (by decide))
  have hneE : ((XE : Int) != (YE : Int)) = false := by simp; omega
  have HBd : Hid (bodyP d = (d.drop 13).take M) := by show _ = _; unfold bodyP; rw [hM]
  have cJ : ∀ cp m, M ≤ cp → Calls Tryd.prog 40 #[.slice (some ⟨b, off + 13, none⟩) M cp, .slice none 0 0] (w.drewN m) fun e w' => e = .returned (.slice (some ⟨w.heap.size, 0, none⟩) M M) ∧ Own w' w.heap.size (.slice (some ⟨w.heap.size, 0, none⟩) M M) ((d.drop 13).take M) ∧ Below w.heap.size w w' := by
    intro cp m hcp
    have hv : V (w.drewN m) (.slice (some ⟨b, off + 13, none⟩) M cp) ((d.drop 13).take M) := V.mk ((h.drop 13).take M) (by simp; omega) hcp
    have hlt2 : ((d.drop 13).take M).length = M := by simp; omega
    have := join_any hv (w := w.drewN m) (v2 := .slice none 0 0) (l2 := []) (.inl ⟨_, _, rfl, rfl⟩) (by simp; omega)
    simp only [List.append_nil, List.length_nil, Nat.add_zero, hlt2] at this
    refine this.mono ?_
    rintro e w' ⟨rfl, ho, hb⟩
    exact ⟨rfl, ho, (below_drewN (Below.refl _ _) m).trans hb⟩
  have ecM : ¬ cap = 13 := by omega
  have ecN : ¬ cap = 13 + M := by omega
  clear h hlen h0 h1 cv c1 c5 hX9 hY9 hM h2 h5 hXE hYE
  go_enter Tryd.func34, Tryd.ntmps34
  go_wp2_with (first | (go_at_call 32; refine (c1' _ _ _ ?_).mono ?_; (focus omega); rintro e w' ⟨rfl, rfl⟩) | (go_at_call 32; refine (c5' _ _ _ ?_).mono ?_; (focus omega); rintro e w' ⟨rfl, rfl⟩))
  go_quiet (first | (go_at_call 32; refine Calls.quiet_of_same (c9 _ _ _ _ ?_); (focus omega)) | (go_at_call 23; exact Calls.quiet_of_same (cs _)))
  go_wp2_with (first | (go_at_call 32; refine (cE _ _ _ _ ?_).mono ?_; (focus omega); rintro e w' ⟨rfl, rfl⟩) | (go_at_call 23; refine (cB _ _ ?_).mono ?_; (focus omega); rintro e w' ⟨rfl, rfl⟩) | (go_at_call 40; refine (cJ _ _ ?_).mono ?_; (focus omega); rintro e W2 ⟨rfl, ho, hb⟩))
  go_ret2
  rw [← HBd.out] at ho
  exact ⟨_, M, by simp, ho, hb⟩

/-- framed: no. -/
theorem framed_no {w : World} {v : Value} {d : List Nat} {k : Nat} (h : V w v d) (hl : d.length ≤ 400000) (hk : k < 4294967296) (hF : frameP d k = false) :
    Calls Tryd.prog 34 #[.int .u32 (k : Int), v] w fun e w' => e = .returned (.tuple #[.slice none 0 0, .int .i64 0]) ∧ ∃ m, w' = w.drewN m := by
  by_cases h17 : 17 ≤ d.length
  · rcases h with ⟨a1, c1, rfl, rfl⟩ | ⟨b, off, cap, rfl, hp1, hc, h⟩
    · exact absurd h17 (by decide)
    · by_cases h0 : d.getD 0 0 = 165
      · by_cases h1 : le ((d.drop 1).take 4) = k
        · by_cases h2 : le ((d.drop 9).take 4) = crc (d.take 9)
          · by_cases h3 : lenP d ≤ 131072
            · by_cases h4 : 17 + lenP d ≤ d.length
              · refine framed_body k h rfl hc hl hk h17 h0 h1 h2 h3 h4 ?_
                intro h5
                have hS : summedP d 9 = true := by unfold summedP; simp [h2]; omega
                have hS2 : summedP (d.drop 13) (lenP d) = true := by
                  unfold summedP
                  simp only [Bool.and_eq_true, decide_eq_true_eq, List.length_drop]
                  exact ⟨by omega, h5⟩
                unfold frameP at hF
                rw [hS, hS2, h0, h1] at hF
                simp at hF
                omega
              · exact framed_cut k h rfl hc hl hk h17 h0 h1 h2 h3 (by omega)
            · exact framed_long k h rfl hc hl hk h17 h0 h1 h2 (by omega)
          · exact framed_sum k h rfl hc hl hk h17 h0 h1 h2
        · exact framed_number k h rfl hc hl hk h17 h0 h1
      · exact framed_mark k h rfl hc hl h17 h0
  · obtain ⟨ao, cap, rfl, _, _⟩ := h.form
    exact framed_short w ao d.length cap k (by omega)

/-- framed: yes. -/
theorem framed_yes {w : World} {b off l cap : Nat} {d : List Nat} {k : Nat} (h : At w b off d) (hlen : d.length = l) (hc : l ≤ cap) (hl : l ≤ 400000) (hk : k < 4294967296) (hF : frameP d k = true) :
    Calls Tryd.prog 34 #[.int .u32 (k : Int), .slice (some ⟨b, off, none⟩) l cap] w fun e w' => ∃ a p, e = .returned (.tuple #[.slice a (lenP d) p, .int .i64 ((17 + lenP d : Nat) : Int)]) ∧ Own w' w.heap.size (.slice a (lenP d) p) (bodyP d) ∧ Below w.heap.size w w' := by
  have hL := (frameP_len hF).1
  unfold frameP summedP at hF
  simp only [Bool.and_eq_true, decide_eq_true_eq] at hF
  obtain ⟨⟨⟨⟨hS, h0⟩, h1⟩, h2⟩, h3⟩ := hF
  exact framed_good k h hlen hc hl hk (by omega) h0 h1 hS.2 h2 (by omega) h3.2
end Go.Proofs.YtngmleddlfkecaaDoor
