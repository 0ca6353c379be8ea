import Derived.Test.YtngmleddlfkecaaDoorQ
namespace Go.Proofs.YtngmleddlfkecaaDoor
open Go Go.Proofs Go.RowKit

theorem framed_short (w : World) (ao : Option Addr) (l cap : Nat) (k : Int) (h : l < 17) :
    Calls Tryd.prog 34 #[.int .u32 k, .slice ao l cap] w fun e w' => e = .returned (.tuple #[.slice none 0 0, .int .i64 0]) ∧ ∃ m, w' = w.drewN m := by
  go_enter Tryd.func34, Tryd.ntmps34
  go_wp2
  go_ret2
  exact ⟨rfl, 0, rfl⟩

theorem framed_parts {w : World} {b off l cap : Nat} {d : List Nat} (h : At w b off d) (hlen : d.length = l) (hc : l ≤ cap) (hl : l ≤ 400000) (h17 : 17 ≤ l) :
    w.cell? ⟨b, off, none⟩ = some (.int .u8 (d.getD 0 0 : Nat)) ∧
    (∀ j o nn cp m, o = off + j ∧ j + 4 ≤ l ∧ nn = 4 ∧ 4 ≤ cp → Calls Tryd.prog 32 #[.slice (some ⟨b, o, none⟩) nn cp] (w.drewN m) fun e w' => e = .returned (.int .u64 (le ((d.drop j).take 4) : Nat)) ∧ w' = w.drewN m) ∧
    (∀ m, Calls Tryd.prog 23 #[.slice (some ⟨b, off, none⟩) 9 cap] (w.drewN m) fun e w' => e = .returned (.int .u32 (crc (d.take 9) : Nat)) ∧ w' = w.drewN m) := by
  refine ⟨h.1 0 (by omega), ?_, ?_⟩
  · rintro j o nn cp m ⟨rfl, h4, rfl, hcp⟩
    have hv : V (w.drewN m) (.slice (some ⟨b, off + j, none⟩) 4 cp) ((d.drop j).take 4) := V.mk ((h.drop j).take 4) (by simp; omega) hcp
    refine (value_any hv (by simp; omega)).mono ?_
    rintro e w' ⟨rfl, rfl⟩
    exact ⟨rfl, rfl⟩
  · intro m
    have hv : V (w.drewN m) (.slice (some ⟨b, off, none⟩) 9 cap) (d.take 9) := V.mk (h.take 9) (by simp; omega) (by omega)
    refine (rsum_any hv (by simp; omega)).mono ?_
    rintro e w' ⟨rfl, rfl⟩
    exact ⟨rfl, rfl⟩

set_option maxRecDepth 100000 in
theorem framed_mark {w : World} {b off l cap : Nat} {d : List Nat} (k : Nat) (h : At w b off d) (hlen : d.length = l) (hc : l ≤ cap) (hl : l ≤ 400000) (h17 : 17 ≤ l) (h0 : d.getD 0 0 ≠ 165) :
    Calls Tryd.prog 34 #[.int .u32 (k : Int), .slice (some ⟨b, off, none⟩) l cap] w fun e w' => e = .returned (.tuple #[.slice none 0 0, .int .i64 0]) ∧ ∃ m, w' = w.drewN m := by
  obtain ⟨hc0, _, _⟩ := framed_parts h hlen hc hl h17
  obtain ⟨y, hy⟩ : ∃ y, d.getD 0 0 = y := ⟨_, rfl⟩
  rw [hy] at hc0 h0
  clear hy h hlen
  have hne : ((y : Int) != 165) = true := by simp; omega
  go_enter Tryd.func34, Tryd.ntmps34
  go_wp2
  go_ret2
  exact ⟨rfl, 0, rfl⟩

set_option maxRecDepth 100000 in
theorem framed_number {w : World} {b off l cap : Nat} {d : List Nat} (k : Nat) (h : At w b off d) (hlen : d.length = l) (hc : l ≤ cap) (hl : l ≤ 400000) (hk : k < 4294967296) (h17 : 17 ≤ l) (h0 : d.getD 0 0 = 165) (h1 : le ((d.drop 1).take 4) ≠ k) :
    Calls Tryd.prog 34 #[.int .u32 (k : Int), .slice (some ⟨b, off, none⟩) l cap] w fun e w' => e = .returned (.tuple #[.slice none 0 0, .int .i64 0]) ∧ ∃ m, w' = w.drewN m := by
  obtain ⟨hc0, cv, _⟩ := framed_parts h hlen hc hl h17
  rw [h0] at hc0
  have c1 := fun o nn cp => cv 1 o nn cp 0
  obtain ⟨X, hX⟩ : ∃ X, le ((d.drop 1).take 4) = X := ⟨_, rfl⟩
  rw [hX] at c1 h1
  have ew := wrap_u64_small k (by omega)
  clear hX h hlen h0 cv
  have hne : ((X : Int) != (k : Int)) = true := by simp; omega
  have hcn : ¬ cap = 1 := by omega
  go_enter Tryd.func34, Tryd.ntmps34
  go_wp2_with (go_at_call 32; refine (c1 _ _ _ ?_).mono ?_; (focus omega); rintro e w' ⟨rfl, rfl⟩)
  go_ret2
  exact ⟨rfl, _, rfl⟩

set_option maxRecDepth 100000 in
theorem framed_sum {w : World} {b off l cap : Nat} {d : List Nat} (k : Nat) (h : At w b off d) (hlen : d.length = l) (hc : l ≤ cap) (hl : l ≤ 400000) (hk : k < 4294967296) (h17 : 17 ≤ l) (h0 : d.getD 0 0 = 165) (h1 : le ((d.drop 1).take 4) = k) (h2 : le ((d.drop 9).take 4) ≠ crc (d.take 9)) :
    Calls Tryd.prog 34 #[.int .u32 (k : Int), .slice (some ⟨b, off, none⟩) l cap] w fun e w' => e = .returned (.tuple #[.slice none 0 0, .int .i64 0]) ∧ ∃ m, w' = w.drewN m := by
  obtain ⟨hc0, cv, cs⟩ := framed_parts h hlen hc hl h17
  rw [h0] at hc0
  have c1 := fun o nn cp => cv 1 o nn cp 0
  have c5 := fun o nn cp => cv 5 o nn cp 0
  have c9 := cv 9
  rw [h1] at c1
  obtain ⟨X9, hX9⟩ : ∃ X, le ((d.drop 9).take 4) = X := ⟨_, rfl⟩
  obtain ⟨Y9, hY9⟩ : ∃ X, crc (d.take 9) = X := ⟨_, rfl⟩
  obtain ⟨M, hM⟩ : ∃ X, lenP d = X := ⟨_, rfl⟩
  rw [hX9] at c9
  rw [hY9] at cs
  have c5' : ∀ o nn cp, o = off + 5 ∧ 5 + 4 ≤ l ∧ nn = 4 ∧ 4 ≤ cp → Calls Tryd.prog 32 #[.slice (some ⟨b, o, none⟩) nn cp] w fun e w' => e = .returned (.int .u64 (M : Int)) ∧ w' = w := by rw [← hM]; exact c5
  have c1' : ∀ o nn cp, o = off + 1 ∧ 1 + 4 ≤ l ∧ nn = 4 ∧ 4 ≤ cp → Calls Tryd.prog 32 #[.slice (some ⟨b, o, none⟩) nn cp] w fun e w' => e = .returned (.int .u64 (k : Int)) ∧ w' = w := c1
  have hM32 : M < 4294967296 := by rw [← hM]; exact le4_lt h.2 5
  have hX32 : X9 < 4294967296 := by rw [← hX9]; exact le4_lt h.2 9
  have hY32 : Y9 < 4294967296 := by rw [← hY9]; exact crc_lt _ (take_lt h.2 9)
  have ew := wrap_u64_small k (by omega)
  have ewY := wrap_u64_small Y9 (by omega)
  have ewl := wrap_u64_small l (by omega)
  have hcn : ¬ cap = 1 := by omega
  have hcn5 : ¬ cap = 5 := by omega
  have hcn9 : ¬ cap = 9 := by omega
  rw [hX9, hY9] at h2
  clear h hlen h0 h1 cv c1 c5 hX9 hY9 hM
  have hne : ((X9 : Int) != (Y9 : Int)) = true := by simp; omega
  go_enter Tryd.func34, Tryd.ntmps34
  go_wp2_with (first | (go_at_call 32; refine (c1' _ _ _ ?_).mono ?_; (focus omega); rintro e w' ⟨rfl, rfl⟩) | (go_at_call 32; refine (c5' _ _ _ ?_).mono ?_; (focus omega); rintro e w' ⟨rfl, rfl⟩))
  go_quiet (first | (go_at_call 32; refine Calls.quiet_of_same (c9 _ _ _ _ ?_); (focus omega)) | (go_at_call 23; exact Calls.quiet_of_same (cs _)))
  go_wp2
  go_ret2
  exact ⟨rfl, _, rfl⟩

set_option maxRecDepth 100000 in
theorem framed_long {w : World} {b off l cap : Nat} {d : List Nat} (k : Nat) (h : At w b off d) (hlen : d.length = l) (hc : l ≤ cap) (hl : l ≤ 400000) (hk : k < 4294967296) (h17 : 17 ≤ l) (h0 : d.getD 0 0 = 165) (h1 : le ((d.drop 1).take 4) = k) (h2 : le ((d.drop 9).take 4) = crc (d.take 9)) (h3 : 131072 < lenP d) :
    Calls Tryd.prog 34 #[.int .u32 (k : Int), .slice (some ⟨b, off, none⟩) l cap] w fun e w' => e = .returned (.tuple #[.slice none 0 0, .int .i64 0]) ∧ ∃ m, w' = w.drewN m := by
  obtain ⟨hc0, cv, cs⟩ := framed_parts h hlen hc hl h17
  rw [h0] at hc0
  have c1 := fun o nn cp => cv 1 o nn cp 0
  have c5 := fun o nn cp => cv 5 o nn cp 0
  have c9 := cv 9
  rw [h1] at c1
  obtain ⟨X9, hX9⟩ : ∃ X, le ((d.drop 9).take 4) = X := ⟨_, rfl⟩
  obtain ⟨Y9, hY9⟩ : ∃ X, crc (d.take 9) = X := ⟨_, rfl⟩
  obtain ⟨M, hM⟩ : ∃ X, lenP d = X := ⟨_, rfl⟩
  rw [hX9] at c9
  rw [hY9] at cs
  have c5' : ∀ o nn cp, o = off + 5 ∧ 5 + 4 ≤ l ∧ nn = 4 ∧ 4 ≤ cp → Calls Tryd.prog 32 #[.slice (some ⟨b, o, none⟩) nn cp] w fun e w' => e = .returned (.int .u64 (M : Int)) ∧ w' = w := by rw [← hM]; exact c5
  have c1' : ∀ o nn cp, o = off + 1 ∧ 1 + 4 ≤ l ∧ nn = 4 ∧ 4 ≤ cp → Calls Tryd.prog 32 #[.slice (some ⟨b, o, none⟩) nn cp] w fun e w' => e = .returned (.int .u64 (k : Int)) ∧ w' = w := c1
  have hM32 : M < 4294967296 := by rw [← hM]; exact le4_lt h.2 5
  have hX32 : X9 < 4294967296 := by rw [← hX9]; exact le4_lt h.2 9
  have hY32 : Y9 < 4294967296 := by rw [← hY9]; exact crc_lt _ (take_lt h.2 9)
  have ew := wrap_u64_small k (by omega)
  have ewY := wrap_u64_small Y9 (by omega)
  have ewl := wrap_u64_small l (by omega)
  have hcn : ¬ cap = 1 := by omega
  have hcn5 : ¬ cap = 5 := by omega
  have hcn9 : ¬ cap = 9 := by omega
  rw [hX9, hY9] at h2
  rw [hM] at h3
  clear h hlen h0 h1 cv c1 c5 hX9 hY9 hM
  have hne : ((X9 : Int) != (Y9 : Int)) = false := by simp; omega
  have h3i : (131072 : Int) < (M : Int) := by omega
  clear h2
  go_enter Tryd.func34, Tryd.ntmps34
  go_wp2_with (first | (go_at_call 32; refine (c1' _ _ _ ?_).mono ?_; (focus omega); rintro e w' ⟨rfl, rfl⟩) | (go_at_call 32; refine (c5' _ _ _ ?_).mono ?_; (focus omega); rintro e w' ⟨rfl, rfl⟩))
  go_quiet (first | (go_at_call 32; refine Calls.quiet_of_same (c9 _ _ _ _ ?_); (focus omega)) | (go_at_call 23; exact Calls.quiet_of_same (cs _)))
  go_wp2
  go_ret2
  exact ⟨rfl, _, rfl⟩
end Go.Proofs.YtngmleddlfkecaaDoor
