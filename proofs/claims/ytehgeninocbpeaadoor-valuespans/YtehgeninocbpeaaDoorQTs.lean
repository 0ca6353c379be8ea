import Derived.Test.YtehgeninocbpeaaDoorQTo
/-
  DERIVED. What the program reads of a moment, case by case.
-/
namespace Go.Proofs.YtehgeninocbpeaaDoor.Tm
open Go Go.Proofs Go.RowKit

theorem md_28 (y m : Nat) (h1 : 1 ≤ m) (h2 : m ≤ 12) : 28 ≤ md y m := by
  unfold md
  rw [if_neg (by omega)]
  split
  · omega
  · unfold mL
    have : m - 1 < 12 := by omega
    generalize m - 1 = k at *
    rcases (by omega : k = 0 ∨ k = 1 ∨ k = 2 ∨ k = 3 ∨ k = 4 ∨ k = 5 ∨ k = 6 ∨ k = 7 ∨ k = 8 ∨ k = 9 ∨ k = 10 ∨ k = 11) with rfl | rfl | rfl | rfl | rfl | rfl | rfl | rfl | rfl | rfl | rfl | rfl <;> decide


theorem sgn_from (s : ByteArray) : ∀ (m n : Nat), n + m = s.size → (∀ k, k < n → (s.get! k).toNat ≠ 43 ∧ (s.get! k).toNat ≠ 45) → ∃ e, Sgn s e
  | 0, n, h, hno => ⟨n, ⟨by omega, hno, fun h2 => by omega⟩⟩
  | m + 1, n, h, hno => by
    by_cases hx : (s.get! n).toNat = 43 ∨ (s.get! n).toNat = 45
    · exact ⟨n, ⟨by omega, hno, fun _ => hx⟩⟩
    · refine sgn_from s m (n + 1) (by omega) fun k hk => ?_
      rcases Nat.lt_or_eq_of_le (Nat.le_of_lt_succ hk) with h1 | rfl
      · exact hno k h1
      · exact ⟨fun h => hx (.inl h), fun h => hx (.inr h)⟩
theorem sgn_is (s : ByteArray) : ∃ e, Sgn s e := sgn_from s s.size 0 (by omega) (fun k hk => by omega)
theorem Sgn.dig {s : ByteArray} {e : Nat} (h : Sgn s e) : isD s e = false := by
  unfold isD
  by_cases hl : e < s.size
  · have := h.yes hl
    simp; omega
  · rw [decide_eq_false hl, Bool.false_and]
theorem Sgn.dot {s : ByteArray} {e : Nat} (h : Sgn s e) : nx s e false ≠ 46 := by
  by_cases hl : e < s.size
  · have := h.yes hl
    rw [nx_in hl]; omega
  · unfold nx; rw [if_pos (.inr hl)]; decide
theorem Sgn.nx_no {s : ByteArray} {e a : Nat} (h : Sgn s e) (ha : a < e) : ¬ (nx s a false = 43 ∨ nx s a false = 45) := by
  have h1 := h.no a ha
  have h2 := h.le
  rw [nx_in (by omega)]; omega

theorem zone_stop {s : ByteArray} {S : Mst} (h : ¬ (nx s S.a S.b = 43 ∨ nx s S.a S.b = 45)) : zoneS s S = S := by unfold zoneS; rw [if_neg h]
theorem zone_brk {s : ByteArray} {S : Mst} (h : S.b = true) : zoneS s S = S := zone_stop (by rw [h, nx_brk]; omega)

/-- A form that is none, ahead of the sign. -/
theorem rd_form {s : ByteArray} {S : Mst} {e p : Nat} (hg : Sgn s e) (ha : S.a = p) (hb : S.b = true ∨ p < e) : rdO s (zoneS s S) = some ((p : Int), 100) := by
  have h2 := hg.le
  have hz : zoneS s S = S := by
    cases hS : S.b with
    | true => exact zone_brk hS
    | false =>
      have hp : p < e := by rcases hb with h | h; · rw [hS] at h; cases h
                            · exact h
      exact zone_stop (by rw [hS, ha]; exact hg.nx_no hp)
  rw [hz]
  unfold rdO fmO
  rw [ha, if_pos (by rcases hb with h | h; · exact .inl h
                     · right; omega)]
  rfl
/-- No zone. -/
theorem rd_none {s : ByteArray} {S : Mst} (ha : S.a = s.size) (hb : S.b = false) : zoneS s S = S ∧ rdO s S = S.o := by
  refine ⟨zone_stop (by unfold nx; rw [if_pos (.inr (by omega))]; omega), ?_⟩
  unfold rdO fmO
  rw [if_neg (by rw [hb]; simp; omega)]
  rfl

theorem cnt4 (s : ByteArray) (a : Nat) : cnt s a 4 = zC1 s a + zC2 s a ∧ ((zC1 s a < 2 ∨ zC2 s a < 2) ↔ cnt s a 4 < 4) := by
  unfold zC2 zC1
  have h := cnt_split s 2 2 a
  rw [show 2 + 2 = 4 by omega] at h
  have k1 := cnt_le s 2 a
  have k2 := cnt_le s 2 (a + 2)
  by_cases h1 : cnt s a 2 < 2
  · rw [if_pos h1] at h
    rw [if_pos (by simpa using h1)]
    omega
  · rw [if_neg h1] at h
    rw [if_neg (by simpa using h1), show cnt s a 2 = 2 by omega]
    omega

theorem bad_is (x H M : Nat) (hx : x = 43 ∨ x = 45) : ((decide (59 < (M : Int)) || !(decide (-720 ≤ dzV x H M) && decide (dzV x H M ≤ 840))) || (decide (x = 45) && decide (dzV x H M = 0))) = !dzK x H M := by
  unfold dzK dzV
  by_cases hM : 59 < M
  · have : decide (59 < (M : Int)) = true := by simp; omega
    rw [this, if_pos hM]; simp
  · have : decide (59 < (M : Int)) = false := by simp; omega
    rw [this, if_neg hM, Bool.false_or]
    rcases hx with rfl | rfl
    · rw [if_neg (by decide), if_neg (by decide), Bool.eq_iff_iff]
      simp
      omega
    · rw [if_pos rfl, if_pos rfl, Bool.eq_iff_iff]
      simp
      omega

/-- A zone that is none by its form. -/
theorem rd_zbad {s : ByteArray} {S : Mst} {e x k : Nat} (hl : e < s.size) (hx : (s.get! e).toNat = x) (hx2 : x = 43 ∨ x = 45) (ha : S.a = e) (hb : S.b = false) (hk : cnt s (e + 1) 4 = k) (hbad : k < 4 ∨ e + 5 < s.size) : rdO s (zoneS s S) = some (((e + 1 + k : Nat) : Int), 100) := by
  have hn : nx s S.a S.b = x := by rw [ha, hb, nx_in hl, hx]
  unfold zoneS
  rw [hn, if_pos hx2]
  obtain ⟨c1, c2⟩ := cnt4 s (e + 1)
  rw [hk] at c1 c2
  have hk4 : k ≤ 4 := by rw [← hk]; exact cnt_le s 4 _
  unfold rdO fmO zoS
  simp only
  rw [ha, if_pos (by
    rcases hbad with h | h
    · left
      have := c2.2 h
      simp
      exact this
    · right; omega), show e + 1 + zC1 s (e + 1) + zC2 s (e + 1) = e + 1 + k by omega]
  rfl
/-- A zone. -/
theorem rd_zone {s : ByteArray} {S : Mst} {e x : Nat} (hl : e < s.size) (hx : (s.get! e).toNat = x) (hx2 : x = 43 ∨ x = 45) (ha : S.a = e) (hb : S.b = false) (hk : cnt s (e + 1) 4 = 4) (hsz : s.size = e + 5) :
    zoneS s S = { S with a := e + 5, b := false, o := S.o.or (bd (!dzK x (nv s (e + 1) 2) (nv s (e + 3) 2)) (e : Int)), zd := true, z := dzV x (nv s (e + 1) 2) (nv s (e + 3) 2) } ∧
    rdO s (zoneS s S) = S.o.or (bd (!dzK x (nv s (e + 1) 2) (nv s (e + 3) 2)) (e : Int)) := by
  have hn : nx s S.a S.b = x := by rw [ha, hb, nx_in hl, hx]
  obtain ⟨c1, c2⟩ := cnt4 s (e + 1)
  have hz1 : zC1 s (e + 1) ≤ 2 := cnt_le s 2 _
  have hz2 : zC2 s (e + 1) ≤ 2 := Nat.le_trans (zC2_le s _) (cnt_le s 2 _)
  have z1 : zC1 s (e + 1) = 2 := by omega
  have z2 : zC2 s (e + 1) = 2 := by omega
  have hH : zH s (e + 1) = nv s (e + 1) 2 := by unfold zH; rw [z1]
  have hM : zM s (e + 1) = nv s (e + 3) 2 := by unfold zM; rw [z1, z2, show e + 1 + 2 = e + 3 by omega]
  have hV : zV s (e + 1) x = dzV x (nv s (e + 1) 2) (nv s (e + 3) 2) := by unfold zV dzV; rw [hH, hM]
  have hB : zBad s (e + 1) x = !dzK x (nv s (e + 1) 2) (nv s (e + 3) 2) := by
    rw [← bad_is x _ _ hx2]
    unfold zBad
    rw [hV, hM]
  have heq : zoneS s S = { S with a := e + 5, b := false, o := S.o.or (bd (!dzK x (nv s (e + 1) 2) (nv s (e + 3) 2)) (e : Int)), zd := true, z := dzV x (nv s (e + 1) 2) (nv s (e + 3) 2) } := by
    unfold zoneS
    rw [hn, if_pos hx2]
    unfold zoS
    rw [ha, z1, z2, hV, hB, nextD_or]
    simp
  refine ⟨heq, ?_⟩
  rw [heq]
  unfold rdO fmO
  simp only
  rw [if_neg (by simp; omega)]
  rfl

def ufO (y m d : Nat) : Option (Int × Int) := if uf (y : Int) (m : Int) (d : Int) = -1 then none else some (pl (uf (y : Int) (m : Int) (d : Int)), 101)

theorem cnt8 (s : ByteArray) : cnt s 0 8 = if cnt s 0 4 < 4 then cnt s 0 4 else if cnt s 4 2 < 2 then 4 + cnt s 4 2 else 6 + cnt s 6 2 := by
  have a1 := cnt_split s 4 4 0
  have a2 := cnt_split s 2 2 4
  rw [show 4 + 4 = 8 by omega, show 0 + 4 = 4 by omega] at a1
  rw [show 2 + 2 = 4 by omega, show 4 + 2 = 6 by omega] at a2
  rw [a1]
  split
  · rfl
  · rw [a2]
    split
    · rfl
    · omega
theorem yearS_eq {s : ByteArray} {c : Nat} (hc : cnt s 0 4 = c) : yearS s st0 = { st0 with a := c, b := decide (c < 4), o := nextD none (decide ((nv s 0 c : Int) < 1) || decide (9999 < (nv s 0 c : Int))) 0, y := nv s 0 c, dp := 1 } := by
  have h1 : pcC s st0 4 = c := by unfold pcC; rw [show st0.b = false from rfl, if_neg (by decide)]; exact hc
  unfold yearS pcO pcN
  rw [h1]
  simp [st0]
  rfl
theorem monthS_eq {s : ByteArray} {S : Mst} {c : Nat} (hb : S.b = false) (hc : cnt s S.a 2 = c) : monthS s S = { S with a := S.a + c, b := decide (c < 2), o := nextD S.o (decide ((nv s S.a c : Int) < 1) || decide (12 < (nv s S.a c : Int))) S.a, m := nv s S.a c, dp := 2 } := by
  have h1 : pcC s S 2 = c := by unfold pcC; rw [hb, if_neg (by decide), hc]
  unfold monthS pcO pcN
  rw [h1, hb, Bool.false_or]
theorem dayS_eq {s : ByteArray} {S : Mst} {c : Nat} (hb : S.b = false) (hc : cnt s S.a 2 = c) : dayS s S = { S with a := S.a + c, b := decide (c < 2), o := nextD S.o (decide ((nv s S.a c : Int) < 1) || decide (((md S.y S.m : Nat) : Int) < (nv s S.a c : Int))) S.a, d := nv s S.a c, dp := 3 } := by
  have h1 : pcC s S 2 = c := by unfold pcC; rw [hb, if_neg (by decide), hc]
  unfold dayS pcO pcN
  rw [h1, hb, Bool.false_or]

theorem o8 (y m d : Nat) : nextD (nextD (nextD none (decide ((y : Int) < 1) || decide (9999 < (y : Int))) 0) (decide ((m : Int) < 1) || decide (12 < (m : Int))) 4) (decide ((d : Int) < 1) || decide (((md y m : Nat) : Int) < (d : Int))) 6 = ufO y m d := by
  unfold ufO uf nextD
  rw [Int.toNat_natCast, Int.toNat_natCast]
  generalize md y m = L
  by_cases p1 : (y : Int) < 1 ∨ 9999 < (y : Int)
  · have : (decide ((y : Int) < 1) || decide (9999 < (y : Int))) = true := by simpa using p1
    rw [this]
    simp [p1, pl]
  · have : (decide ((y : Int) < 1) || decide (9999 < (y : Int))) = false := by simpa using p1
    rw [this, if_neg p1]
    by_cases p2 : (m : Int) < 1 ∨ 12 < (m : Int)
    · have : (decide ((m : Int) < 1) || decide (12 < (m : Int))) = true := by simpa using p2
      rw [this, if_pos p2]
      simp [pl]
    · have : (decide ((m : Int) < 1) || decide (12 < (m : Int))) = false := by simpa using p2
      rw [this, if_neg p2]
      by_cases p3 : (d : Int) < 1 ∨ (L : Int) < (d : Int)
      · have : (decide ((d : Int) < 1) || decide ((L : Int) < (d : Int))) = true := by simpa using p3
        rw [this, if_pos p3]
        simp [pl]
      · have : (decide ((d : Int) < 1) || decide ((L : Int) < (d : Int))) = false := by simpa using p3
        rw [this, if_neg p3]
        simp
theorem o6 (y m : Nat) : nextD (nextD none (decide ((y : Int) < 1) || decide (9999 < (y : Int))) 0) (decide ((m : Int) < 1) || decide (12 < (m : Int))) 4 = ufO y m 1 := by
  rw [← o8 y m 1]
  unfold nextD
  by_cases p2 : (m : Int) < 1 ∨ 12 < (m : Int)
  · have : (decide ((m : Int) < 1) || decide (12 < (m : Int))) = true := by simpa using p2
    rw [this]
    by_cases p1 : (y : Int) < 1 ∨ 9999 < (y : Int)
    · have : (decide ((y : Int) < 1) || decide (9999 < (y : Int))) = true := by simpa using p1
      rw [this]; simp
    · have : (decide ((y : Int) < 1) || decide (9999 < (y : Int))) = false := by simpa using p1
      rw [this]; simp
  · have hm := md_28 y m (by omega) (by omega)
    have h3 : (decide (((1 : Nat) : Int) < 1) || decide (((md y m : Nat) : Int) < ((1 : Nat) : Int))) = false := by simp; omega
    rw [h3]; simp
theorem o4 (y : Nat) : nextD none (decide ((y : Int) < 1) || decide (9999 < (y : Int))) 0 = ufO y 1 1 := by
  rw [← o6 y 1]
  simp [nextD]

theorem more_all (s : ByteArray) {S : Mst} (h : S.p = 0) (hb : S.b = false) : fracS s (moreS s [hourS s, minuteS s, secondS s] S) = if 0 < cnt s S.a 2 then ck6 s S else S := by
  by_cases hc : 0 < cnt s S.a 2
  · rw [if_pos hc, more_go _ _ hb hc]
    rfl
  · rw [if_neg hc, more_stop _ (.inr (by omega)), frac_stop (.inl (by omega))]
end Go.Proofs.YtehgeninocbpeaaDoor.Tm
