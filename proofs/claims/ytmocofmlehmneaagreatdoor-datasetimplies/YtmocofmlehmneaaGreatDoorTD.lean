
import Derived.Test.YtmocofmlehmneaaGreatDoorTC
import Derived.Laws.BitsAll
import Derived.Deep.RegionHeld3
/-
  DERIVED. The document's tags and numbers of values, out of a line.
-/
namespace Go.Proofs.YtmocofmlehmneaaGreatDoor.Tb
open Go Go.Proofs Go.RowKit

/-- What a hexadecimal digit is worth. -/
def hexN (c : Nat) : Nat := if c ≤ 57 then c - 48 else c - 55
def isHex (c : Nat) : Bool := decide (48 ≤ c ∧ c ≤ 57) || decide (65 ≤ c ∧ c ≤ 70)

theorem hexN_lt {c : Nat} (h : isHex c = true) : hexN c < 16 := by
  unfold isHex at h
  simp only [Bool.or_eq_true, decide_eq_true_eq] at h
  unfold hexN
  split <;> omega

set_option maxRecDepth 100000 in
theorem hex_any (w : World) (c : Nat) (h : isHex c = true) : Calls Tryz.prog 59 #[.int .u8 (c : Int)] w fun e w' => e = .returned (.int .i64 (hexN c : Nat)) ∧ w = w' := by
  unfold isHex at h
  simp only [Bool.or_eq_true, decide_eq_true_eq] at h
  rcases h with ⟨h1, h2⟩ | ⟨h1, h2⟩
  · have hx : hexN c = c - 48 := by unfold hexN; rw [if_pos h2]
    rw [hx]
    clear hx
    go_enter Tryz.func59, Tryz.ntmps59
    go_wp2
    go_ret
    exact ⟨by simp; omega, rfl⟩
  · have hx : hexN c = c - 55 := by unfold hexN; rw [if_neg (by omega)]
    rw [hx]
    clear hx
    go_enter Tryz.func59, Tryz.ntmps59
    go_wp2
    go_ret
    exact ⟨by simp; omega, rfl⟩

/-- A line's tag, of so many signs. -/
def tagL (L : List Nat) : Nat → Nat
  | 0 => 0
  | i + 1 => if i = 4 then tagL L i else 16 * tagL L i + (if L.getD i 0 = 120 then 0 else hexN (L.getD i 0))

/-- The signs of a tag are digits, or x. -/
def tagOk (L : List Nat) : Bool := (List.range 9).all fun i => decide (i = 4) || decide (L.getD i 0 = 120) || isHex (L.getD i 0)

theorem tagOk_at {L : List Nat} (h : tagOk L = true) {i : Nat} (hi : i < 9) (h4 : i ≠ 4) (hx : L.getD i 0 ≠ 120) : isHex (L.getD i 0) = true := by
  have := List.all_eq_true.1 h i (List.mem_range.2 hi)
  simp only [Bool.or_eq_true, decide_eq_true_eq] at this
  rcases this with (h1 | h1) | h1
  · exact absurd h1 h4
  · exact absurd h1 hx
  · exact h1

theorem tagL_lt {L : List Nat} (h : tagOk L = true) : ∀ i, i ≤ 9 → tagL L i < 16 ^ (if i ≤ 4 then i else i - 1)
  | 0, _ => by simp [tagL]
  | i + 1, hi => by
    have ih := tagL_lt h i (by omega)
    rw [tagL]
    by_cases h4 : i = 4
    · subst h4
      simpa using ih
    · rw [if_neg h4]
      have hd : (if L.getD i 0 = 120 then 0 else hexN (L.getD i 0)) < 16 := by
        split
        · decide
        · exact hexN_lt (tagOk_at h (by omega) h4 (by assumption))
      have e : (if i + 1 ≤ 4 then i + 1 else i + 1 - 1) = (if i ≤ 4 then i else i - 1) + 1 := by
        split <;> split <;> omega
      rw [e, Nat.pow_succ]
      omega

theorem tagL_small {L : List Nat} (h : tagOk L = true) {i : Nat} (hi : i ≤ 8) : tagL L i < 268435456 := by
  have := tagL_lt h i (by omega)
  refine Nat.lt_of_lt_of_le this ?_
  exact Nat.pow_le_pow_right (n := 16) (i := (if i ≤ 4 then i else i - 1)) (j := 7) (by decide) (by split <;> omega)

theorem or_digit (a d : Nat) (ha : a < 268435456) (hd : d < 16) : bits .or .u32 (((16 * a : Nat) : Int)) (d : Int) = ((16 * a + d : Nat) : Int) := by
  rw [u32_or_nat _ _ (by omega) (by omega), show (16 : Nat) = 2 ^ 4 from rfl, ← Nat.two_pow_add_eq_or_of_lt (by omega)]

/-- A line's tag, and its mask. -/
def maskL (L : List Nat) : Nat := if L.getD 2 0 = 120 then 4293001215 else 4294967295

set_option maxRecDepth 100000 in
set_option maxHeartbeats 1000000 in
theorem tag_any (w : World) (S : ByteArray) (hs : 9 ≤ S.size) (hl : S.size ≤ 1000) (hok : tagOk (bts S) = true) : Calls Tryz.prog 42 #[.string S] w fun e w' => e = .returned (.tuple #[.int .u32 (tagL (bts S) 9 : Nat), .int .u32 (maskL (bts S) : Nat)]) ∧ w = w' := by
  have HOK : Hid (tagOk (bts S) = true) := hok
  clear hok
  go_enter Tryz.func42, Tryz.ntmps42
  go_wp2
  go_loop [4, 5] (fun x y => ∃ i t : Nat, x = .int .u32 (t : Int) ∧ y = .int .i64 (i : Int) ∧ i ≤ 9 ∧ Hid (tagL (bts S) i = t)) (fun _ y => 100 - (intOf y).toNat)
  case atStart => exact ⟨0, 0, rfl, rfl, by omega, rfl⟩
  case round =>
    obtain ⟨i, t, rfl, rfl, hi, HT⟩ := hrel
    by_cases hi9 : i < 9
    · have hsz : i < S.size := by omega
      have hb := bts_get S i hsz
      by_cases h4 : i = 4
      · have HN : Hid (tagL (bts S) (i + 1) = t) := by show _ = _; rw [tagL, if_pos h4]; exact HT.out
        have h4i : ((i : Int) != 4) = false := by rw [h4]; rfl
        have HI : Hid (i = 4) := h4
        clear h4 hb
        go_wp2
        exact ⟨⟨i + 1, t, rfl, by simp, by have := HI.out; omega, HN⟩, by simp [intOf]; have := HI.out; omega⟩
      · have hsm := tagL_small HOK.out (i := i) (by omega)
        rw [HT.out] at hsm
        have h4i : ((i : Int) != 4) = true := by exact bne_iff_ne.2 (by omega)
        have hsh : ((t : Int) * 16) % 4294967296 = ((16 * t : Nat) : Int) := by omega
        by_cases hx : (bts S).getD i 0 = 120
        · have HN : Hid (tagL (bts S) (i + 1) = 16 * t) := by show _ = _; rw [tagL, if_neg h4, if_pos hx, HT.out]; rfl
          have hxi : ((S[i].toNat : Int) != 120) = false := by rw [hb, hx]; rfl
          clear hx hb
          go_wp2
          exact ⟨⟨i + 1, 16 * t, by simp; omega, by simp, by omega, HN⟩, by simp [intOf]; omega⟩
        · have hh := tagOk_at HOK.out hi9 h4 hx
          have HN : Hid (tagL (bts S) (i + 1) = 16 * t + hexN ((bts S).getD i 0)) := by show _ = _; rw [tagL, if_neg h4, if_neg hx, HT.out]
          have hxi : ((S[i].toNat : Int) != 120) = true := by rw [hb]; exact bne_iff_ne.2 (by omega)
          have c42 := hex_any w ((bts S).getD i 0) hh
          have hor := or_digit t (hexN ((bts S).getD i 0)) hsm (hexN_lt hh)
          have hhl := hexN_lt hh
          rw [← hb] at c42 hor hhl HN
          generalize hexN S[i].toNat = d at c42 hor hhl HN
          have HOR : Hid (bits .or .u32 ((t : Int) * 16) (d : Int) = ((16 * t + d : Nat) : Int)) := by show _ = _; rw [show (t : Int) * 16 = ((16 * t : Nat) : Int) by omega]; exact hor
          clear hx hb hh hor
          go_wp2_with (first | (go_at_call 59; refine c42.mono ?_; rintro e w' ⟨rfl, rfl⟩) | fail)
          exact ⟨⟨i + 1, 16 * t + d, by rw [HOR.out], by simp, by omega, HN⟩, by simp [intOf]; omega⟩
    · obtain rfl : i = 9 := by omega
      have hb := bts_get S 2 (by omega)
      have h2 : 2 < S.size := by omega
      by_cases hx : (bts S).getD 2 0 = 120
      · have hxi : ((S[2].toNat : Int) == 120) = true := by rw [hb, hx]; rfl
        have HM : Hid (maskL (bts S) = 4293001215) := by show _ = _; unfold maskL; rw [if_pos hx]
        clear hx hb
        go_wp2
        refine bodyPost_ret (v := .tuple #[.int .u32 (t : Int), .int .u32 4293001215]) (by simp [results, Tryz.results42, go_sem]) rfl ⟨?_, rfl⟩
        rw [HM.out, HT.out]
        rfl
      · have hxi : ((S[2].toNat : Int) == 120) = false := by rw [hb]; exact beq_eq_false_iff_ne.2 (by omega)
        have HM : Hid (maskL (bts S) = 4294967295) := by show _ = _; unfold maskL; rw [if_neg hx]
        clear hx hb
        go_wp2
        refine bodyPost_ret (v := .tuple #[.int .u32 (t : Int), .int .u32 4294967295]) (by simp [results, Tryz.results42, go_sem]) rfl ⟨?_, rfl⟩
        rw [HM.out, HT.out]
        rfl

/-- Digits alone, few of them. -/
def digs (S : ByteArray) : Bool := decide (S.size ≤ 9) && (bts S).all (fun x => decide (48 ≤ x) && decide (x ≤ 57))

theorem digs_any (w : World) (S : ByteArray) (h : digs S = true) : Calls Tryz.prog 64 #[.string S] w fun e w' => e = .returned (.int .i64 (decL (bts S) : Nat)) ∧ w = w' := by
  unfold digs at h
  simp only [Bool.and_eq_true, decide_eq_true_eq, List.all_eq_true] at h
  exact dec_any w S h.1 h.2

/-- How many values: at least, at most. -/
def numL (S : ByteArray) : Nat × Nat := if S.size = 1 then (decL (bts S), decL (bts S)) else if (bts S).getD 2 0 = 110 then (decL (bts (S.extract 0 1)), 0) else (decL (bts (S.extract 0 1)), decL (bts (S.extract 2 S.size)))

def numOk (S : ByteArray) : Bool := (decide (S.size = 1) && digs S) || (decide (S.size = 3) && digs (S.extract 0 1) && (decide ((bts S).getD 2 0 = 110) || digs (S.extract 2 S.size)))

set_option maxRecDepth 100000 in
theorem counts_any (w : World) (S : ByteArray) (h : numOk S = true) : Calls Tryz.prog 62 #[.string S] w fun e w' => e = .returned (.tuple #[.int .i64 ((numL S).1 : Nat), .int .i64 ((numL S).2 : Nat)]) ∧ Below w.heap.size w w' := by
  unfold numOk at h
  simp only [Bool.or_eq_true, Bool.and_eq_true, decide_eq_true_eq] at h
  rcases h with ⟨h1, hd⟩ | ⟨⟨h3, hd⟩, h⟩
  · have hn : numL S = (decL (bts S), decL (bts S)) := by unfold numL; rw [if_pos h1]
    rw [hn]
    have c := fun W => digs_any W S hd
    have h1i : ((S.size : Int) == 1) = true := by rw [h1]; rfl
    clear hn hd h1
    go_enter Tryz.func62, Tryz.ntmps62
    go_wp2_with (first | (go_at_call 64; refine (c _).mono ?_; rintro e w' ⟨rfl, rfl⟩) | fail)
    exact bodyPost_ret (by simp [results, Tryz.results62, go_sem]) rfl ⟨rfl, Below.refl _ _⟩
  · have h1i : ((S.size : Int) == 1) = false := by rw [h3]; rfl
    have h3i : (3 : Int) ≤ (S.size : Int) := by omega
    have hb := bts_get S 2 (by omega)
    have h2 : 2 < S.size := by omega
    have c1 := fun W => digs_any W _ hd
    by_cases hx : (bts S).getD 2 0 = 110
    · have hn : numL S = (decL (bts (S.extract 0 1)), 0) := by unfold numL; rw [if_neg (by omega), if_pos hx]
      rw [hn]
      have hxi : ((S[2].toNat : Int) == 110) = true := by rw [hb, hx]; rfl
      clear hn hd h hx hb
      go_enter Tryz.func62, Tryz.ntmps62
      go_wp2_with (first | (go_at_call 64; refine (c1 _).mono ?_; rintro e w' ⟨rfl, rfl⟩) | fail)
      exact bodyPost_ret (by simp [results, Tryz.results62, go_sem]) rfl ⟨rfl, Below.refl _ _⟩
    · have hn : numL S = (decL (bts (S.extract 0 1)), decL (bts (S.extract 2 S.size))) := by unfold numL; rw [if_neg (by omega), if_neg hx]
      rw [h3] at hn h
      rw [hn]
      have hxi : ((S[2].toNat : Int) == 110) = false := by rw [hb]; exact beq_eq_false_iff_ne.2 (by omega)
      have cd : ∀ (A : ByteArray) (W : World), A = S.extract 0 1 ∨ A = S.extract 2 3 → Calls Tryz.prog 64 #[.string A] W fun e w' => e = .returned (.int .i64 (decL (bts A) : Nat)) ∧ W = w' := by
        intro A W hA
        rcases hA with hA | hA
        · rw [hA]; exact digs_any W _ hd
        · rw [hA]; exact digs_any W _ (h.resolve_left hx)
      have h1l : (1 : Int) ≤ (S.size : Int) := by omega
      have h2l : (2 : Int) ≤ (S.size : Int) := by omega
      clear hn hd h hx hb c1
      go_enter Tryz.func62, Tryz.ntmps62
      go_wp2
      refine wp_region_noPanic ?_
      go_region_held3 (fun _ => True) (trivial) (first | (go_at_call 64; refine (cd _ _ ?_).mono ?_; (focus (first | exact .inl rfl | exact .inr rfl)); rintro e w' ⟨rfl, rfl⟩))
      all_goals refine NoPanic.normal ?_
      all_goals go_wp2
      all_goals exact bodyPost_ret (by simp [results, Tryz.results62, go_sem]) rfl ⟨rfl, (Below.refl _ _).drew⟩
end Go.Proofs.YtmocofmlehmneaaGreatDoor.Tb
