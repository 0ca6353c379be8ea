import Derived.Test.YteglammdigmmfaaGreatDoorTC
import Derived.Laws.BitsAll
import Derived.Deep.RegionHeld3
/-
  DERIVED. The document's tags and numbers of values, out of a line.
-/
namespace Go.Proofs.YteglammdigmmfaaGreatDoor.Tb
open Go Go.Proofs Go.RowKit

/-- What a hexadecimal digit is worth. -/
def hexN (c : Nat) : Nat := if c ≤ 57 then c - 48 else c - 55
def isHex (c : Nat) : Bool := decide (48 ≤ c ∧ c ≤ 57) || decide (65 ≤ c ∧ c ≤ 70)

theorem hexN_lt {c : Nat} (h : isHex c = true) : hexN c < 16 := by
  unfold isHex at h
  simp only [Bool.or_eq_true, decide_eq_true_eq] at h
  unfold hexN
  split <;> omega

set_option maxRecDepth 100000 in
theorem hex_any (w : World) (c : Nat) (h : isHex c = true) : Calls Tryz.prog 67 #[.int .u8 (c : Int)] w fun e w' => e = .returned (.int .i64 (hexN c : Nat)) ∧ w = w' := by
  unfold isHex at h
  simp only [Bool.or_eq_true, decide_eq_true_eq] at h
  rcases h with ⟨h1, h2⟩ | ⟨h1, h2⟩
  · have hx : hexN c = c - 48 := by unfold hexN; rw [if_pos h2]
    rw [hx]
    clear hx
    go_enter Tryz.func67, Tryz.ntmps67
    go_wp2
    go_ret
    exact ⟨by simp; omega, rfl⟩
  · have hx : hexN c = c - 55 := by unfold hexN; rw [if_neg (by omega)]
    rw [hx]
    clear hx
    go_enter Tryz.func67, Tryz.ntmps67
    go_wp2
    go_ret
    exact ⟨by simp; omega, rfl⟩

/-- A line's tag, of so many signs. -/
def tagL (L : List Nat) : Nat → Nat
  | 0 => 0
  | i + 1 => if i = 4 then tagL L i else 16 * tagL L i + (if L.getD i 0 = 120 then 0 else hexN (L.getD i 0))

/-- The signs of a tag are digits, or x. -/
def tagOk (L : List Nat) : Bool := (List.range 9).all fun i => decide (i = 4) || decide (L.getD i 0 = 120) || isHex (L.getD i 0)

theorem tagOk_at {L : List Nat} (h : tagOk L = true) {i : Nat} (hi : i < 9) (h4 : i ≠ 4) (hx : L.getD i 0 ≠ 120) : isHex (L.getD i 0) = true := by
  have := List.all_eq_true.1 h i (List.mem_range.2 hi)
  simp only [Bool.or_eq_true, decide_eq_true_eq] at this
  rcases this with (h1 | h1) | h1
  · exact absurd h1 h4
  · exact absurd h1 hx
  · exact h1

theorem tagL_lt {L : List Nat} (h : tagOk L = true) : ∀ i, i ≤ 9 → tagL L i < 16 ^ (if i ≤ 4 then i else i - 1)
  | 0, _ => by simp [tagL]
  | i + 1, hi => by
    have ih := tagL_lt h i (by omega)
    rw [tagL]
    by_cases h4 : i = 4
    · subst h4
      simpa using ih
    · rw [if_neg h4]
      have hd : (if L.getD i 0 = 120 then 0 else hexN (L.getD i 0)) < 16 := by
        split
        · decide
        · exact hexN_lt (tagOk_at h (by omega) h4 (by assumption))
      have e : (if i + 1 ≤ 4 then i + 1 else i + 1 - 1) = (if i ≤ 4 then i else i - 1) + 1 := by
        split <;> split <;> omega
      rw [e, Nat.pow_succ]
      omega

theorem tagL_small {L : List Nat} (h : tagOk L = true) {i : Nat} (hi : i ≤ 8) : tagL L i < 268435456 := by
  have := tagL_lt h i (by omega)
  refine Nat.lt_of_lt_of_le this ?_
  exact Nat.pow_le_pow_right (n := 16) (i := (if i ≤ 4 then i else i - 1)) (j := 7) (by decide) (by split <;> omega)

theorem or_digit (a d : Nat) (ha : a < 268435456) (hd : d < 16) : bits .or .u32 (((16 * a : Nat) : Int)) (d : Int) = ((16 * a + d : Nat) : Int) := by
  rw [u32_or_nat _ _ (by omega) (by omega), show (16 : Nat) = 2 ^ 4 from rfl, ← Nat.two_pow_add_eq_or_of_lt (by omega)]

/-- A line's tag, and its mask. -/
def maskL (L : List Nat) : Nat := if L.getD 2 0 = 120 then 4293001215 else 4294967295

set_option maxRecDepth 100000 in
set_option maxHeartbeats 1000000 in
theorem tag_any (w : World) (S : ByteArray) (hs : 9 ≤ S.size) (hl : S.size ≤ 1000) (hok : tagOk (bts S) = true) : Calls Tryz.prog 54 #[.string S] w fun e w' => e = .returned (.tuple #[.int .u32 (tagL (bts S) 9 : Nat), .int .u32 (maskL (bts S) : Nat)]) ∧ w = w' := by
  have HOK : Hid (tagOk (bts S) = true) := hok
  clear hok
  go_enter Tryz.func54, Tryz.ntmps54
  go_wp2
  go_loop [4, 5] (fun x y => ∃ i t : Nat, x = .int .u32 (t : Int) ∧ y = .int .i64 (i : Int) ∧ i ≤ 9 ∧ Hid (tagL (bts S) i = t)) (fun _ y => 100 - (intOf y).toNat)
  case atStart => exact ⟨0, 0, rfl, rfl, by omega, rfl⟩
  case round =>
    obtain ⟨i, t, rfl, rfl, hi, HT⟩ := hrel
    by_cases hi9 : i < 9
    · have hsz : i < S.size := by omega
      have hb := bts_get S i hsz
      by_cases h4 : i = 4
      · have HN : Hid (tagL (bts S) (i + 1) = t) := by show _ = _; rw [tagL, if_pos h4]; exact HT.out
        have h4i : ((i : Int) != 4) = false := by rw [h4]; rfl
        have HI : Hid (i = 4) := h4
        clear h4 hb
        go_wp2
        exact ⟨⟨i + 1, t, rfl, by simp, by have := HI.out; omega, HN⟩, by simp [intOf]; have := HI.out; omega⟩
      · have hsm := tagL_small HOK.out (i := i) (by omega)
        rw [HT.out] at hsm
        have h4i : ((i : Int) != 4) = true := by exact bne_iff_ne.2 (by omega)
        have hsh : ((t : Int) * 16) % 4294967296 = ((16 * t : Nat) : Int) := by omega
        by_cases hx : (bts S).getD i 0 = 120
        · have HN : Hid (tagL (bts S) (i + 1) = 16 * t) := by show _ = _; rw [tagL, if_neg h4, if_pos hx, HT.out]; rfl
          have hxi : ((S[i].toNat : Int) != 120) = false := by rw [hb, hx]; rfl
          clear hx hb
          go_wp2
          exact ⟨⟨i + 1, 16 * t, by simp; omega, by simp, by omega, HN⟩, by simp [intOf]; omega⟩
        · have hh := tagOk_at HOK.out hi9 h4 hx
          have HN : Hid (tagL (bts S) (i + 1) = 16 * t + hexN ((bts S).getD i 0)) := by show _ = _; rw [tagL, if_neg h4, if_neg hx, HT.out]
          have hxi : ((S[i].toNat : Int) != 120) = true := by rw [hb]; exact bne_iff_ne.2 (by omega)
          have c42 := hex_any w ((bts S).getD i 0) hh
          have hor := or_digit t (hexN ((bts S).getD i 0)) hsm (hexN_lt hh)
          have hhl := hexN_lt hh
          rw [← hb] at c42 hor hhl HN
          generalize hexN S[i].toNat = d at c42 hor hhl HN
          have HOR : Hid (bits .or .u32 ((t : Int) * 16) (d : Int) = ((16 * t + d : Nat) : Int)) := by show _ = _; rw [show (t : Int) * 16 = ((16 * t : Nat) : Int) by omega]; exact hor
          clear hx hb hh hor
          go_wp2_with (first | (go_at_call 67; refine c42.mono ?_; rintro e w' ⟨rfl, rfl⟩) | fail)
          exact ⟨⟨i + 1, 16 * t + d, by rw [HOR.out], by simp, by omega, HN⟩, by simp [intOf]; omega⟩
    · obtain rfl : i = 9 := by omega
      have hb := bts_get S 2 (by omega)
      have h2 : 2 < S.size := by omega
      by_cases hx : (bts S).getD 2 0 = 120
      · have hxi : ((S[2].toNat : Int) == 120) = true := by rw [hb, hx]; rfl
        have HM : Hid (maskL (bts S) = 4293001215) := by show _ = _; unfold maskL; rw [if_pos hx]
        clear hx hb
        go_wp2
        refine bodyPost_ret (v := .tuple #[.int .u32 (t : Int), .int .u32 4293001215]) (by simp [results, Tryz.results54, go_sem]) rfl ⟨?_, rfl⟩
        rw [HM.out, HT.out]
        rfl
      · have hxi : ((S[2].toNat : Int) == 120) = false := by rw [hb]; exact beq_eq_false_iff_ne.2 (by omega)
        have HM : Hid (maskL (bts S) = 4294967295) := by show _ = _; unfold maskL; rw [if_neg hx]
        clear hx hb
        go_wp2
        refine bodyPost_ret (v := .tuple #[.int .u32 (t : Int), .int .u32 4294967295]) (by simp [results, Tryz.results54, go_sem]) rfl ⟨?_, rfl⟩
        rw [HM.out, HT.out]
        rfl

/-- Digits alone, few of them. -/
def digs (S : ByteArray) : Bool := decide (S.size ≤ 9) && (bts S).all (fun x => decide (48 ≤ x) && decide (x ≤ 57))

theorem digs_any (w : World) (S : ByteArray) (h : digs S = true) : Calls Tryz.prog 36 #[.string S] w fun e w' => e = .returned (.int .i64 (decL (bts S) : Nat)) ∧ w = w' := by
  unfold digs at h
  simp only [Bool.and_eq_true, decide_eq_true_eq, List.all_eq_true] at h
  exact dec_any w S h.1 h.2

/-- How many values: at least, at most. -/
def numL (S : ByteArray) : Nat × Nat := if S.size = 1 then (decL (bts S), decL (bts S)) else if (bts S).getD 2 0 = 110 then (decL (bts (S.extract 0 1)), 0) else (decL (bts (S.extract 0 1)), decL (bts (S.extract 2 S.size)))

def numOk (S : ByteArray) : Bool := (decide (S.size = 1) && digs S) || (decide (S.size = 3) && digs (S.extract 0 1) && (decide ((bts S).getD 2 0 = 110) || digs (S.extract 2 S.size)))

set_option maxRecDepth 100000 in
theorem counts_any (w : World) (S : ByteArray) (h : numOk S = true) : Calls Tryz.prog 69 #[.string S] w fun e w' => e = .returned (.tuple #[.int .i64 ((numL S).1 : Nat), .int .i64 ((numL S).2 : Nat)]) ∧ Below w.heap.size w w' := by
  unfold numOk at h
  simp only [Bool.or_eq_true, Bool.and_eq_true, decide_eq_true_eq] at h
  rcases h with ⟨h1, hd⟩ | ⟨⟨h3, hd⟩, h⟩
  · have hn : numL S = (decL (bts S), decL (bts S)) := by unfold numL; rw [if_pos h1]
    rw [hn]
    have c := fun W => digs_any W S hd
    have h1i : ((S.size : Int) == 1) = true := by rw [h1]; rfl
    clear hn hd h1
    go_enter Tryz.func69, Tryz.ntmps69
    go_wp2_with (first | (go_at_call 36; refine (c _).mono ?_; rintro e w' ⟨rfl, rfl⟩) | fail)
    exact bodyPost_ret (by simp [results, Tryz.results69, go_sem]) rfl ⟨rfl, Below.refl _ _⟩
  · have h1i : ((S.size : Int) == 1) = false := by rw [h3]; rfl
    have h3i : (3 : Int) ≤ (S.size : Int) := by omega
    have hb := bts_get S 2 (by omega)
    have h2 : 2 < S.size := by omega
    have c1 := fun W => digs_any W _ hd
    by_cases hx : (bts S).getD 2 0 = 110
    · have hn : numL S = (decL (bts (S.extract 0 1)), 0) := by unfold numL; rw [if_neg (by omega), if_pos hx]
      rw [hn]
      have hxi : ((S[2].toNat : Int) == 110) = true := by rw [hb, hx]; rfl
      clear hn hd h hx hb
      go_enter Tryz.func69, Tryz.ntmps69
      go_wp2_with (first | (go_at_call 36; refine (c1 _).mono ?_; rintro e w' ⟨rfl, rfl⟩) | fail)
      exact bodyPost_ret (by simp [results, Tryz.results69, go_sem]) rfl ⟨rfl, Below.refl _ _⟩
    · have hn : numL S = (decL (bts (S.extract 0 1)), decL (bts (S.extract 2 S.size))) := by unfold numL; rw [if_neg (by omega), if_neg hx]
      rw [h3] at hn h
      rw [hn]
      have hxi : ((S[2].toNat : Int) == 110) = false := by rw [hb]; exact beq_eq_false_iff_ne.2 (by omega)
      have cd : ∀ (A : ByteArray) (W : World), A = S.extract 0 1 ∨ A = S.extract 2 3 → Calls Tryz.prog 36 #[.string A] W fun e w' => e = .returned (.int .i64 (decL (bts A) : Nat)) ∧ W = w' := by
        intro A W hA
        rcases hA with hA | hA
        · rw [hA]; exact digs_any W _ hd
        · rw [hA]; exact digs_any W _ (h.resolve_left hx)
      have h1l : (1 : Int) ≤ (S.size : Int) := by omega
      have h2l : (2 : Int) ≤ (S.size : Int) := by omega
      clear hn hd h hx hb c1
      go_enter Tryz.func69, Tryz.ntmps69
      go_wp2
      refine wp_region_noPanic ?_
      go_region_held3 (fun _ => True) (trivial) (first | (go_at_call 36; refine (cd _ _ ?_).mono ?_; (focus (first | exact .inl rfl | exact .inr rfl)); rintro e w' ⟨rfl, rfl⟩))
      all_goals refine NoPanic.normal ?_
      all_goals go_wp2
      all_goals exact bodyPost_ret (by simp [results, Tryz.results69, go_sem]) rfl ⟨rfl, (Below.refl _ _).drew⟩
end Go.Proofs.YteglammdigmmfaaGreatDoor.Tb

/-
  DERIVED. A line of the document's dictionary, as an entry.
-/
namespace Go.Proofs.YteglammdigmmfaaGreatDoor.Tb
open Go Go.Proofs Go.RowKit

/-- A line's word. -/
def wd (S : ByteArray) (j : Nat) : ByteArray := S.extract (wordL (bts S) (S.size + 2) j 0 0).1 (wordL (bts S) (S.size + 2) j 0 0).2

/-- An entry, still empty, as it lies in memory. -/
structure E6 (W : World) (g : Nat) : Prop where
  c0 : W.cell? ⟨g, 0, none⟩ = some (.int .u32 0)
  c1 : W.cell? ⟨g, 1, none⟩ = some (.int .u32 0)
  c2 : W.cell? ⟨g, 2, none⟩ = some (.int .i64 0)
  c3 : W.cell? ⟨g, 3, none⟩ = some (.string ⟨#[]⟩)
  c4 : W.cell? ⟨g, 4, none⟩ = some (.int .i64 0)
  c5 : W.cell? ⟨g, 5, none⟩ = some (.int .i64 0)
  cf : ∀ i, W.frozen? ⟨g, i, none⟩ = false

theorem E6.next {W W' : World} {g : Nat} (h : E6 W g) (hb : Below W.heap.size W W') : E6 W' g :=
  ⟨(hb.cell (cell_lt h.c0)).trans h.c0, (hb.cell (cell_lt h.c1)).trans h.c1, (hb.cell (cell_lt h.c2)).trans h.c2, (hb.cell (cell_lt h.c3)).trans h.c3, (hb.cell (cell_lt h.c4)).trans h.c4, (hb.cell (cell_lt h.c5)).trans h.c5, fun i => (hb.frozen (p := ⟨g, i, none⟩) (show g < _ from cell_lt h.c0)).trans (h.cf i)⟩

theorem E6.sets {W : World} {g : Nat} (h : E6 W g) (x0 x1 x2 x3 x4 x5 : Value) :
    let U := (((((W.setCell ⟨g, 0, none⟩ x0).setCell ⟨g, 1, none⟩ x1).setCell ⟨g, 2, none⟩ x2).setCell ⟨g, 3, none⟩ x3).setCell ⟨g, 4, none⟩ x4).setCell ⟨g, 5, none⟩ x5
    U.cell? ⟨g, 0, none⟩ = some x0 ∧ U.cell? ⟨g, 1, none⟩ = some x1 ∧ U.cell? ⟨g, 2, none⟩ = some x2 ∧ U.cell? ⟨g, 3, none⟩ = some x3 ∧ U.cell? ⟨g, 4, none⟩ = some x4 ∧ U.cell? ⟨g, 5, none⟩ = some x5 := by
  refine ⟨?_, ?_, ?_, ?_, ?_, ?_⟩
  · exact (cell_set_ne (by decide)).trans ((cell_set_ne (by decide)).trans ((cell_set_ne (by decide)).trans ((cell_set_ne (by decide)).trans ((cell_set_ne (by decide)).trans (cell_set_eq h.c0)))))
  · exact (cell_set_ne (by decide)).trans ((cell_set_ne (by decide)).trans ((cell_set_ne (by decide)).trans ((cell_set_ne (by decide)).trans (cell_set_eq ((cell_set_ne (by decide)).trans h.c1)))))
  · exact (cell_set_ne (by decide)).trans ((cell_set_ne (by decide)).trans ((cell_set_ne (by decide)).trans (cell_set_eq ((cell_set_ne (by decide)).trans ((cell_set_ne (by decide)).trans h.c2)))))
  · exact (cell_set_ne (by decide)).trans ((cell_set_ne (by decide)).trans (cell_set_eq ((cell_set_ne (by decide)).trans ((cell_set_ne (by decide)).trans ((cell_set_ne (by decide)).trans h.c3)))))
  · exact (cell_set_ne (by decide)).trans (cell_set_eq ((cell_set_ne (by decide)).trans ((cell_set_ne (by decide)).trans ((cell_set_ne (by decide)).trans ((cell_set_ne (by decide)).trans h.c4)))))
  · exact cell_set_eq ((cell_set_ne (by decide)).trans ((cell_set_ne (by decide)).trans ((cell_set_ne (by decide)).trans ((cell_set_ne (by decide)).trans ((cell_set_ne (by decide)).trans h.c5)))))

/-- A line's entry, as a value. -/
def entV (S : ByteArray) : Value := .agg #[.int .u32 (tagL (bts S) 9 : Nat), .int .u32 (maskL (bts S) : Nat), .int .i64 (fndW (wd S 1) 28 1 : Nat), .string (wd S 3), .int .i64 ((numL (wd S 2)).1 : Nat), .int .i64 ((numL (wd S 2)).2 : Nat)]

set_option maxRecDepth 100000 in
set_option maxHeartbeats 1000000 in
theorem entry_any (w : World) (S : ByteArray) (hs : 9 ≤ S.size) (hl : S.size ≤ 1000) (h1 : tagOk (bts S) = true) (h2 : numOk (wd S 2) = true) : Calls Tryz.prog 55 #[.string S] w fun e w' => e = .returned (entV S) ∧ Below w.heap.size w w' := by
  have c27 := fun W => tag_any W S hs hl h1
  obtain ⟨WF, hWF⟩ : ∃ WF : Int → ByteArray, ∀ i, WF i = wd S i.toNat := ⟨fun i => wd S i.toNat, fun _ => rfl⟩
  have w1 : WF 1 = wd S 1 := hWF 1
  have w2 : WF 2 = wd S 2 := hWF 2
  have w3 : WF 3 = wd S 3 := hWF 3
  have cw : ∀ (i : Int) W, 0 ≤ i ∧ i ≤ 100 → Calls Tryz.prog 37 #[.string S, .int .i64 i] W fun e w' => e = .returned (.string (WF i)) ∧ W = w' := by
    intro i W hi
    have := word_any W S i.toNat (by omega) (by omega)
    rw [show ((i.toNat : Nat) : Int) = i by omega] at this
    rw [hWF]
    exact this
  have c28 := fun W => vrof_any W (wd S 1)
  have c30 := fun W => counts_any W (wd S 2) h2
  unfold entV
  rw [← w1, ← w2, ← w3]
  rw [← w1] at c28
  rw [← w2] at c30
  generalize tagL (bts S) 9 = T at c27 ⊢
  generalize maskL (bts S) = M at c27 ⊢
  generalize fndW (WF 1) 28 1 = V at c28 ⊢
  generalize (numL (WF 2)).1 = L1 at c30 ⊢
  generalize (numL (WF 2)).2 = L2 at c30 ⊢
  clear hWF w1 w2 w3 h1 h2
  obtain ⟨W1, hW1⟩ : ∃ W1, w.alloc (.cells #[.int .u32 0, .int .u32 0, .int .i64 0, .string ⟨#[]⟩, .int .i64 0, .int .i64 0] 62) = W1 := ⟨_, rfl⟩
  have HB1 : Hid (Below w.heap.size w W1) := hW1 ▸ (Below.refl _ _).alloc (Nat.le_refl _) _
  have HE1 : Hid (E6 W1 w.heap.size) := by
    rw [← hW1]
    exact ⟨by simp, by simp, by simp, by simp, by simp, by simp, fun i => by simp⟩
  go_enter Tryz.func55, Tryz.ntmps55
  go_wp2_with (first | (go_at_call 54; refine (c27 _).mono ?_; rintro e w' ⟨rfl, rfl⟩) | (go_at_call 37; refine (cw _ _ ?_).mono ?_; (focus omega); rintro e w' ⟨rfl, rfl⟩) | (go_at_call 68; fail))
  refine (c28 W1).mono ?_
  rintro e W2 ⟨fa, fn, fc, fe, rfl, hb2⟩
  have HB2 : Hid (Below w.heap.size w W2) := HB1.out.trans (hb2.mono HB1.out.size)
  have HE2 : Hid (E6 W2 w.heap.size) := HE1.out.next hb2
  clear hb2 c28 c27 HE1 HB1 hW1
  go_wp2_with (first | (go_at_call 37; refine (cw _ _ ?_).mono ?_; (focus omega); rintro e w' ⟨rfl, rfl⟩) | (go_at_call 69; fail))
  obtain ⟨W3, hW3⟩ : ∃ W3, W2.alloc (.cells #[.slice fa fn fc, .int .i64 fe] 31) = W3 := ⟨_, rfl⟩
  have hb3 : Below W2.heap.size W2 W3 := hW3 ▸ (Below.refl _ _).alloc (Nat.le_refl _) _
  rw [hW3]
  have HB3 : Hid (Below w.heap.size w W3) := HB2.out.trans (hb3.mono HB2.out.size)
  have HE3 : Hid (E6 W3 w.heap.size) := HE2.out.next hb3
  clear hb3 hW3 HE2 HB2
  refine (c30 W3).mono ?_
  rintro e W4 ⟨rfl, hb4⟩
  have HB4 : Hid (Below w.heap.size w W4) := HB3.out.trans (hb4.mono HB3.out.size)
  have HE4 : Hid (E6 W4 w.heap.size) := HE3.out.next hb4
  obtain ⟨e0, e1, e2, e3, e4, e5, ef⟩ := HE4.out
  clear hb4 c30 HE3 HB3
  go_wp2_with (first | (go_at_call 37; refine (cw _ _ ?_).mono ?_; (focus omega); rintro e w' ⟨rfl, rfl⟩) | fail)
  have hU := HE4.out.sets (.int .u32 (T : Int)) (.int .u32 (M : Int)) (.int .i64 (V : Int)) (.string (WF 3)) (.int .i64 (L1 : Int)) (.int .i64 (L2 : Int))
  simp only at hU
  obtain ⟨u0, u1, u2, u3, u4, u5⟩ := hU
  refine bodyPost_ret (v := .agg #[.int .u32 (T : Int), .int .u32 (M : Int), .int .i64 (V : Int), .string (WF 3), .int .i64 (L1 : Int), .int .i64 (L2 : Int)]) (by simp only [results, Tryz.results55]; simp [go_sem, u0, u1, u2, u3, u4, u5]) rfl ⟨rfl, ?_⟩
  exact (((((HB4.out.setCell (p := ⟨w.heap.size, 0, none⟩) (Nat.le_refl _) _).setCell (p := ⟨w.heap.size, 1, none⟩) (Nat.le_refl _) _).setCell (p := ⟨w.heap.size, 2, none⟩) (Nat.le_refl _) _).setCell (p := ⟨w.heap.size, 3, none⟩) (Nat.le_refl _) _).setCell (p := ⟨w.heap.size, 4, none⟩) (Nat.le_refl _) _).setCell (p := ⟨w.heap.size, 5, none⟩) (Nat.le_refl _) _
end Go.Proofs.YteglammdigmmfaaGreatDoor.Tb
