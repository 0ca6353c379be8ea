import Derived.Test.YtohojghndnfgdaaGreatDoorPf
import Derived.Lib.Join
import Derived.Lib.SlTrimSet
/-
  DERIVED. What is joined and cut behind is what stands ahead of the last that is there: no program in it; components.
-/
namespace Go.Proofs.YtohojghndnfgdaaGreatDoor
open Go Go.Proofs Go.RowKit

/-- Without the empty ones at the end. -/
def dropE (xs : List (List UInt8)) : List (List UInt8) := (xs.reverse.dropWhile (·.isEmpty)).reverse
theorem trim_keep (l : List UInt8) (c : UInt8) (x : UInt8) (h : x ≠ c) : Lib.trimRightS (l ++ [x]) [c] = l ++ [x] := by
  unfold Lib.trimRightS
  rw [List.reverse_append, List.reverse_singleton, List.singleton_append, List.dropWhile_cons_of_neg (by simpa using h), List.reverse_cons, List.reverse_reverse]
theorem trim_drop (l : List UInt8) (c : UInt8) : Lib.trimRightS (l ++ [c]) [c] = Lib.trimRightS l [c] := by
  unfold Lib.trimRightS
  rw [List.reverse_append, List.reverse_singleton, List.singleton_append, List.dropWhile_cons_of_pos (by simp)]
theorem join_snoc (xs : List (List UInt8)) (x sep : List UInt8) (h : xs ≠ []) : Lib.join (xs ++ [x]) sep = Lib.join xs sep ++ (sep ++ x) := by
  unfold Lib.join
  induction xs with
  | nil => exact absurd rfl h
  | cons a l ih =>
    cases l with
    | nil => simp [List.intercalate, List.intersperse]
    | cons b l =>
      have := ih (by simp)
      simp only [List.intercalate, List.cons_append, List.intersperse, List.flatten_cons] at this ⊢
      rw [this]
      simp [List.append_assoc]
theorem trim_join (c : UInt8) : ∀ (n : Nat) (xs : List (List UInt8)), xs.length = n → (∀ x ∈ xs, c ∉ x) → Lib.trimRightS (Lib.join xs [c]) [c] = Lib.join (dropE xs) [c]
  | 0, xs, hn, _ => by
    obtain rfl : xs = [] := List.length_eq_zero_iff.1 hn
    rfl
  | n + 1, xs, hn, hc => by
    obtain ⟨ys, y, rfl⟩ : ∃ ys y, xs = ys ++ [y] := ⟨xs.dropLast, xs.getLast (by rintro rfl; simp at hn), (List.dropLast_concat_getLast _).symm⟩
    have hys : ys.length = n := by simpa using hn
    have hcy := hc y (by simp)
    have ih := trim_join c n ys hys (fun x hx => hc x (by simp [hx]))
    have hd : dropE (ys ++ [y]) = if y.isEmpty then dropE ys else ys ++ [y] := by
      unfold dropE
      rw [List.reverse_append, List.reverse_singleton, List.singleton_append, List.dropWhile_cons]
      split
      · rfl
      · rw [List.reverse_cons, List.reverse_reverse]
    rw [hd]
    cases y with
    | nil =>
      rw [if_pos (show ([] : List UInt8).isEmpty = true from rfl)]
      cases ys with
      | nil => rfl
      | cons a l =>
        rw [join_snoc _ _ _ (by simp), List.append_nil, trim_drop]
        exact ih
    | cons b l =>
      rw [if_neg (by simp)]
      obtain ⟨m, z, hz⟩ : ∃ m z, b :: l = m ++ [z] := ⟨(b :: l).dropLast, (b :: l).getLast (by simp), (List.dropLast_concat_getLast _).symm⟩
      have hzc : z ≠ c := by rintro rfl; exact hcy (by rw [hz]; simp)
      cases ys with
      | nil =>
        show Lib.trimRightS (Lib.join [b :: l] [c]) [c] = Lib.join [b :: l] [c]
        rw [Lib.join_one, hz]
        exact trim_keep m c z hzc
      | cons a k =>
        rw [join_snoc _ _ _ (by simp), hz, ← List.append_assoc, ← List.append_assoc]
        exact trim_keep _ c z hzc

/-- May this byte stand in a component? -/
def okb (b : Nat) : Bool := !(barI (b : Int) || (decide (b = 94) || decide (b = 61)))
def okc (x : ByteArray) : Bool := x.data.toList.all (fun b => okb b.toNat)
def okF (x : ByteArray) : Nat → Nat → Bool
  | 0, _ => true
  | f + 1, p => okb (x.get! p).toNat && okF x f (p + 1)
theorem okF_drop (x : ByteArray) : ∀ f p, p + f = x.size → okF x f p = (x.data.toList.drop p).all (fun b => okb b.toNat)
  | 0, p, h => by
    rw [List.drop_eq_nil_of_le (by rw [Array.length_toList]; show x.size ≤ _; omega)]
    rfl
  | f + 1, p, h => by
    have hp : p < x.size := by omega
    rw [okF, drop_byte hp, List.all_cons, okF_drop x f (p + 1) (by omega), get_get! x p hp]
theorem okF_all (x : ByteArray) : okF x x.size 0 = okc x := by
  rw [okF_drop x x.size 0 (by omega)]
  rfl
theorem okb_hi {b : Nat} (h : 128 ≤ b) : okb b = true := by
  unfold okb
  rw [bar_hi h, decide_eq_false (by omega), decide_eq_false (by omega)]
  rfl
theorem okF_skip (x : ByteArray) : ∀ (k f p : Nat), (∀ j, j < k → 128 ≤ (x.get! (p + j)).toNat) → okF x (f + k) p = okF x f (p + k)
  | 0, f, p, _ => rfl
  | k + 1, f, p, h => by
    have h0 := h 0 (by omega)
    rw [Nat.add_zero] at h0
    rw [show f + (k + 1) = (f + k) + 1 by omega, okF, okb_hi h0, Bool.true_and, okF_skip x k f (p + 1) (fun j hj => by have := h (j + 1) (by omega); rw [show p + 1 + j = p + (j + 1) by omega]; exact this), show p + 1 + k = p + (k + 1) by omega]

set_option maxRecDepth 100000 in
set_option maxHeartbeats 2000000 in
theorem isComp_any (w : World) (x : ByteArray) : Calls Tryz.prog 44 #[.string x] w fun e w' => e = .returned (.bool (okc x)) ∧ Below w.heap.size w w' := by
  obtain ⟨B, hB⟩ : ∃ B, w.heap.size = B := ⟨_, rfl⟩
  have HE0 : Hid (okF x x.size 0 = okc x) := okF_all x
  generalize okc x = R at *
  rw [hB]
  go_enter Tryz.func44, Tryz.ntmps44
  go_wp2
  go_loopg [] x.size (fun g wx => ∃ (p : Nat), g + p = x.size ∧ Hid (okF x (x.size - p) p = R) ∧ Hid (wx.heap[B]? = some (.stringIter x p)) ∧ Hid (Below B w wx))
  case atStart =>
    refine ⟨0, by omega, HE0, ?_, ?_⟩
    · show _ = _; rw [← hB]; exact World.iter_heap w x 0
    · show Below _ _ _; rw [← hB]; exact (Below.refl _ w).alloc (Nat.le_refl _) _
  case round =>
    obtain ⟨p, hg, HE, HI, HBw⟩ := hrel
    by_cases hp : p < x.size
    · have hnx : ∀ ty, (Instr.next (.pointer (some ⟨B, 0, none⟩)) true ty).run Tryz.prog wr = _ := fun ty => Lib.run_next_any_at wr B x p ty HI.out hp
      have HI1 : Hid ((wr.iterAt B x (p + (Utf8.decode x p).2)).heap[B]? = some (.stringIter x (p + (Utf8.decode x p).2))) := Lib.iterAt_heap wr B x p _ HI.out
      have HB1 : Hid (Below B w (wr.iterAt B x (p + (Utf8.decode x p).2))) := Lib.below_iterAt HBw.out (k := B) (Nat.le_refl _) x _
      have hw1 : 1 ≤ (Utf8.decode x p).2 := oneW_pos x p hp
      have hd1 := decode_le x p
      by_cases hr : (Utf8.decode x p).2 = 1 ∧ (x.get! p).toNat < 128
      · have e1 := rune_lo x p hp hr
        have e2 := hr.1
        obtain ⟨b, hb⟩ : ∃ b, (x.get! p).toNat = b := ⟨_, rfl⟩
        have hb128 : b < 128 := by rw [← hb]; exact hr.2
        have hEE := HE.out
        rw [show x.size - p = (x.size - (p + 1)) + 1 by omega, okF, hb] at hEE
        rw [hb] at e1
        rw [e1, e2] at hnx
        rw [e2] at HI1 HB1
        generalize wr.iterAt B x (p + 1) = W1 at *
        clear hr e1 e2 hw1 hd1 HE HI HBw
        have c24 := isBarred_any W1 (b : Int)
        cases hok : okb b with
        | true =>
          rw [hok, Bool.true_and] at hEE
          have HE2 : Hid (okF x (x.size - (p + 1)) (p + 1) = R) := hEE
          unfold okb at hok
          simp only [Bool.not_eq_true', Bool.or_eq_false_iff, decide_eq_false_iff_not] at hok
          obtain ⟨h1, h2, h3⟩ := hok
          rw [h1] at c24
          have e94 : ((b : Int) == 94) = false := by simpa using (by omega : ¬ (b : Int) = 94)
          have e61 : ((b : Int) == 61) = false := by simpa using (by omega : ¬ (b : Int) = 61)
          clear h1 h2 h3 hEE
          go_wp2_with (go_at_call 43; refine c24.mono ?_; rintro e W ⟨rfl, rfl⟩)
          go_roundg (x.size - (p + 1))
          case measure => omega
          case rel => exact ⟨p + 1, by omega, HE2, HI1, HB1⟩
        | false =>
          rw [hok, Bool.false_and] at hEE
          subst hEE
          unfold okb at hok
          simp only [Bool.not_eq_false', Bool.or_eq_true, decide_eq_true_eq] at hok
          have h3 : barI (b : Int) = true ∨ (barI (b : Int) = false ∧ ((b : Int) == 94) = true) ∨ (barI (b : Int) = false ∧ ((b : Int) == 94) = false ∧ ((b : Int) == 61) = true) := by
            cases hbb : barI (b : Int) with
            | true => exact .inl rfl
            | false =>
              rw [hbb] at hok
              rcases hok with h | h | h
              · cases h
              · exact .inr (.inl ⟨rfl, by rw [h]; rfl⟩)
              · exact .inr (.inr ⟨rfl, by rw [h]; rfl, by rw [h]; rfl⟩)
          clear hok
          rcases h3 with h | ⟨h, h4⟩ | ⟨h, h4, h5⟩
          all_goals
            rw [h] at c24
            clear h
            go_wp2_with (go_at_call 43; refine c24.mono ?_; rintro e W ⟨rfl, rfl⟩)
            go_ret
            exact ⟨rfl, HB1.out⟩
      · obtain ⟨h3, h4, h5⟩ := rune_hi x p hp hr
        have HE2 : Hid (okF x (x.size - (p + (Utf8.decode x p).2)) (p + (Utf8.decode x p).2) = R) := by
          have := HE.out
          rw [show x.size - p = (x.size - (p + (Utf8.decode x p).2)) + (Utf8.decode x p).2 by omega, okF_skip x _ _ _ h3] at this
          exact this
        clear hr h3 HE HI HBw
        generalize (Utf8.decode x p).1 = d1 at *
        generalize (Utf8.decode x p).2 = d2 at *
        generalize wr.iterAt B x (p + d2) = W1 at *
        have c24 := isBarred_any W1 (d1 : Int)
        rw [bar_hi h5] at c24
        have e94 : ((d1 : Int) == 94) = false := by simpa using (by omega : ¬ (d1 : Int) = 94)
        have e61 : ((d1 : Int) == 61) = false := by simpa using (by omega : ¬ (d1 : Int) = 61)
        go_wp2_with (go_at_call 43; refine c24.mono ?_; rintro e W ⟨rfl, rfl⟩)
        go_roundg (x.size - (p + d2))
        case measure => omega
        case rel => exact ⟨p + d2, by omega, HE2, HI1, HB1⟩
    · have hnx : ∀ ty, (Instr.next (.pointer (some ⟨B, 0, none⟩)) true ty).run Tryz.prog wr = _ := fun ty => Lib.run_next_end_at wr B x p ty HI.out hp
      have hEE := HE.out
      rw [show x.size - p = 0 by omega, okF] at hEE
      subst hEE
      clear HE
      go_wp2
      go_ret
      exact ⟨rfl, HBw.out⟩
end Go.Proofs.YtohojghndnfgdaaGreatDoor
