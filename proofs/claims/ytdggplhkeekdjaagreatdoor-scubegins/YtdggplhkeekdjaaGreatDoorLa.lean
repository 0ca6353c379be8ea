import Derived.Test.YtdggplhkeekdjaaGreatDoorKn
import Derived.Lib.Bytealg
import Derived.Shelf.Strings.Search1
import Derived.Laws.Runes
import Derived.WalkMore
import Derived.Laws.Strings3
import Derived.BigQuiet
import Derived.LoopTactic
/-
  DERIVED. Whether a text of ASCII has a rune.
-/
namespace Go.Proofs.YtdggplhkeekdjaaGreatDoor.Ck
open Go Go.Proofs Go.RowKit

set_option maxRecDepth 100000 in
theorem idx133_any (w : World) (s : ByteArray) (c : Int) : Calls Tryz.prog 136 #[.string s, .int .u8 c] w fun e w' => e = .returned (.int .i64 (Lib.indexByte s.data.toList c.toNat.toUInt8)) ∧ w = w' := by
  go_enter Tryz.func136, Tryz.ntmps136
  go_wp2
  rw [run_callFunc_extern Tryz.func154 (by kernel_rfl) (by kernel_rfl) (by kernel_rfl) (e := Extern.BytealgIndexByte.indexByte) (by kernel_rfl), Lib.run_indexByteString]
  simp only [Result.andThen]
  rw [Oper.upon_value]
  go_wp2
  go_ret
  exact ⟨rfl, rfl⟩

theorem idx140_any (w : World) (s : ByteArray) (c : Int) : Calls Tryz.prog 112 #[.string s, .int .u8 c] w fun e w' => e = .returned (.int .i64 (Lib.indexByte s.data.toList c.toNat.toUInt8)) ∧ w = w' := by
  have h := idx133_any w s c
  go_enter Tryz.func112, Tryz.ntmps112
  go_wp2_with (go_at_call 136; refine h.mono ?_; rintro e w' ⟨rfl, rfl⟩)
  go_ret
  exact ⟨rfl, rfl⟩

set_option maxRecDepth 100000 in
set_option maxHeartbeats 1000000 in
theorem irune_ascii (w : World) (s : ByteArray) (r : Int) (h0 : 0 ≤ r) (h1 : r < 128) : Calls Tryz.prog 107 #[.string s, .int .i32 r] w fun e w' => e = .returned (.int .i64 (Lib.indexByte s.data.toList r.toNat.toUInt8)) ∧ w = w' := by
  have h := idx140_any w s r
  have hm : r % 256 = r := by omega
  go_enter Tryz.func107, Tryz.ntmps107
  go_wp2_with (go_at_call 112; refine h.mono ?_; rintro e w' ⟨rfl, rfl⟩)
  go_ret
  exact ⟨rfl, rfl⟩

/-- Is it a rune? -/
def val (r : Int) : Bool := (decide (0 ≤ r) && decide (r < 55296)) || (decide (57343 < r) && decide (r ≤ 1114111))
theorem val_cases (r : Int) : (val r = true ∧ (0 ≤ r ∧ r < 55296 ∨ 57343 < r ∧ r ≤ 1114111)) ∨ (val r = false ∧ (r < 0 ∨ (0 ≤ r ∧ 55296 ≤ r ∧ r ≤ 57343) ∨ (57343 < r ∧ 1114111 < r))) := by
  cases h : val r with
  | true =>
    unfold val at h
    simp only [Bool.or_eq_true, Bool.and_eq_true, decide_eq_true_eq] at h
    exact .inl ⟨rfl, by omega⟩
  | false =>
    refine .inr ⟨rfl, ?_⟩
    unfold val at h
    simp only [Bool.or_eq_false_iff, Bool.and_eq_false_iff, decide_eq_false_iff_not] at h
    omega
set_option maxRecDepth 100000 in
theorem val_any (w : World) (r : Int) : Calls Tryz.prog 113 #[.int .i32 r] w fun e w' => e = .returned (.bool (val r)) ∧ w = w' := by
  rcases val_cases r with ⟨hw, ⟨h1, h2⟩ | ⟨h1, h2⟩⟩ | ⟨hw, h1 | ⟨h1, h2, h3⟩ | ⟨h1, h2⟩⟩
  · rw [hw]; clear hw
    go_enter Tryz.func113, Tryz.ntmps113
    go_wp2
    go_ret
    exact ⟨rfl, rfl⟩
  · have h3 : 0 ≤ r := by omega
    have h4 : decide (r < 55296) = false := by simp; omega
    rw [hw]; clear hw
    go_enter Tryz.func113, Tryz.ntmps113
    go_wp2
    go_ret
    exact ⟨rfl, rfl⟩
  · have h3 : decide (57343 < r) = false := by simp; omega
    rw [hw]; clear hw
    go_enter Tryz.func113, Tryz.ntmps113
    go_wp2
    go_ret
    exact ⟨rfl, rfl⟩
  · have h4 : decide (57343 < r) = false := by simp; omega
    have h5 : decide (r < 55296) = false := by simp; omega
    rw [hw]; clear hw
    go_enter Tryz.func113, Tryz.ntmps113
    go_wp2
    go_ret
    exact ⟨rfl, rfl⟩
  · have h3 : 0 ≤ r := by omega
    have h4 : decide (r < 55296) = false := by simp; omega
    have h5 : decide (r ≤ 1114111) = false := by simp; omega
    rw [hw]; clear hw
    go_enter Tryz.func113, Tryz.ntmps113
    go_wp2
    go_ret
    exact ⟨rfl, rfl⟩

set_option maxRecDepth 100000 in
set_option maxHeartbeats 1000000 in
/-- What is no rune is nowhere. -/
theorem rune_bad (w : World) (s : ByteArray) (r : Int) (hr : r < 0 ∨ 128 ≤ r) (hv : val r = false) : Calls Tryz.prog 107 #[.string s, .int .i32 r] w fun e w' => e = .returned (.int .i64 (-1)) ∧ w = w' := by
  have c := val_any w r
  rw [hv] at c
  have he : (r == 65533) = false := by
    cases h : (r == 65533) with
    | false => rfl
    | true => simp at h; rw [h] at hv; exact absurd hv (by decide)
  clear hv
  rcases hr with hr | hr
  · go_enter Tryz.func107, Tryz.ntmps107
    go_wp2_with (go_at_call 113; refine c.mono ?_; rintro e w' ⟨rfl, rfl⟩)
    go_ret
    exact ⟨rfl, rfl⟩
  · have h2 : decide (r < 128) = false := by simp; omega
    have h3 : 0 ≤ r := by omega
    go_enter Tryz.func107, Tryz.ntmps107
    go_wp2_with (go_at_call 113; refine c.mono ?_; rintro e w' ⟨rfl, rfl⟩)
    go_ret
    exact ⟨rfl, rfl⟩


theorem indexByte_none (l : List UInt8) (c : UInt8) (h : ∀ b ∈ l, b ≠ c) : Lib.indexByte l c = -1 := by
  induction l with
  | nil => rfl
  | cons b l ih =>
    unfold Lib.indexByte
    have hb := h b (by simp)
    have := ih (fun x hx => h x (by simp [hx]))
    simp [hb, this]

set_option maxRecDepth 100000 in
set_option maxHeartbeats 1000000 in
/-- A rune of several bytes is in no text of ASCII. -/
theorem rune_high (w : World) (s : ByteArray) (_hz : s.size < 100) (hs : ∀ b ∈ s.data.toList, b.toNat < 128) (r : Int) (hr : 128 ≤ r) (hv : val r = true) (hn : r ≠ 65533) : Calls Tryz.prog 107 #[.string s, .int .i32 r] w fun e w' => e = .returned (.int .i64 (-1)) ∧ Below w.heap.size w w' := by
  have c := val_any w r
  have hu : Utf8.valid r = true := by
    rw [validRune_eq]
    rcases val_cases r with ⟨_, h⟩ | ⟨h, _⟩
    · simpa [validRune] using h
    · rw [h] at hv; exact absurd hv (by decide)
  rw [hv] at c
  have he : (r == 65533) = false := by simpa using hn
  have h2 : decide (r < 128) = false := by simp; omega
  have h3 : 0 ≤ r := by omega
  obtain ⟨f2, f4, fl⟩ := encode_facts r hu hr
  have ek : (convert 21 9 (.int .i32 r)).run Tryz.prog w = .ok (.string (Utf8.encode r)) w := run_convert_int_string w 21 9 .i32 r (by kernel_rfl) (by kernel_rfl)
  generalize Utf8.encode r = z at *
  obtain ⟨n, hzn⟩ : ∃ n, z.size = n + 1 := ⟨z.size - 1, by omega⟩
  have hlt : n < z.size := by omega
  have hi : (z.size : Int) - 1 = (n : Int) := by omega
  have hl : 128 ≤ (z[n]'hlt).toNat := by
    have := fl (by omega)
    have e : z.size - 1 = n := by omega
    simpa [e] using this
  have hn1 : 1 ≤ n := by omega
  have hn4 : n ≤ 3 := by omega
  have hq : ∀ W, Calls Tryz.prog 112 #[.string (s.extract (n + 1) s.size), .int .u8 ((z[n]'hlt).toNat : Int)] W fun e w' => e = .returned (.int .i64 (-1)) ∧ w' = W := by
    intro W
    have hq := idx140_any W (s.extract (n + 1) s.size) ((z[n]'hlt).toNat : Int)
    rw [indexByte_none] at hq
    exact hq.mono fun _ _ h => ⟨h.1, h.2.symm⟩
    intro b hb e
    have := hs b (mem_extract hb)
    rw [e] at this
    simp at this
    omega
  have hne : ∀ h : n < s.size, (((s[n]'h).toNat : Int) == ((z[n]'hlt).toNat : Int)) = false := by
    intro h
    have := hs (s[n]'h) (Array.getElem_mem_toList (xs := s.data) h)
    simp; omega
  have hd2 : (n : Int) < (z.size : Int) := by omega
  have hz4 : (z.size : Int) ≤ 4 := by omega
  clear hv hu fl f2 f4 hs hn hzn
  by_cases hd : n < s.size
  · have hne' := hne hd
    have hd1 : (n : Int) < (s.size : Int) := by omega
    have hw : IntKind.i64.wrap ((n : Int) + 1) = (n : Int) + 1 := wrap_small _ (by omega) (by omega)
    have hd0 : (0 : Int) ≤ (n : Int) + 1 := by omega
    have hd3 : (n : Int) + 1 ≤ (s.size : Int) := by omega
    clear hne
    go_enter Tryz.func107, Tryz.ntmps107
    go_wp2_with (go_at_call 113; refine c.mono ?_; rintro e w' ⟨rfl, rfl⟩)
    go_step3
    go_wp2
    refine wp_loop_rounds 1 ?_
    rw [rounds_succ]
    go_wp2
    go_step3
    go_wp2
    go_quiet (fail)
    go_wp2
    go_quiet ((go_at_call 112; exact (hq _).mono fun _ _ h => ⟨h.1, _, h.2⟩))
    go_wp2
    rw [Exit.noGoto_ret]
    go_wp2
    rw [Exit.noGoto_ret]
    go_ret
    exact ⟨rfl, below_drewN (Below.refl _ _) _⟩
  · have hd1 : ¬ (n : Int) < (s.size : Int) := by omega
    clear hne
    go_enter Tryz.func107, Tryz.ntmps107
    go_wp2_with (go_at_call 113; refine c.mono ?_; rintro e w' ⟨rfl, rfl⟩)
    go_step3
    go_wp2
    refine wp_loop_rounds 1 ?_
    rw [rounds_succ]
    go_wp2
    rw [Exit.noGoto_ret]
    go_ret
    exact ⟨rfl, Below.refl _ _⟩

set_option maxRecDepth 100000 in
set_option maxHeartbeats 1000000 in
/-- The rune that stands for what is no rune is in no text of ASCII. -/
theorem rune_none (w : World) (s : ByteArray) (hs : ∀ b ∈ s.data.toList, b.toNat < 128) : Calls Tryz.prog 107 #[.string s, .int .i32 65533] w fun e w' => e = .returned (.int .i64 (-1)) ∧ Below w.heap.size w w' := by
  have HS : Hid (∀ b ∈ s.data.toList, b.toNat < 128) := hs
  clear hs
  go_enter Tryz.func107, Tryz.ntmps107
  go_wp2
  go_loopw [4] (fun x wr => x = .int .i64 0 ∧ ∃ pos : Nat, wr = w.iter s pos) (fun _ wr => s.size - wr.iterPos w.heap.size)
  case atStart => exact ⟨rfl, 0, rfl⟩
  case round =>
    obtain ⟨rfl, pos, rfl⟩ := hrel
    by_cases hp : pos < s.size
    · have ha := HS.out (s[pos]'hp) (Array.getElem_mem_toList (xs := s.data) hp)
      have hne : (((s[pos]'hp).toNat : Int) == 65533) = false := by simp; omega
      have hnx : ∀ ty, (Instr.next (.pointer (some ⟨w.heap.size, 0, none⟩)) true ty).run Tryz.prog (w.iter s pos) = _ := fun ty => run_next_ascii w s pos ty hp ha
      go_wp2
      go_roundw
      case rel => exact ⟨rfl, pos + 1, rfl⟩
      case measure => simp; omega
    · have hnx : ∀ ty, (Instr.next (.pointer (some ⟨w.heap.size, 0, none⟩)) true ty).run Tryz.prog (w.iter s pos) = _ := fun ty => run_next_end w s pos ty hp
      go_wp2
      go_ret
      exact ⟨rfl, (Below.refl _ _).alloc (Nat.le_refl _) _⟩

/-- Whether a text has a rune of ASCII. -/
def hasR (s : ByteArray) (r : Int) : Bool := decide (0 ≤ r ∧ r < 128) && s.data.toList.any (· == r.toNat.toUInt8)

theorem indexByte_some (l : List UInt8) (c : UInt8) : decide (0 ≤ Lib.indexByte l c) = l.any (· == c) := by
  induction l with
  | nil => rfl
  | cons b l ih =>
    unfold Lib.indexByte
    by_cases hb : b = c
    · simp [hb]
    · have := Lib.indexByte_ge l c
      rw [List.any_cons, ← ih]
      have e : (b == c) = false := by simpa using hb
      rw [e, Bool.false_or]
      apply decide_eq_decide.2
      simp only [beq_iff_eq, if_false, Bool.false_eq_true]
      split <;> omega

theorem irune_any (w : World) (s : ByteArray) (hz : s.size < 100) (hs : ∀ b ∈ s.data.toList, b.toNat < 128) (r : Int) : Calls Tryz.prog 107 #[.string s, .int .i32 r] w fun e w' => ∃ x, e = .returned (.int .i64 x) ∧ decide (0 ≤ x) = hasR s r ∧ Below w.heap.size w w' := by
  by_cases h : 0 ≤ r ∧ r < 128
  · refine (irune_ascii w s r h.1 h.2).mono ?_
    rintro e w' ⟨rfl, rfl⟩
    refine ⟨_, rfl, ?_, Below.refl _ _⟩
    rw [indexByte_some]
    simp [hasR, h]
  · have hf : hasR s r = false := by simp [hasR]; intro a b; omega
    rw [hf]
    have hr : r < 0 ∨ 128 ≤ r := by omega
    cases hv : val r with
    | false =>
      refine (rune_bad w s r hr hv).mono ?_
      rintro e w' ⟨rfl, rfl⟩
      exact ⟨_, rfl, rfl, Below.refl _ _⟩
    | true =>
      by_cases hn : r = 65533
      · subst hn
        refine (rune_none w s hs).mono ?_
        rintro e w' ⟨rfl, hb⟩
        exact ⟨_, rfl, rfl, hb⟩
      · have : 128 ≤ r := by
          rcases val_cases r with ⟨_, h⟩ | ⟨h, _⟩
          · omega
          · rw [h] at hv; exact absurd hv (by decide)
        refine (rune_high w s hz hs r this hv hn).mono ?_
        rintro e w' ⟨rfl, hb⟩
        exact ⟨_, rfl, rfl, hb⟩

set_option maxRecDepth 100000 in
theorem contains_any (w : World) (s : ByteArray) (hz : s.size < 100) (hs : ∀ b ∈ s.data.toList, b.toNat < 128) (r : Int) : Calls Tryz.prog 99 #[.string s, .int .i32 r] w fun e w' => e = .returned (.bool (hasR s r)) ∧ Below w.heap.size w w' := by
  have c := irune_any w s hz hs r
  clear hs hz
  go_enter Tryz.func99, Tryz.ntmps99
  go_wp2_with (go_at_call 107; refine c.mono ?_; rintro e w' ⟨x, rfl, hx, hb⟩)
  go_wp2
  go_ret
  exact ⟨rfl, hb⟩

end Go.Proofs.YtdggplhkeekdjaaGreatDoor.Ck
