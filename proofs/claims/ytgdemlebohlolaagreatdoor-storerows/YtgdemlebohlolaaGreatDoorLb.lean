import Derived.Test.YtgdemlebohlolaaGreatDoorKn
import Derived.Lib.Bytealg
import Derived.Shelf.Strings.Search1
import Derived.Laws.Runes
import Derived.WalkMore
import Derived.Laws.Strings3
import Derived.BigQuiet
import Derived.LoopTactic
import Derived.Test.YtgdemlebohlolaaGreatDoorProg
import Derived.Shelf.Strings.Trim
import Derived.Shelf.Strings.Count
import Derived.Shelf.Strings.IndexAnyAll
/-
  DERIVED. Whether a text of ASCII has a rune.
-/
namespace Go.Proofs.YtgdemlebohlolaaGreatDoor.Ck
open Go Go.Proofs Go.RowKit

set_option maxRecDepth 100000 in
theorem idx133_any (w : World) (s : ByteArray) (c : Int) : Calls Tryz.prog 72 #[.string s, .int .u8 c] w fun e w' => e = .returned (.int .i64 (Lib.indexByte s.data.toList c.toNat.toUInt8)) ∧ w = w' := by
  go_enter Tryz.func72, Tryz.ntmps72
  go_wp2
  rw [run_callFunc_extern Tryz.func91 (by kernel_rfl) (by kernel_rfl) (by kernel_rfl) (e := Extern.BytealgIndexByte.indexByte) (by kernel_rfl), Lib.run_indexByteString]
  simp only [Result.andThen]
  rw [Oper.upon_value]
  go_wp2
  go_ret
  exact ⟨rfl, rfl⟩

theorem idx140_any (w : World) (s : ByteArray) (c : Int) : Calls Tryz.prog 167 #[.string s, .int .u8 c] w fun e w' => e = .returned (.int .i64 (Lib.indexByte s.data.toList c.toNat.toUInt8)) ∧ w = w' := by
  have h := idx133_any w s c
  go_enter Tryz.func167, Tryz.ntmps167
  go_wp2_with (go_at_call 72; refine h.mono ?_; rintro e w' ⟨rfl, rfl⟩)
  go_ret
  exact ⟨rfl, rfl⟩

set_option maxRecDepth 100000 in
set_option maxHeartbeats 1000000 in
theorem irune_ascii (w : World) (s : ByteArray) (r : Int) (h0 : 0 ≤ r) (h1 : r < 128) : Calls Tryz.prog 146 #[.string s, .int .i32 r] w fun e w' => e = .returned (.int .i64 (Lib.indexByte s.data.toList r.toNat.toUInt8)) ∧ w = w' := by
  have h := idx140_any w s r
  have hm : r % 256 = r := by omega
  go_enter Tryz.func146, Tryz.ntmps146
  go_wp2_with (go_at_call 167; refine h.mono ?_; rintro e w' ⟨rfl, rfl⟩)
  go_ret
  exact ⟨rfl, rfl⟩

/-- Is it a rune? -/
def val (r : Int) : Bool := (decide (0 ≤ r) && decide (r < 55296)) || (decide (57343 < r) && decide (r ≤ 1114111))
theorem val_cases (r : Int) : (val r = true ∧ (0 ≤ r ∧ r < 55296 ∨ 57343 < r ∧ r ≤ 1114111)) ∨ (val r = false ∧ (r < 0 ∨ (0 ≤ r ∧ 55296 ≤ r ∧ r ≤ 57343) ∨ (57343 < r ∧ 1114111 < r))) := by
  cases h : val r with
  | true =>
    unfold val at h
    simp only [Bool.or_eq_true, Bool.and_eq_true, decide_eq_true_eq] at h
    exact .inl ⟨rfl, by omega⟩
  | false =>
    refine .inr ⟨rfl, ?_⟩
    unfold val at h
    simp only [Bool.or_eq_false_iff, Bool.and_eq_false_iff, decide_eq_false_iff_not] at h
    omega
set_option maxRecDepth 100000 in
theorem val_any (w : World) (r : Int) : Calls Tryz.prog 168 #[.int .i32 r] w fun e w' => e = .returned (.bool (val r)) ∧ w = w' := by
  rcases val_cases r with ⟨hw, ⟨h1, h2⟩ | ⟨h1, h2⟩⟩ | ⟨hw, h1 | ⟨h1, h2, h3⟩ | ⟨h1, h2⟩⟩
  · rw [hw]; clear hw
    go_enter Tryz.func168, Tryz.ntmps168
    go_wp2
    go_ret
    exact ⟨rfl, rfl⟩
  · have h3 : 0 ≤ r := by omega
    have h4 : decide (r < 55296) = false := by simp; omega
    rw [hw]; clear hw
    go_enter Tryz.func168, Tryz.ntmps168
    go_wp2
    go_ret
    exact ⟨rfl, rfl⟩
  · have h3 : decide (57343 < r) = false := by simp; omega
    rw [hw]; clear hw
    go_enter Tryz.func168, Tryz.ntmps168
    go_wp2
    go_ret
    exact ⟨rfl, rfl⟩
  · have h4 : decide (57343 < r) = false := by simp; omega
    have h5 : decide (r < 55296) = false := by simp; omega
    rw [hw]; clear hw
    go_enter Tryz.func168, Tryz.ntmps168
    go_wp2
    go_ret
    exact ⟨rfl, rfl⟩
  · have h3 : 0 ≤ r := by omega
    have h4 : decide (r < 55296) = false := by simp; omega
    have h5 : decide (r ≤ 1114111) = false := by simp; omega
    rw [hw]; clear hw
    go_enter Tryz.func168, Tryz.ntmps168
    go_wp2
    go_ret
    exact ⟨rfl, rfl⟩

set_option maxRecDepth 100000 in
set_option maxHeartbeats 1000000 in
/-- What is no rune is nowhere. -/
theorem rune_bad (w : World) (s : ByteArray) (r : Int) (hr : r < 0 ∨ 128 ≤ r) (hv : val r = false) : Calls Tryz.prog 146 #[.string s, .int .i32 r] w fun e w' => e = .returned (.int .i64 (-1)) ∧ w = w' := by
  have c := val_any w r
  rw [hv] at c
  have he : (r == 65533) = false := by
    cases h : (r == 65533) with
    | false => rfl
    | true => simp at h; rw [h] at hv; exact absurd hv (by decide)
  clear hv
  rcases hr with hr | hr
  · go_enter Tryz.func146, Tryz.ntmps146
    go_wp2_with (go_at_call 168; refine c.mono ?_; rintro e w' ⟨rfl, rfl⟩)
    go_ret
    exact ⟨rfl, rfl⟩
  · have h2 : decide (r < 128) = false := by simp; omega
    have h3 : 0 ≤ r := by omega
    go_enter Tryz.func146, Tryz.ntmps146
    go_wp2_with (go_at_call 168; refine c.mono ?_; rintro e w' ⟨rfl, rfl⟩)
    go_ret
    exact ⟨rfl, rfl⟩


theorem indexByte_none (l : List UInt8) (c : UInt8) (h : ∀ b ∈ l, b ≠ c) : Lib.indexByte l c = -1 := by
  induction l with
  | nil => rfl
  | cons b l ih =>
    unfold Lib.indexByte
    have hb := h b (by simp)
    have := ih (fun x hx => h x (by simp [hx]))
    simp [hb, this]

set_option maxRecDepth 100000 in
set_option maxHeartbeats 1000000 in
/-- A rune of several bytes is in no text of ASCII. -/
theorem rune_high (w : World) (s : ByteArray) (_hz : s.size < 100) (hs : ∀ b ∈ s.data.toList, b.toNat < 128) (r : Int) (hr : 128 ≤ r) (hv : val r = true) (hn : r ≠ 65533) : Calls Tryz.prog 146 #[.string s, .int .i32 r] w fun e w' => e = .returned (.int .i64 (-1)) ∧ Below w.heap.size w w' := by
  have c := val_any w r
  have hu : Utf8.valid r = true := by
    rw [validRune_eq]
    rcases val_cases r with ⟨_, h⟩ | ⟨h, _⟩
    · simpa [validRune] using h
    · rw [h] at hv; exact absurd hv (by decide)
  rw [hv] at c
  have he : (r == 65533) = false := by simpa using hn
  have h2 : decide (r < 128) = false := by simp; omega
  have h3 : 0 ≤ r := by omega
  obtain ⟨f2, f4, fl⟩ := encode_facts r hu hr
  have ek : (convert 21 9 (.int .i32 r)).run Tryz.prog w = .ok (.string (Utf8.encode r)) w := run_convert_int_string w 21 9 .i32 r (by kernel_rfl) (by kernel_rfl)
  generalize Utf8.encode r = z at *
  obtain ⟨n, hzn⟩ : ∃ n, z.size = n + 1 := ⟨z.size - 1, by omega⟩
  have hlt : n < z.size := by omega
  have hi : (z.size : Int) - 1 = (n : Int) := by omega
  have hl : 128 ≤ (z[n]'hlt).toNat := by
    have := fl (by omega)
    have e : z.size - 1 = n := by omega
    simpa [e] using this
  have hn1 : 1 ≤ n := by omega
  have hn4 : n ≤ 3 := by omega
  have hq : ∀ W, Calls Tryz.prog 167 #[.string (s.extract (n + 1) s.size), .int .u8 ((z[n]'hlt).toNat : Int)] W fun e w' => e = .returned (.int .i64 (-1)) ∧ w' = W := by
    intro W
    have hq := idx140_any W (s.extract (n + 1) s.size) ((z[n]'hlt).toNat : Int)
    rw [indexByte_none] at hq
    exact hq.mono fun _ _ h => ⟨h.1, h.2.symm⟩
    intro b hb e
    have := hs b (mem_extract hb)
    rw [e] at this
    simp at this
    omega
  have hne : ∀ h : n < s.size, (((s[n]'h).toNat : Int) == ((z[n]'hlt).toNat : Int)) = false := by
    intro h
    have := hs (s[n]'h) (Array.getElem_mem_toList (xs := s.data) h)
    simp; omega
  have hd2 : (n : Int) < (z.size : Int) := by omega
  have hz4 : (z.size : Int) ≤ 4 := by omega
  clear hv hu fl f2 f4 hs hn hzn
  by_cases hd : n < s.size
  · have hne' := hne hd
    have hd1 : (n : Int) < (s.size : Int) := by omega
    have hw : IntKind.i64.wrap ((n : Int) + 1) = (n : Int) + 1 := wrap_small _ (by omega) (by omega)
    have hd0 : (0 : Int) ≤ (n : Int) + 1 := by omega
    have hd3 : (n : Int) + 1 ≤ (s.size : Int) := by omega
    clear hne
    go_enter Tryz.func146, Tryz.ntmps146
    go_wp2_with (go_at_call 168; refine c.mono ?_; rintro e w' ⟨rfl, rfl⟩)
    go_step3
    go_wp2
    refine wp_loop_rounds 1 ?_
    rw [rounds_succ]
    go_wp2
    go_step3
    go_wp2
    go_quiet (fail)
    go_wp2
    go_quiet ((go_at_call 167; exact (hq _).mono fun _ _ h => ⟨h.1, _, h.2⟩))
    go_wp2
    rw [Exit.noGoto_ret]
    go_wp2
    rw [Exit.noGoto_ret]
    go_ret
    exact ⟨rfl, below_drewN (Below.refl _ _) _⟩
  · have hd1 : ¬ (n : Int) < (s.size : Int) := by omega
    clear hne
    go_enter Tryz.func146, Tryz.ntmps146
    go_wp2_with (go_at_call 168; refine c.mono ?_; rintro e w' ⟨rfl, rfl⟩)
    go_step3
    go_wp2
    refine wp_loop_rounds 1 ?_
    rw [rounds_succ]
    go_wp2
    rw [Exit.noGoto_ret]
    go_ret
    exact ⟨rfl, Below.refl _ _⟩

set_option maxRecDepth 100000 in
set_option maxHeartbeats 1000000 in
/-- The rune that stands for what is no rune is in no text of ASCII. -/
theorem rune_none (w : World) (s : ByteArray) (hs : ∀ b ∈ s.data.toList, b.toNat < 128) : Calls Tryz.prog 146 #[.string s, .int .i32 65533] w fun e w' => e = .returned (.int .i64 (-1)) ∧ Below w.heap.size w w' := by
  have HS : Hid (∀ b ∈ s.data.toList, b.toNat < 128) := hs
  clear hs
  go_enter Tryz.func146, Tryz.ntmps146
  go_wp2
  go_loopw [4] (fun x wr => x = .int .i64 0 ∧ ∃ pos : Nat, wr = w.iter s pos) (fun _ wr => s.size - wr.iterPos w.heap.size)
  case atStart => exact ⟨rfl, 0, rfl⟩
  case round =>
    obtain ⟨rfl, pos, rfl⟩ := hrel
    by_cases hp : pos < s.size
    · have ha := HS.out (s[pos]'hp) (Array.getElem_mem_toList (xs := s.data) hp)
      have hne : (((s[pos]'hp).toNat : Int) == 65533) = false := by simp; omega
      have hnx : ∀ ty, (Instr.next (.pointer (some ⟨w.heap.size, 0, none⟩)) true ty).run Tryz.prog (w.iter s pos) = _ := fun ty => run_next_ascii w s pos ty hp ha
      go_wp2
      go_roundw
      case rel => exact ⟨rfl, pos + 1, rfl⟩
      case measure => simp; omega
    · have hnx : ∀ ty, (Instr.next (.pointer (some ⟨w.heap.size, 0, none⟩)) true ty).run Tryz.prog (w.iter s pos) = _ := fun ty => run_next_end w s pos ty hp
      go_wp2
      go_ret
      exact ⟨rfl, (Below.refl _ _).alloc (Nat.le_refl _) _⟩

/-- Whether a text has a rune of ASCII. -/
def hasR (s : ByteArray) (r : Int) : Bool := decide (0 ≤ r ∧ r < 128) && s.data.toList.any (· == r.toNat.toUInt8)

theorem indexByte_some (l : List UInt8) (c : UInt8) : decide (0 ≤ Lib.indexByte l c) = l.any (· == c) := by
  induction l with
  | nil => rfl
  | cons b l ih =>
    unfold Lib.indexByte
    by_cases hb : b = c
    · simp [hb]
    · have := Lib.indexByte_ge l c
      rw [List.any_cons, ← ih]
      have e : (b == c) = false := by simpa using hb
      rw [e, Bool.false_or]
      apply decide_eq_decide.2
      simp only [beq_iff_eq, if_false, Bool.false_eq_true]
      split <;> omega

theorem irune_any (w : World) (s : ByteArray) (hz : s.size < 100) (hs : ∀ b ∈ s.data.toList, b.toNat < 128) (r : Int) : Calls Tryz.prog 146 #[.string s, .int .i32 r] w fun e w' => ∃ x, e = .returned (.int .i64 x) ∧ decide (0 ≤ x) = hasR s r ∧ Below w.heap.size w w' := by
  by_cases h : 0 ≤ r ∧ r < 128
  · refine (irune_ascii w s r h.1 h.2).mono ?_
    rintro e w' ⟨rfl, rfl⟩
    refine ⟨_, rfl, ?_, Below.refl _ _⟩
    rw [indexByte_some]
    simp [hasR, h]
  · have hf : hasR s r = false := by simp [hasR]; intro a b; omega
    rw [hf]
    have hr : r < 0 ∨ 128 ≤ r := by omega
    cases hv : val r with
    | false =>
      refine (rune_bad w s r hr hv).mono ?_
      rintro e w' ⟨rfl, rfl⟩
      exact ⟨_, rfl, rfl, Below.refl _ _⟩
    | true =>
      by_cases hn : r = 65533
      · subst hn
        refine (rune_none w s hs).mono ?_
        rintro e w' ⟨rfl, hb⟩
        exact ⟨_, rfl, rfl, hb⟩
      · have : 128 ≤ r := by
          rcases val_cases r with ⟨_, h⟩ | ⟨h, _⟩
          · omega
          · rw [h] at hv; exact absurd hv (by decide)
        refine (rune_high w s hz hs r this hv hn).mono ?_
        rintro e w' ⟨rfl, hb⟩
        exact ⟨_, rfl, rfl, hb⟩

set_option maxRecDepth 100000 in
theorem contains_any (w : World) (s : ByteArray) (hz : s.size < 100) (hs : ∀ b ∈ s.data.toList, b.toNat < 128) (r : Int) : Calls Tryz.prog 114 #[.string s, .int .i32 r] w fun e w' => e = .returned (.bool (hasR s r)) ∧ Below w.heap.size w w' := by
  have c := irune_any w s hz hs r
  clear hs hz
  go_enter Tryz.func114, Tryz.ntmps114
  go_wp2_with (go_at_call 146; refine c.mono ?_; rintro e w' ⟨x, rfl, hx, hb⟩)
  go_wp2
  go_ret
  exact ⟨rfl, hb⟩

end Go.Proofs.YtgdemlebohlolaaGreatDoor.Ck

/-
  DERIVED. The program's characters over marks.
-/
namespace Go.Proofs.YtgdemlebohlolaaGreatDoor.Ck
open Go Go.Proofs Go.RowKit

/-- A digit or one of these marks. -/
def doI (m : ByteArray) (c : Int) : Bool := dgI c || hasR m c
set_option maxRecDepth 100000 in
theorem digitOr_any (w : World) (m : ByteArray) (c : Int) (hz : m.size < 100) (hs : ∀ b ∈ m.data.toList, b.toNat < 128) : Calls Tryz.prog 129 #[.string m, .int .i32 c] w fun e w' => e = .returned (.bool (doI m c)) ∧ Below w.heap.size w w' := by
  have c1 := isDigit74_any w c
  have c2 := contains_any w m hz hs c
  unfold doI
  clear hs hz
  generalize hasR m c = Z at *
  cases hd : dgI c with
  | true =>
    rw [hd] at c1
    rw [Bool.true_or]
    clear c2
    go_enter Tryz.func129, Tryz.ntmps129
    go_wp2_with (go_at_call 97; refine Stop.mk ?_)
    refine Stop.out (c1.mono ?_)
    rintro e W1 ⟨rfl, rfl⟩
    go_wp2
    go_ret
    exact ⟨rfl, Below.refl _ _⟩
  | false =>
    rw [hd] at c1
    rw [Bool.false_or]
    go_enter Tryz.func129, Tryz.ntmps129
    go_wp2_with (go_at_call 97; refine Stop.mk ?_)
    refine Stop.out (c1.mono ?_)
    rintro e W1 ⟨rfl, rfl⟩
    go_wp2_with (go_at_call 114; refine Stop.mk ?_)
    refine Stop.out (c2.mono ?_)
    rintro e W1 ⟨rfl, hb⟩
    go_wp2
    go_ret
    exact ⟨rfl, hb⟩
def ageM : ByteArray := ⟨#[68, 87, 77, 89]⟩
theorem ageC_any (w : World) (c : Int) : Calls Tryz.prog 94 #[.int .i32 c] w fun e w' => e = .returned (.bool (doI ageM c)) ∧ Below w.heap.size w w' := by
  have c1 := digitOr_any w ⟨#[68, 87, 77, 89]⟩ c (by decide) (by decide)
  unfold ageM
  generalize doI ⟨#[68, 87, 77, 89]⟩ c = Z at *
  go_enter Tryz.func94, Tryz.ntmps94
  go_wp2_with (go_at_call 129; refine Stop.mk ?_)
  refine Stop.out (c1.mono ?_)
  rintro e W1 ⟨rfl, hb⟩
  go_wp2
  go_ret
  exact ⟨rfl, hb⟩
def decimalM : ByteArray := ⟨#[43, 45, 46, 69, 101, 32]⟩
theorem decimalC_any (w : World) (c : Int) : Calls Tryz.prog 99 #[.int .i32 c] w fun e w' => e = .returned (.bool (doI decimalM c)) ∧ Below w.heap.size w w' := by
  have c1 := digitOr_any w ⟨#[43, 45, 46, 69, 101, 32]⟩ c (by decide) (by decide)
  unfold decimalM
  generalize doI ⟨#[43, 45, 46, 69, 101, 32]⟩ c = Z at *
  go_enter Tryz.func99, Tryz.ntmps99
  go_wp2_with (go_at_call 129; refine Stop.mk ?_)
  refine Stop.out (c1.mono ?_)
  rintro e W1 ⟨rfl, hb⟩
  go_wp2
  go_ret
  exact ⟨rfl, hb⟩
def momM : ByteArray := ⟨#[43, 45, 46]⟩
theorem momC_any (w : World) (c : Int) : Calls Tryz.prog 101 #[.int .i32 c] w fun e w' => e = .returned (.bool (doI momM c)) ∧ Below w.heap.size w w' := by
  have c1 := digitOr_any w ⟨#[43, 45, 46]⟩ c (by decide) (by decide)
  unfold momM
  generalize doI ⟨#[43, 45, 46]⟩ c = Z at *
  go_enter Tryz.func101, Tryz.ntmps101
  go_wp2_with (go_at_call 129; refine Stop.mk ?_)
  refine Stop.out (c1.mono ?_)
  rintro e W1 ⟨rfl, hb⟩
  go_wp2
  go_ret
  exact ⟨rfl, hb⟩
def wholeM : ByteArray := ⟨#[43, 45, 32]⟩
theorem wholeC_any (w : World) (c : Int) : Calls Tryz.prog 103 #[.int .i32 c] w fun e w' => e = .returned (.bool (doI wholeM c)) ∧ Below w.heap.size w w' := by
  have c1 := digitOr_any w ⟨#[43, 45, 32]⟩ c (by decide) (by decide)
  unfold wholeM
  generalize doI ⟨#[43, 45, 32]⟩ c = Z at *
  go_enter Tryz.func103, Tryz.ntmps103
  go_wp2_with (go_at_call 129; refine Stop.mk ?_)
  refine Stop.out (c1.mono ?_)
  rintro e W1 ⟨rfl, hb⟩
  go_wp2
  go_ret
  exact ⟨rfl, hb⟩
def pointedM : ByteArray := ⟨#[46]⟩
theorem pointedC_any (w : World) (c : Int) : Calls Tryz.prog 108 #[.int .i32 c] w fun e w' => e = .returned (.bool (doI pointedM c)) ∧ Below w.heap.size w w' := by
  have c1 := digitOr_any w ⟨#[46]⟩ c (by decide) (by decide)
  unfold pointedM
  generalize doI ⟨#[46]⟩ c = Z at *
  go_enter Tryz.func108, Tryz.ntmps108
  go_wp2_with (go_at_call 129; refine Stop.mk ?_)
  refine Stop.out (c1.mono ?_)
  rintro e W1 ⟨rfl, hb⟩
  go_wp2
  go_ret
  exact ⟨rfl, hb⟩
def codeM : ByteArray := ⟨#[32, 95]⟩
def cdI (c : Int) : Bool := cpI c || doI codeM c
set_option maxRecDepth 100000 in
theorem codeC_any (w : World) (c : Int) : Calls Tryz.prog 96 #[.int .i32 c] w fun e w' => e = .returned (.bool (cdI c)) ∧ Below w.heap.size w w' := by
  have c1 := isCapital_any w c
  have c2 := digitOr_any w ⟨#[32, 95]⟩ c (by decide) (by decide)
  unfold cdI codeM
  generalize doI ⟨#[32, 95]⟩ c = Z at *
  cases hd : cpI c with
  | true =>
    rw [hd] at c1
    rw [Bool.true_or]
    clear c2
    go_enter Tryz.func96, Tryz.ntmps96
    go_wp2_with (go_at_call 131; refine Stop.mk ?_)
    refine Stop.out (c1.mono ?_)
    rintro e W1 ⟨rfl, rfl⟩
    go_wp2
    go_ret
    exact ⟨rfl, Below.refl _ _⟩
  | false =>
    rw [hd] at c1
    rw [Bool.false_or]
    go_enter Tryz.func96, Tryz.ntmps96
    go_wp2_with (go_at_call 131; refine Stop.mk ?_)
    refine Stop.out (c1.mono ?_)
    rintro e W1 ⟨rfl, rfl⟩
    go_wp2_with (go_at_call 129; refine Stop.mk ?_)
    refine Stop.out (c2.mono ?_)
    rintro e W1 ⟨rfl, hb⟩
    go_wp2
    go_ret
    exact ⟨rfl, hb⟩
def proseM : ByteArray := ⟨#[9, 10, 12, 13]⟩
def prI (c : Int) : Bool := !ctl c || hasR proseM c
set_option maxRecDepth 100000 in
theorem proseC_any (w : World) (c : Int) : Calls Tryz.prog 106 #[.int .i32 c] w fun e w' => e = .returned (.bool (prI c)) ∧ Below w.heap.size w w' := by
  have c1 := isControl_any w c
  have c2 := contains_any w ⟨#[9, 10, 12, 13]⟩ (by decide) (by decide) c
  unfold prI proseM
  generalize hasR ⟨#[9, 10, 12, 13]⟩ c = Z at *
  cases hd : ctl c with
  | false =>
    rw [hd] at c1
    rw [Bool.not_false, Bool.true_or]
    clear c2
    go_enter Tryz.func106, Tryz.ntmps106
    go_wp2_with (go_at_call 140; refine Stop.mk ?_)
    refine Stop.out (c1.mono ?_)
    rintro e W1 ⟨rfl, rfl⟩
    go_wp2
    go_ret
    exact ⟨rfl, Below.refl _ _⟩
  | true =>
    rw [hd] at c1
    rw [Bool.not_true, Bool.false_or]
    go_enter Tryz.func106, Tryz.ntmps106
    go_wp2_with (go_at_call 140; refine Stop.mk ?_)
    refine Stop.out (c1.mono ?_)
    rintro e W1 ⟨rfl, rfl⟩
    go_wp2_with (go_at_call 114; refine Stop.mk ?_)
    refine Stop.out (c2.mono ?_)
    rintro e W1 ⟨rfl, hb⟩
    go_wp2
    go_ret
    exact ⟨rfl, hb⟩
end Go.Proofs.YtgdemlebohlolaaGreatDoor.Ck

namespace Go.Proofs.YtgdemlebohlolaaGreatDoor.Ck
open Go Go.Proofs Go.RowKit Go.Shelf Go.Lib

/-- What the shelf's names are here. -/
def tlRen : Go.Shelf.Ren := ⟨fun | 119 => 168 | 137 => 167 | 151 => 114 | 152 => 146 | 161 => 159 | 197 => 83 | 217 => 72 | 224 => 74 | 225 => 73 | 227 => 78 | 228 => 112 | 231 => 178 | 233 => 179 | 235 => 180 | 260 => 116 | 266 => 91 | n => n, fun | 0 => 0 | 3 => 3 | 4 => 4 | 5 => 5 | 9 => 9 | 21 => 21 | 46 => 104 | 105 => 114 | 116 => 109 | 117 => 110 | 119 => 140 | 124 => 113 | 138 => 142 | 139 => 143 | n => n, fun | 3 => 3 | 4 => 4 | n => n⟩
theorem tlLays161 : Go.Proofs.Lays.n161 Tryz.prog tlRen := {
  mixed := by kernel_rfl,
  f119 := Tryz.func168.trans (congrArg some (by kernel_rfl)),
  f137 := Tryz.func167.trans (congrArg some (by kernel_rfl)),
  f151 := Tryz.func114.trans (congrArg some (by kernel_rfl)),
  f152 := Tryz.func146.trans (congrArg some (by kernel_rfl)),
  f161 := Tryz.func159.trans (congrArg some (by kernel_rfl)),
  f197 := Tryz.func83.trans (congrArg some (by kernel_rfl)),
  f217 := Tryz.func72.trans (congrArg some (by kernel_rfl)),
  f224 := Tryz.func74.trans (congrArg some (by kernel_rfl)),
  f225 := Tryz.func73.trans (congrArg some (by kernel_rfl)),
  f227 := Tryz.func78.trans (congrArg some (by kernel_rfl)),
  f228 := Tryz.func112.trans (congrArg some (by kernel_rfl)),
  f231 := Tryz.func178.trans (congrArg some (by kernel_rfl)),
  f233 := Tryz.func179.trans (congrArg some (by kernel_rfl)),
  f235 := Tryz.func180.trans (congrArg some (by kernel_rfl)),
  f260 := Tryz.func116.trans (congrArg some (by kernel_rfl)),
  f266 := Tryz.func91.trans (congrArg some (by kernel_rfl)),
  t0 := Tryz.underlying0,
  a0 := Tryz.isAgg0,
  z0 := Tryz.sizeOf0,
  v0 := Tryz.zeroValue0,
  t3 := Tryz.underlying3,
  a3 := Tryz.isAgg3,
  z3 := Tryz.sizeOf3,
  v3 := Tryz.zeroValue3,
  t4 := Tryz.underlying4,
  a4 := Tryz.isAgg4,
  z4 := Tryz.sizeOf4,
  v4 := Tryz.zeroValue4,
  t5 := Tryz.underlying5,
  a5 := Tryz.isAgg5,
  z5 := Tryz.sizeOf5,
  v5 := Tryz.zeroValue5,
  t9 := Tryz.underlying9,
  a9 := Tryz.isAgg9,
  z9 := Tryz.sizeOf9,
  v9 := Tryz.zeroValue9,
  t21 := Tryz.underlying21,
  a21 := Tryz.isAgg21,
  z21 := Tryz.sizeOf21,
  v21 := Tryz.zeroValue21,
  t46 := Tryz.underlying104,
  a46 := Tryz.isAgg104,
  z46 := Tryz.sizeOf104,
  v46 := Tryz.zeroValue104,
  t105 := Tryz.underlying114,
  a105 := Tryz.isAgg114,
  z105 := Tryz.sizeOf114,
  v105 := Tryz.zeroValue114,
  t116 := Tryz.underlying109,
  a116 := Tryz.isAgg109,
  z116 := Tryz.sizeOf109,
  t117 := Tryz.underlying110,
  a117 := Tryz.isAgg110,
  z117 := Tryz.sizeOf110,
  v117 := Tryz.zeroValue110,
  t119 := Tryz.underlying140,
  a119 := Tryz.isAgg140,
  z119 := Tryz.sizeOf140,
  t124 := Tryz.underlying113,
  a124 := Tryz.isAgg113,
  z124 := Tryz.sizeOf113,
  v124 := Tryz.zeroValue113,
  t138 := Tryz.underlying142,
  a138 := Tryz.isAgg142,
  z138 := Tryz.sizeOf142,
  v138 := Tryz.zeroValue142,
  t139 := Tryz.underlying143,
  a139 := Tryz.isAgg143,
  z139 := Tryz.sizeOf143,
  v139 := Tryz.zeroValue143,
  g3 := by kernel_rfl,
  g4 := by kernel_rfl }

/-- What the shelf's names are here. -/
def coRen : Go.Shelf.Ren := ⟨fun | 138 => 142 | 143 => 29 | 195 => 82 | 217 => 72 | 218 => 165 | 219 => 48 | 224 => 74 | 225 => 73 | 266 => 91 | 267 => 75 | 314 => 92 | n => n, fun | 0 => 0 | 3 => 3 | 4 => 4 | 5 => 5 | 9 => 9 | 46 => 104 | 51 => 122 | 146 => 123 | n => n, fun | 1 => 2 | n => n⟩
theorem coLays138 : Go.Proofs.Lays.n138 Tryz.prog coRen := {
  mixed := by kernel_rfl,
  f138 := Tryz.func142.trans (congrArg some (by kernel_rfl)),
  f143 := Tryz.func29.trans (congrArg some (by kernel_rfl)),
  f195 := Tryz.func82.trans (congrArg some (by kernel_rfl)),
  f217 := Tryz.func72.trans (congrArg some (by kernel_rfl)),
  f218 := Tryz.func165.trans (congrArg some (by kernel_rfl)),
  f219 := Tryz.func48.trans (congrArg some (by kernel_rfl)),
  f224 := Tryz.func74.trans (congrArg some (by kernel_rfl)),
  f225 := Tryz.func73.trans (congrArg some (by kernel_rfl)),
  f266 := Tryz.func91.trans (congrArg some (by kernel_rfl)),
  f267 := Tryz.func75.trans (congrArg some (by kernel_rfl)),
  f314 := Tryz.func92.trans (congrArg some (by kernel_rfl)),
  t0 := Tryz.underlying0,
  a0 := Tryz.isAgg0,
  z0 := Tryz.sizeOf0,
  v0 := Tryz.zeroValue0,
  t3 := Tryz.underlying3,
  a3 := Tryz.isAgg3,
  z3 := Tryz.sizeOf3,
  v3 := Tryz.zeroValue3,
  t4 := Tryz.underlying4,
  a4 := Tryz.isAgg4,
  z4 := Tryz.sizeOf4,
  v4 := Tryz.zeroValue4,
  t5 := Tryz.underlying5,
  a5 := Tryz.isAgg5,
  z5 := Tryz.sizeOf5,
  v5 := Tryz.zeroValue5,
  t9 := Tryz.underlying9,
  a9 := Tryz.isAgg9,
  z9 := Tryz.sizeOf9,
  v9 := Tryz.zeroValue9,
  t46 := Tryz.underlying104,
  a46 := Tryz.isAgg104,
  z46 := Tryz.sizeOf104,
  v46 := Tryz.zeroValue104,
  t51 := Tryz.underlying122,
  a51 := Tryz.isAgg122,
  z51 := Tryz.sizeOf122,
  v51 := Tryz.zeroValue122,
  t146 := Tryz.underlying123,
  a146 := Tryz.isAgg123,
  z146 := Tryz.sizeOf123,
  v146 := Tryz.zeroValue123,
  g1 := by kernel_rfl }

/-- What the shelf's names are here. -/
def iaRen : Go.Shelf.Ren := ⟨fun | 119 => 168 | 137 => 167 | 152 => 146 | 153 => 136 | 217 => 72 | 224 => 74 | 225 => 73 | 226 => 161 | 227 => 78 | 228 => 112 | 266 => 91 | n => n, fun | 0 => 0 | 3 => 3 | 4 => 4 | 5 => 5 | 9 => 9 | 21 => 21 | 46 => 104 | 116 => 109 | 117 => 110 | 124 => 113 | n => n, fun  | n => n⟩
theorem iaLays153 : Go.Proofs.Lays.n153 Tryz.prog iaRen := {
  mixed := by kernel_rfl,
  f119 := Tryz.func168.trans (congrArg some (by kernel_rfl)),
  f137 := Tryz.func167.trans (congrArg some (by kernel_rfl)),
  f152 := Tryz.func146.trans (congrArg some (by kernel_rfl)),
  f153 := Tryz.func136.trans (congrArg some (by kernel_rfl)),
  f217 := Tryz.func72.trans (congrArg some (by kernel_rfl)),
  f224 := Tryz.func74.trans (congrArg some (by kernel_rfl)),
  f225 := Tryz.func73.trans (congrArg some (by kernel_rfl)),
  f226 := Tryz.func161.trans (congrArg some (by kernel_rfl)),
  f227 := Tryz.func78.trans (congrArg some (by kernel_rfl)),
  f228 := Tryz.func112.trans (congrArg some (by kernel_rfl)),
  f266 := Tryz.func91.trans (congrArg some (by kernel_rfl)),
  t0 := Tryz.underlying0,
  a0 := Tryz.isAgg0,
  z0 := Tryz.sizeOf0,
  v0 := Tryz.zeroValue0,
  t3 := Tryz.underlying3,
  a3 := Tryz.isAgg3,
  z3 := Tryz.sizeOf3,
  v3 := Tryz.zeroValue3,
  t4 := Tryz.underlying4,
  a4 := Tryz.isAgg4,
  z4 := Tryz.sizeOf4,
  v4 := Tryz.zeroValue4,
  t5 := Tryz.underlying5,
  a5 := Tryz.isAgg5,
  z5 := Tryz.sizeOf5,
  v5 := Tryz.zeroValue5,
  t9 := Tryz.underlying9,
  a9 := Tryz.isAgg9,
  z9 := Tryz.sizeOf9,
  v9 := Tryz.zeroValue9,
  t21 := Tryz.underlying21,
  a21 := Tryz.isAgg21,
  z21 := Tryz.sizeOf21,
  v21 := Tryz.zeroValue21,
  t46 := Tryz.underlying104,
  a46 := Tryz.isAgg104,
  z46 := Tryz.sizeOf104,
  v46 := Tryz.zeroValue104,
  t116 := Tryz.underlying109,
  a116 := Tryz.isAgg109,
  z116 := Tryz.sizeOf109,
  t117 := Tryz.underlying110,
  a117 := Tryz.isAgg110,
  z117 := Tryz.sizeOf110,
  v117 := Tryz.zeroValue110,
  t124 := Tryz.underlying113,
  a124 := Tryz.isAgg113,
  z124 := Tryz.sizeOf113,
  v124 := Tryz.zeroValue113 }
end Go.Proofs.YtgdemlebohlolaaGreatDoor.Ck
