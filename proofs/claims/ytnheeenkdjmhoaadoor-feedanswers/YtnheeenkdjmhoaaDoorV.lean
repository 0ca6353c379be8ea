import Derived.Test.YtnheeenkdjmhoaaDoorT
/-
  DERIVED. Plain of what was escaped.
-/
namespace Go.Proofs.YtnheeenkdjmhoaaDoor
open Go Go.Proofs Go.RowKit

/-- The marks of what is written here. -/
def ourM : ByteArray := { data := #[124, 94, 126, 92, 38] }
/-- What one letter means. -/
def mean1 (said : List UInt8) : Option (List UInt8) :=
  if said = [70] then some [124] else if said = [83] then some [94] else if said = [82] then some [126] else if said = [69] then some [92] else if said = [84] then some [38] else none
theorem mean1_cases {said x : List UInt8} (h : mean1 said = some x) : (said = [70] ∧ x = [124]) ∨ (said = [83] ∧ x = [94]) ∨ (said = [82] ∧ x = [126]) ∨ (said = [69] ∧ x = [92]) ∨ (said = [84] ∧ x = [38]) := by
  unfold mean1 at h
  split at h
  · next h1 => simp at h; exact .inl ⟨h1, h.symm⟩
  · split at h
    · next h1 => simp at h; exact .inr (.inl ⟨h1, h.symm⟩)
    · split at h
      · next h1 => simp at h; exact .inr (.inr (.inl ⟨h1, h.symm⟩))
      · split at h
        · next h1 => simp at h; exact .inr (.inr (.inr (.inl ⟨h1, h.symm⟩)))
        · split at h
          · next h1 => simp at h; exact .inr (.inr (.inr (.inr ⟨h1, h.symm⟩)))
          · cases h

set_option maxRecDepth 100000 in
set_option maxHeartbeats 1000000 in
theorem mean_70 (w : World) : Calls Tryd.prog 48 #[.string ourM, .string { data := #[70] }] w fun e w' => e = .returned (.tuple #[.string (bs1 [124]), .bool true]) ∧ Below w.heap.size w w' := by
  have h := idx65 w { data := #[70, 83, 82, 69, 84] } { data := #[70] } 70 rfl
  have hi : Lib.indexByte (tl { data := #[70, 83, 82, 69, 84] }) 70 = 0 := by rfl
  rw [hi] at h
  have hx : ((({ data := #[70] } : ByteArray).extract 0 1).toList == [88]) = false := by rw [ByteArray.toList_eq]; rfl
  unfold  ourM
  go_enter Tryd.func48, Tryd.ntmps48
  go_wp2_with (first | (go_at_call 65; refine h.mono ?_; rintro e w' ⟨rfl, rfl⟩) | go_in)
  exact bodyPost_ret (v := .tuple #[.string (bs1 [124]), .bool true]) (by simp [results, Tryd.results48, go_sem]; rfl) rfl ⟨rfl, Below.refl _ _⟩

set_option maxRecDepth 100000 in
set_option maxHeartbeats 1000000 in
theorem mean_83 (w : World) : Calls Tryd.prog 48 #[.string ourM, .string { data := #[83] }] w fun e w' => e = .returned (.tuple #[.string (bs1 [94]), .bool true]) ∧ Below w.heap.size w w' := by
  have h := idx65 w { data := #[70, 83, 82, 69, 84] } { data := #[83] } 83 rfl
  have hi : Lib.indexByte (tl { data := #[70, 83, 82, 69, 84] }) 83 = 1 := by rfl
  rw [hi] at h
  have hx : ((({ data := #[83] } : ByteArray).extract 0 1).toList == [88]) = false := by rw [ByteArray.toList_eq]; rfl
  unfold  ourM
  go_enter Tryd.func48, Tryd.ntmps48
  go_wp2_with (first | (go_at_call 65; refine h.mono ?_; rintro e w' ⟨rfl, rfl⟩) | go_in)
  exact bodyPost_ret (v := .tuple #[.string (bs1 [94]), .bool true]) (by simp [results, Tryd.results48, go_sem]; rfl) rfl ⟨rfl, Below.refl _ _⟩

set_option maxRecDepth 100000 in
set_option maxHeartbeats 1000000 in
theorem mean_82 (w : World) : Calls Tryd.prog 48 #[.string ourM, .string { data := #[82] }] w fun e w' => e = .returned (.tuple #[.string (bs1 [126]), .bool true]) ∧ Below w.heap.size w w' := by
  have h := idx65 w { data := #[70, 83, 82, 69, 84] } { data := #[82] } 82 rfl
  have hi : Lib.indexByte (tl { data := #[70, 83, 82, 69, 84] }) 82 = 2 := by rfl
  rw [hi] at h
  have hx : ((({ data := #[82] } : ByteArray).extract 0 1).toList == [88]) = false := by rw [ByteArray.toList_eq]; rfl
  unfold  ourM
  go_enter Tryd.func48, Tryd.ntmps48
  go_wp2_with (first | (go_at_call 65; refine h.mono ?_; rintro e w' ⟨rfl, rfl⟩) | go_in)
  exact bodyPost_ret (v := .tuple #[.string (bs1 [126]), .bool true]) (by simp [results, Tryd.results48, go_sem]; rfl) rfl ⟨rfl, Below.refl _ _⟩

set_option maxRecDepth 100000 in
set_option maxHeartbeats 1000000 in
theorem mean_69 (w : World) : Calls Tryd.prog 48 #[.string ourM, .string { data := #[69] }] w fun e w' => e = .returned (.tuple #[.string (bs1 [92]), .bool true]) ∧ Below w.heap.size w w' := by
  have h := idx65 w { data := #[70, 83, 82, 69, 84] } { data := #[69] } 69 rfl
  have hi : Lib.indexByte (tl { data := #[70, 83, 82, 69, 84] }) 69 = 3 := by rfl
  rw [hi] at h
  have hx : ((({ data := #[69] } : ByteArray).extract 0 1).toList == [88]) = false := by rw [ByteArray.toList_eq]; rfl
  unfold  ourM
  go_enter Tryd.func48, Tryd.ntmps48
  go_wp2_with (first | (go_at_call 65; refine h.mono ?_; rintro e w' ⟨rfl, rfl⟩) | go_in)
  exact bodyPost_ret (v := .tuple #[.string (bs1 [92]), .bool true]) (by simp [results, Tryd.results48, go_sem]; rfl) rfl ⟨rfl, Below.refl _ _⟩

set_option maxRecDepth 100000 in
set_option maxHeartbeats 1000000 in
theorem mean_84 (w : World) : Calls Tryd.prog 48 #[.string ourM, .string { data := #[84] }] w fun e w' => e = .returned (.tuple #[.string (bs1 [38]), .bool true]) ∧ Below w.heap.size w w' := by
  have h := idx65 w { data := #[70, 83, 82, 69, 84] } { data := #[84] } 84 rfl
  have hi : Lib.indexByte (tl { data := #[70, 83, 82, 69, 84] }) 84 = 4 := by rfl
  rw [hi] at h
  have hx : ((({ data := #[84] } : ByteArray).extract 0 1).toList == [88]) = false := by rw [ByteArray.toList_eq]; rfl
  unfold  ourM
  go_enter Tryd.func48, Tryd.ntmps48
  go_wp2_with (first | (go_at_call 65; refine h.mono ?_; rintro e w' ⟨rfl, rfl⟩) | go_in)
  exact bodyPost_ret (v := .tuple #[.string (bs1 [38]), .bool true]) (by simp [results, Tryd.results48, go_sem]; rfl) rfl ⟨rfl, Below.refl _ _⟩

theorem means1 (out : List UInt8) (n : Nat) : Means mean1 ourM (.inr out) n := by
  refine ⟨fun W said x _ hx => ?_, (fun k h => (by cases h)), fun said x hx => ?_⟩
  · rcases mean1_cases hx with ⟨h1, rfl⟩ | ⟨h1, rfl⟩ | ⟨h1, rfl⟩ | ⟨h1, rfl⟩ | ⟨h1, rfl⟩
    · obtain rfl : said = { data := #[70] } := tl_ext h1
      exact mean_70 W
    · obtain rfl : said = { data := #[83] } := tl_ext h1
      exact mean_83 W
    · obtain rfl : said = { data := #[82] } := tl_ext h1
      exact mean_82 W
    · obtain rfl : said = { data := #[69] } := tl_ext h1
      exact mean_69 W
    · obtain rfl : said = { data := #[84] } := tl_ext h1
      exact mean_84 W
  · rcases mean1_cases hx with ⟨rfl, rfl⟩ | ⟨rfl, rfl⟩ | ⟨rfl, rfl⟩ | ⟨rfl, rfl⟩ | ⟨rfl, rfl⟩ <;> simp

theorem plain_esc : ∀ (l : List UInt8) (pos : Nat) (out : List UInt8), PlainR mean1 92 (escL l) pos out (.inr (out ++ l))
  | [], pos, out => by simpa [escL] using PlainR.done (M := mean1) (e := 92) pos out
  | c :: l, pos, out => by
    have e0 : escL (c :: l) = esc1 c ++ escL l := by simp [escL]
    have ih := fun p => plain_esc l p (out ++ [c])
    simp only [List.append_assoc, List.singleton_append] at ih
    rw [e0]
    unfold esc1
    split
    · next h => subst h; exact PlainR.esc [70] (escL l) pos out [124] _ (by decide) rfl (by simpa using ih _)
    · split
      · next h => subst h; exact PlainR.esc [83] (escL l) pos out [94] _ (by decide) rfl (by simpa using ih _)
      · split
        · next h => subst h; exact PlainR.esc [82] (escL l) pos out [126] _ (by decide) rfl (by simpa using ih _)
        · split
          · next h => subst h; exact PlainR.esc [69] (escL l) pos out [92] _ (by decide) rfl (by simpa using ih _)
          · next h92 =>
            split
            · next h => subst h; exact PlainR.esc [84] (escL l) pos out [38] _ (by decide) rfl (by simpa using ih _)
            · exact PlainR.byte c (escL l) pos out _ h92 (by simpa using ih _)

theorem ourM_ok : MarksOK (tl ourM) := by
  refine ⟨rfl, ?_, ?_⟩
  · intro x hx
    have : x ∈ ([124, 94, 126, 92, 38] : List UInt8) := hx
    simp at this
    rcases this with rfl | rfl | rfl | rfl | rfl <;> rfl
  · show ([124, 94, 126, 92, 38] : List UInt8).Nodup
    decide

set_option maxRecDepth 100000 in
set_option maxHeartbeats 1000000 in
theorem Plain_esc (w : World) (s : ByteArray) (l : List UInt8) (hs : tl s = escL l) (hl : s.size ≤ 16000000) : Calls Tryd.prog 11 #[.string ourM, .string s] w fun e w' => e = .returned (.tuple #[.string (bs1 l), .nilIface]) ∧ Below w.heap.size w w' := by
  have h1 := marks_any w ourM
  have hP : PlainR mean1 92 (tl s) 0 [] (.inr l) := by rw [hs]; simpa using plain_esc l 0 []
  have h2 := fun W => plain_any mean1 92 (.inr l) W ourM s hl rfl rfl (by decide) (means1 l s.size) hP
  have ho := ourM_ok
  obtain ⟨mk, hmk⟩ : ∃ mk, ourM = mk := ⟨_, rfl⟩
  rw [hmk] at h1 h2 ho ⊢
  go_enter Tryd.func11, Tryd.ntmps11
  go_wp2_with (go_at_call 25; refine StopF.out ?_)
  refine StopF.mk (h1.mono ?_)
  rintro e W1 ⟨b, rfl, hb, hb1⟩
  obtain rfl : b = true := hb.2 ho
  go_wp2_with (go_at_call 26; refine StopF.out ?_)
  refine StopF.mk ((h2 _).mono ?_)
  rintro e W2 ⟨h3, hb2⟩
  rcases h3 with ⟨n, hn, _⟩ | ⟨out, hout, rfl⟩
  · cases hn
  · obtain rfl : l = out := by simpa using hout
    clear hout hb h1 h2 hP ho hmk hs
    go_wp2
    exact bodyPost_ret (v := .tuple #[.string (bs1 l), .nilIface]) (by simp [results, Tryd.results11, go_sem]) rfl ⟨rfl, hb1.trans (hb2.mono hb1.size)⟩
end Go.Proofs.YtnheeenkdjmhoaaDoor
