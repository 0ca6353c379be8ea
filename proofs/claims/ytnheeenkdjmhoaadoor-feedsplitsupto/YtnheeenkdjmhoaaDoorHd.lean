import Derived.Test.YtnheeenkdjmhoaaDoorHc
import Derived.Test.YtnheeenkdjmhoaaDoorTb
/-
  DERIVED. What an escape means, for any marks; Plain of the program.
-/
namespace Go.Proofs.YtnheeenkdjmhoaaDoor
open Go Go.Proofs Go.RowKit

/-- The place of the mark that a letter stands for. -/
def ltrI (c : UInt8) : Option Nat := if c = 70 then some 0 else if c = 83 then some 1 else if c = 82 then some 2 else if c = 69 then some 3 else if c = 84 then some 4 else none
/-- What the inside of an escape means. -/
def meanO (mk said : List UInt8) : Option (List UInt8) :=
  if said.head? = some 88 then hexO said.tail else if said.length = 1 then (ltrI (said.getD 0 0)).map fun i => [mk.getD i 0] else none
theorem meanO_len (mk said x : List UInt8) (h : meanO mk said = some x) : x.length ≤ said.length := by
  unfold meanO at h
  split at h
  · unfold hexO at h
    split at h
    · cases h
    · have := hexP_len _ _ h
      simp at this; omega
  · split at h
    · next h1 =>
      simp only [Option.map_eq_some_iff] at h
      obtain ⟨i, _, rfl⟩ := h
      simp [h1]
    · cases h
theorem ltrI_idx (c : UInt8) : Lib.indexByte [70, 83, 82, 69, 84] c = (match ltrI c with
    | some i => (i : Int)
    | none => -1) := by
  unfold ltrI
  by_cases h1 : c = 70
  · subst h1; rfl
  · by_cases h2 : c = 83
    · subst h2; rfl
    · by_cases h3 : c = 82
      · subst h3; rfl
      · by_cases h4 : c = 69
        · subst h4; rfl
        · by_cases h5 : c = 84
          · subst h5; rfl
          · have f1 : ((70 : UInt8) == c) = false := by simpa using Ne.symm h1
            have f2 : ((83 : UInt8) == c) = false := by simpa using Ne.symm h2
            have f3 : ((82 : UInt8) == c) = false := by simpa using Ne.symm h3
            have f4 : ((69 : UInt8) == c) = false := by simpa using Ne.symm h4
            have f5 : ((84 : UInt8) == c) = false := by simpa using Ne.symm h5
            simp [h1, h2, h3, h4, h5, Lib.indexByte, f1, f2, f3, f4, f5]
theorem ltrI_lt {c : UInt8} {i : Nat} (h : ltrI c = some i) : i < 5 := by
  unfold ltrI at h
  repeat' split at h
  all_goals simp at h
  all_goals omega

set_option maxRecDepth 100000 in
set_option maxHeartbeats 4000000 in
theorem mean_any (w : World) (mk said : ByteArray) (hl : said.size ≤ 16000000) (hm : mk.size = 5) (hg : Glob w) : Calls Tryd.prog 48 #[.string mk, .string said] w fun e w' => ((∃ x, meanO (tl mk) (tl said) = some x ∧ e = .returned (.tuple #[.string (bs1 x), .bool true])) ∨ (meanO (tl mk) (tl said) = none ∧ ∃ q, e = .returned (.tuple #[.string q, .bool false]))) ∧ Below w.heap.size w w' := by
  by_cases hX : (tl said).head? = some 88
  · have hM : meanO (tl mk) (tl said) = hexO (tl said).tail := by unfold meanO; rw [if_pos hX]
    rw [hM]
    have hne : 1 ≤ said.size := by
      rw [← tl_len]; cases hq : tl said with
      | nil => rw [hq] at hX; simp at hX
      | cons a b => simp
    have e1 : ((said.extract 0 1).toList == [88]) = true := by
      rw [ByteArray.toList_eq]
      have := tl_extract said 0 1
      cases hq : tl said with
      | nil => rw [hq] at hX; simp at hX
      | cons a b =>
        rw [hq] at hX this
        simp at hX
        subst hX
        show (tl (said.extract 0 1) == [88]) = true
        rw [this]; rfl
    have e2 : tl (said.extract 1 said.size) = (tl said).tail := by
      rw [tl_extract, ← tl_len, List.take_length, List.drop_one]
    have t1 : decide ((1 : Int) ≤ (said.size : Int)) = true := by simp; omega
    have hx := hex60 w (said.extract 1 said.size) (by rw [size_between said (Nat.le_refl _)]; omega) hg
    rw [e2] at hx
    obtain ⟨R, hR⟩ : ∃ R, hexO (tl said).tail = R := ⟨_, rfl⟩
    rw [hR] at hx ⊢
    clear hM hX e2 hR
    go_enter Tryd.func48, Tryd.ntmps48
    go_wp2_with (first | (go_at_call 60; refine StopF.out ?_) | go_in)
    refine StopF.mk (hx.mono ?_)
    rintro e W1 ⟨hr, hb⟩
    rcases hr with ⟨l, h1, rfl⟩ | ⟨h1, rfl⟩
    · have HR : Hid (R = some l) := h1
      clear h1
      go_wp2
      exact bodyPost_ret (v := .tuple #[.string (bs1 l), .bool true]) (by simp [results, Tryd.results48, go_sem]) rfl ⟨.inl ⟨l, HR.out, rfl⟩, hb⟩
    · have HR : Hid (R = none) := h1
      clear h1
      go_wp2
      exact bodyPost_ret (v := .tuple #[.string { data := #[] }, .bool false]) (by simp [results, Tryd.results48, go_sem]) rfl ⟨.inr ⟨HR.out, _, rfl⟩, hb⟩
  · have hpre : (said.size = 0) ∨ (1 ≤ said.size ∧ ((said.extract 0 1).toList == [88]) = false) := by
      cases hq : tl said with
      | nil => left; rw [← tl_len, hq]; rfl
      | cons a b =>
        right
        refine ⟨by rw [← tl_len, hq]; simp, ?_⟩
        rw [ByteArray.toList_eq]
        have := tl_extract said 0 1
        rw [hq] at this hX
        simp at hX
        show (tl (said.extract 0 1) == [88]) = false
        rw [this]
        simpa using hX
    by_cases h1 : said.size = 1
    · have hM : meanO (tl mk) (tl said) = (ltrI ((tl said).getD 0 0)).map fun i => [(tl mk).getD i 0] := by unfold meanO; rw [if_neg hX, if_pos (by rw [tl_len]; exact h1)]
      rw [hM]
      have ht : tl said = [(tl said).getD 0 0] := by
        cases hq : tl said with
        | nil => have := tl_len said; rw [hq] at this; simp at this; omega
        | cons a b =>
          have hb0 : b = [] := List.eq_nil_of_length_eq_zero (by have := tl_len said; rw [hq] at this; simp at this; omega)
          rw [hb0]; rfl
      obtain ⟨c, hc⟩ : ∃ c, (tl said).getD 0 0 = c := ⟨_, rfl⟩
      rw [hc] at ht ⊢
      have hix := idx65 w { data := #[70, 83, 82, 69, 84] } said c ht
      have hiv : Lib.indexByte (tl { data := #[70, 83, 82, 69, 84] }) c = _ := ltrI_idx c
      rw [hiv] at hix
      have e1 : ((said.extract 0 1).toList == [88]) = false := by
        rcases hpre with h | h
        · omega
        · exact h.2
      have t1 : decide ((1 : Int) ≤ (said.size : Int)) = true := by simp; omega
      have t2 : ((said.size : Int) == 1) = true := by simp; omega
      clear hpre hX hM hiv ht hc
      cases hL : ltrI c with
      | none =>
        rw [hL] at hix
        go_enter Tryd.func48, Tryd.ntmps48
        go_wp2_with (first | (go_at_call 65; refine hix.mono ?_; rintro e w' ⟨rfl, rfl⟩) | go_in)
        exact bodyPost_ret (v := .tuple #[.string { data := #[] }, .bool false]) (by simp [results, Tryd.results48, go_sem]) rfl ⟨.inr ⟨rfl, _, rfl⟩, Below.refl _ _⟩
      | some i =>
        rw [hL] at hix
        have hi5 := ltrI_lt hL
        have hix' : Calls Tryd.prog 65 #[.string { data := #[70, 83, 82, 69, 84] }, .string said] w fun e w' => e = .returned (.int .i64 (i : Int)) ∧ w = w' := hix
        have t3 : decide ((i : Int) < 0) = false := by simp
        have ex : bs1 [(tl mk).getD i 0] = mk.extract i (i + 1) := by
          apply tl_ext
          rw [tl_bs1, tl_extract, List.drop_take]
          have : i + 1 - i = 1 := by omega
          rw [this, List.drop_eq_getElem_cons (by rw [tl_len]; omega), List.getD_eq_getElem?_getD, List.getElem?_eq_getElem (by rw [tl_len]; omega)]
          rfl
        clear hix hL
        go_enter Tryd.func48, Tryd.ntmps48
        go_wp2_with (first | (go_at_call 65; refine hix'.mono ?_; rintro e w' ⟨rfl, rfl⟩) | go_in)
        exact bodyPost_ret (v := .tuple #[.string (mk.extract i (i + 1)), .bool true]) (by simp [results, Tryd.results48, go_sem]) rfl ⟨.inl ⟨_, rfl, by rw [ex]⟩, Below.refl _ _⟩
    · have hM : meanO (tl mk) (tl said) = none := by unfold meanO; rw [if_neg hX, if_neg (by rw [tl_len]; exact h1)]
      obtain ⟨R, hR⟩ : ∃ R, meanO (tl mk) (tl said) = R := ⟨_, rfl⟩
      rw [hR] at hM ⊢
      have HRn : Hid (R = none) := hM
      clear hR
      obtain ⟨_, m, hmx⟩ := hg
      have hix := idx61 w { data := #[70, 83, 82, 69, 84] } said m (by decide) hmx
      obtain ⟨I, hI⟩ : ∃ I, Lib.index (#[70, 83, 82, 69, 84] : Array UInt8).toList said.data.toList = I := ⟨_, rfl⟩
      have hix' : Calls Tryd.prog 61 #[.string { data := #[70, 83, 82, 69, 84] }, .string said] w fun e w' => e = .returned (.int .i64 I) ∧ w = w' := hix.mono fun e w' ⟨h1, h2⟩ => ⟨by rw [h1, ← hI], h2.symm⟩
      have t2 : ((said.size : Int) == 1) = false := by simp; omega
      clear hM hX hix hI
      rcases hpre with h0 | ⟨h0, e1⟩
      · have t1 : decide ((1 : Int) ≤ (said.size : Int)) = false := by simp; omega
        go_enter Tryd.func48, Tryd.ntmps48
        go_wp2_with (first | (go_at_call 61; refine hix'.mono ?_; rintro e w' ⟨rfl, rfl⟩) | go_in)
        exact bodyPost_ret (v := .tuple #[.string { data := #[] }, .bool false]) (by simp [results, Tryd.results48, go_sem]) rfl ⟨.inr ⟨HRn.out, _, rfl⟩, Below.refl _ _⟩
      · have t1 : decide ((1 : Int) ≤ (said.size : Int)) = true := by simp; omega
        go_enter Tryd.func48, Tryd.ntmps48
        go_wp2_with (first | (go_at_call 61; refine hix'.mono ?_; rintro e w' ⟨rfl, rfl⟩) | go_in)
        exact bodyPost_ret (v := .tuple #[.string { data := #[] }, .bool false]) (by simp [results, Tryd.results48, go_sem]) rfl ⟨.inr ⟨HRn.out, _, rfl⟩, Below.refl _ _⟩

theorem means_any (w : World) (mk : ByteArray) (R : Nat ⊕ List UInt8) (n : Nat) (hn : n ≤ 16000000) (hm : mk.size = 5) (hg : Glob w) : MeansW w (meanO (tl mk)) mk R n := by
  refine ⟨fun W hW said x hs hx => ?_, fun k _ W hW said hs => ?_, fun said x h => meanO_len _ _ _ h⟩
  · refine (mean_any W mk said (by omega) hm (hg.on hW)).mono ?_
    rintro e w' ⟨h1, h2⟩
    rcases h1 with ⟨y, hy, rfl⟩ | ⟨hy, _⟩
    · rw [hx] at hy; cases hy; exact ⟨rfl, h2⟩
    · rw [hx] at hy; cases hy
  · refine (mean_any W mk said (by omega) hm (hg.on hW)).mono ?_
    rintro e w' ⟨h1, h2⟩
    rcases h1 with ⟨y, hy, rfl⟩ | ⟨hy, q, rfl⟩
    · exact ⟨_, _, rfl, fun h => (by rw [hy] at h; cases h), h2⟩
    · exact ⟨_, _, rfl, fun _ => rfl, h2⟩

/-- What Plain tells. -/
inductive PlO (mk l : List UInt8) : Option (Int × Int) → List UInt8 → Prop
  | hd : ¬ MarksOK mk → PlO mk l (some (0, 220)) []
  | bad (n : Nat) : MarksOK mk → PlainR (meanO mk) (mk.getD 3 0) l 0 [] (.inl n) → PlO mk l (some (n, 225)) []
  | good (out : List UInt8) : MarksOK mk → PlainR (meanO mk) (mk.getD 3 0) l 0 [] (.inr out) → PlO mk l none out
theorem pl_is (mk l : List UInt8) : ∃ o out, PlO mk l o out := by
  by_cases h : MarksOK mk
  · obtain ⟨R, hR⟩ := plain_is (meanO mk) (mk.getD 3 0) l.length l (Nat.le_refl _) 0 []
    cases R with
    | inl n => exact ⟨_, _, .bad n h hR⟩
    | inr out => exact ⟨_, _, .good out h hR⟩
  · exact ⟨_, _, .hd h⟩
theorem marks_e {mk : List UInt8} (h : MarksOK mk) : (mk.getD 3 0).toNat < 128 := by
  obtain ⟨h1, h2, _⟩ := h
  refine (mkB_lt (h2 (mk.getD 3 0) ?_)).1
  rw [List.getD_eq_getElem?_getD, List.getElem?_eq_getElem (by omega)]
  exact List.getElem_mem _

set_option maxRecDepth 100000 in
set_option maxHeartbeats 1000000 in
theorem Plain_any (w : World) (mk s : ByteArray) (hl : s.size ≤ 16000000) (hg : Glob w) (o : Option (Int × Int)) (out : List UInt8) (h : PlO (tl mk) (tl s) o out) : Calls Tryd.prog 11 #[.string mk, .string s] w fun e w' => ∃ u, e = .returned (.tuple #[.string (bs1 out), u]) ∧ PErr w' u o ∧ Below w.heap.size w w' := by
  have h1 := marks_any w mk
  go_enter Tryd.func11, Tryd.ntmps11
  go_wp2_with (go_at_call 25; refine StopF.out ?_)
  refine StopF.mk (h1.mono ?_)
  rintro e W1 ⟨b, rfl, hb, hb1⟩
  clear h1
  have hplain : ∀ R, MarksOK (tl mk) → PlainR (meanO (tl mk)) ((tl mk).getD 3 0) (tl s) 0 [] R → _ := fun R hk hR =>
    plainW_any (meanO (tl mk)) ((tl mk).getD 3 0) R W1 mk s hl (by rw [← tl_len]; exact hk.1) rfl (marks_e hk) (means_any W1 mk R s.size hl (by rw [← tl_len]; exact hk.1) (hg.on hb1)) hR
  cases h with
  | hd hn =>
    obtain rfl : b = false := by
      cases b with
      | false => rfl
      | true => exact absurd (hb.1 rfl) hn
    clear hb hplain
    go_wp2_with (go_at_call 17; refine StopF.out ?_)
    refine StopF.mk ((refusal_any 0 220 _).mono ?_)
    rintro e W2 ⟨u, rfl, hu, hb2⟩
    go_wp2
    exact bodyPost_ret (v := .tuple #[.string { data := #[] }, u]) (by simp [results, Tryd.results11, go_sem]) rfl ⟨u, rfl, hu, hb1.trans (hb2.mono hb1.size)⟩
  | bad n hk hR =>
    obtain rfl : b = true := hb.2 hk
    have h2 := hplain _ hk hR
    clear hb hplain hR
    go_wp2_with (go_at_call 26; refine StopF.out ?_)
    refine StopF.mk (h2.mono ?_)
    rintro e W2 ⟨h3, hb2⟩
    rcases h3 with ⟨n', hn, rfl⟩ | ⟨out', hout, _⟩
    · obtain rfl : n = n' := by simpa using hn
      clear hn h2
      go_wp2_with (go_at_call 17; refine StopF.out ?_)
      refine StopF.mk ((refusal_any (n : Int) 225 _).mono ?_)
      rintro e W3 ⟨u, rfl, hu, hb3⟩
      go_wp2
      have q1 := hb1.size; have q2 := hb2.size
      exact bodyPost_ret (v := .tuple #[.string { data := #[] }, u]) (by simp [results, Tryd.results11, go_sem]) rfl ⟨u, rfl, hu, (hb1.trans (hb2.mono q1)).trans (hb3.mono (by omega))⟩
    · cases hout
  | good out hk hR =>
    obtain rfl : b = true := hb.2 hk
    have h2 := hplain _ hk hR
    clear hb hplain hR
    go_wp2_with (go_at_call 26; refine StopF.out ?_)
    refine StopF.mk (h2.mono ?_)
    rintro e W2 ⟨h3, hb2⟩
    rcases h3 with ⟨n', hn, _⟩ | ⟨out', hout, rfl⟩
    · cases hn
    · obtain rfl : out = out' := by simpa using hout
      clear hout h2
      go_wp2
      exact bodyPost_ret (v := .tuple #[.string (bs1 out), .nilIface]) (by simp [results, Tryd.results11, go_sem]) rfl ⟨_, rfl, rfl, hb1.trans (hb2.mono hb1.size)⟩
end Go.Proofs.YtnheeenkdjmhoaaDoor
