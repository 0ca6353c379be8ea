import Derived.Test.YtfjcmniicbppdaaFe
import Derived.Laws.RangeAny
import Derived.Lib.OthersKept
/-
  DERIVED. Marks by their escapes: pure, and the document's.
-/
namespace Go.Proofs.Ytfjcmniicbppdaa
open Go Go.Proofs Go.RowKit

/-- A byte, a mark by its escape. -/
def esc1 (c : UInt8) : List UInt8 := if c = 124 then [92, 70, 92] else if c = 94 then [92, 83, 92] else if c = 126 then [92, 82, 92] else if c = 92 then [92, 69, 92] else if c = 38 then [92, 84, 92] else [c]
def escL (l : List UInt8) : List UInt8 := l.flatMap esc1
theorem escL_append (a b : List UInt8) : escL (a ++ b) = escL a ++ escL b := by simp [escL]
theorem escL_one (c : UInt8) : escL [c] = esc1 c := by simp [escL]
theorem esc1_len (c : UInt8) : (esc1 c).length ≤ 3 := by unfold esc1; repeat' split
                                                         all_goals simp
theorem escL_len : ∀ l : List UInt8, (escL l).length ≤ 3 * l.length
  | [] => by simp [escL]
  | c :: l => by
    have h1 := esc1_len c
    have h2 := escL_len l
    have : escL (c :: l) = esc1 c ++ escL l := by simp [escL]
    rw [this, List.length_append, List.length_cons]
    omega
/-- The bytes of a text. -/
def tl (s : ByteArray) : List UInt8 := s.data.toList
theorem tl_len (s : ByteArray) : (tl s).length = s.size := by rw [tl, Array.length_toList]; rfl
theorem tl_app (a b : ByteArray) : tl (a ++ b) = tl a ++ tl b := by rw [tl, tl, tl, ByteArray.data_append, Array.toList_append]
theorem tl_ext {a b : ByteArray} (h : tl a = tl b) : a = b := by
  cases a; cases b; simp only [tl] at h; congr; exact Array.toList_inj.1 h
theorem tl_mk (l : List UInt8) : tl ⟨l.toArray⟩ = l := by simp [tl]
theorem tl_get (s : ByteArray) (k : Nat) (h : k < s.size) : (tl s)[k]'(by rw [tl_len]; exact h) = s[k] := by simp [tl]; rfl
theorem tl_take_succ (s : ByteArray) (k : Nat) (h : k < s.size) : (tl s).take (k + 1) = (tl s).take k ++ [s[k]] := by
  rw [List.take_succ_eq_append_getElem (by rw [tl_len]; exact h), tl_get s k h]
theorem tl_extract (s : ByteArray) (i j : Nat) : tl (s.extract i j) = ((tl s).take j).drop i := by
  simp [tl, ByteArray.data_extract, List.drop_take]
theorem u8_eq {c : UInt8} {n : Nat} (h : c.toNat = n) (hn : n < 256) : c = UInt8.ofNat n := by
  apply UInt8.toNat_inj.1; rw [h]; simp [UInt8.toNat_ofNat']; omega

/-- Which of the marks a byte is, or none. -/
theorem mark_ways (y : Nat) : y = 124 ∨ y = 94 ∨ y = 126 ∨ y = 92 ∨ y = 38 ∨ (y ≠ 124 ∧ y ≠ 94 ∧ y ≠ 126 ∧ y ≠ 92 ∧ y ≠ 38) := by omega

set_option maxRecDepth 100000 in
set_option maxHeartbeats 2000000 in
theorem escR_any (w : World) (s : ByteArray) (hl : s.size ≤ 1000) : Calls Try.prog 32 #[.string s] w fun e w' => ∃ o, e = .returned (.string o) ∧ tl o = escL (tl s) ∧ w' = w := by
  go_enter Try.func32, Try.ntmps32
  go_wp2
  go_loopw [3, 4] (fun o i wr => ∃ (k : Nat) (o' : ByteArray), k ≤ s.size ∧ i = .int .i64 k ∧ o = .string o' ∧ Hid (tl o' = escL ((tl s).take k)) ∧ wr = w) (fun _ i _ => s.size - (intOf i).toNat)
  case atStart => exact ⟨0, _, Nat.zero_le _, rfl, rfl, rfl, rfl⟩
  case round =>
    obtain ⟨k, o, hk, rfl, rfl, HO, rfl⟩ := hrel
    have ho : o.size ≤ 3 * k := by
      rw [← tl_len, HO.out]
      refine Nat.le_trans (escL_len _) ?_
      rw [List.length_take, tl_len]; omega
    have ho3 : ¬ (9223372036854775807 < o.size + 3) := by omega
    have ho1 : ¬ (9223372036854775807 < o.size + 1) := by omega
    by_cases hkn : k < s.size
    · have ht := tl_take_succ s k hkn
      obtain ⟨c, hc⟩ : ∃ c, s[k] = c := ⟨_, rfl⟩
      rw [hc] at ht
      obtain ⟨y, hy⟩ : ∃ y, c.toNat = y := ⟨_, rfl⟩
      have hsy : s[k].toNat = y := by rw [hc]; exact hy
      have hc2 : tl (s.extract k (k + 1)) = [c] := by
        rw [tl_extract, ht, List.drop_append, List.drop_eq_nil_of_le (by rw [List.length_take]; omega), List.length_take, tl_len]
        simp [Nat.min_eq_left hk]
      have HC2 : Hid (tl (s.extract k (k + 1)) = [c]) := hc2
      have HT : Hid ((tl s).take (k + 1) = (tl s).take k ++ [c]) := ht
      have HY : Hid (c.toNat = y) := hy
      clear ho hc2 ht hc hy
      rcases mark_ways y with h | h | h | h | h | ⟨h1, h2, h3, h4, h5⟩
      · subst h
        have e := u8_eq HY.out (by decide)
        go_wp2
        go_roundw
        case rel => exact ⟨k + 1, _, by omega, by go_num, rfl, by rw [tl_app, HO.out, HT.out, escL_append, escL_one, e]; rfl, trivial⟩
        case measure => simp [intOf]; omega
      · subst h
        have e := u8_eq HY.out (by decide)
        go_wp2
        go_roundw
        case rel => exact ⟨k + 1, _, by omega, by go_num, rfl, by rw [tl_app, HO.out, HT.out, escL_append, escL_one, e]; rfl, trivial⟩
        case measure => simp [intOf]; omega
      · subst h
        have e := u8_eq HY.out (by decide)
        go_wp2
        go_roundw
        case rel => exact ⟨k + 1, _, by omega, by go_num, rfl, by rw [tl_app, HO.out, HT.out, escL_append, escL_one, e]; rfl, trivial⟩
        case measure => simp [intOf]; omega
      · subst h
        have e := u8_eq HY.out (by decide)
        go_wp2
        go_roundw
        case rel => exact ⟨k + 1, _, by omega, by go_num, rfl, by rw [tl_app, HO.out, HT.out, escL_append, escL_one, e]; rfl, trivial⟩
        case measure => simp [intOf]; omega
      · subst h
        have e := u8_eq HY.out (by decide)
        go_wp2
        go_roundw
        case rel => exact ⟨k + 1, _, by omega, by go_num, rfl, by rw [tl_app, HO.out, HT.out, escL_append, escL_one, e]; rfl, trivial⟩
        case measure => simp [intOf]; omega
      · have n1 : ((y : Int) == 124) = false := by simp; omega
        have n2 : ((y : Int) == 94) = false := by simp; omega
        have n3 : ((y : Int) == 126) = false := by simp; omega
        have n4 : ((y : Int) == 92) = false := by simp; omega
        have n5 : ((y : Int) == 38) = false := by simp; omega
        have e : esc1 c = [c] := by
          have hh := HY.out
          unfold esc1
          rw [if_neg, if_neg, if_neg, if_neg, if_neg] <;> (intro hx; subst hx; simp at hh; omega)
        have hz : (s.extract k (k + 1)).size = 1 := by rw [← tl_len, HC2.out]; rfl
        go_wp2
        go_roundw
        case rel => exact ⟨k + 1, _, by omega, by go_num, rfl, by rw [tl_app, HO.out, HT.out, HC2.out, escL_append, escL_one, e]; exact rfl, trivial⟩
        case measure => simp [intOf]; omega
    · have hk' : k = s.size := by omega
      have HK : Hid (k = s.size) := hk'
      clear hk'
      go_wp2
      go_ret
      exact ⟨o, rfl, by rw [HO.out, HK.out, ← tl_len, List.take_length], rfl⟩
end Go.Proofs.Ytfjcmniicbppdaa
