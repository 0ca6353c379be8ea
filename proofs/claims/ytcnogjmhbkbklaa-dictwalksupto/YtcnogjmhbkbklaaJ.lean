import Derived.Test.YtcnogjmhbkbklaaI
/-
  DERIVED. The items of a sequence: the document's, at any tag.
-/
namespace Go.Proofs.Ytcnogjmhbkbklaa
open Go Go.Proofs Go.RowKit

set_option maxRecDepth 100000 in
set_option maxHeartbeats 2000000 in
theorem itemsR_out (w : World) (a : Option Addr) (n cap : Nat) (t : Int) (L : List Nd) (h : NV w a n cap L) (hsq : isSq L t = false) : Calls Try.prog 10 #[.slice a n cap, .int .u32 t] w fun e w' => e = .returned (.tuple #[.slice none 0 0, .bool false]) ∧ w = w' := by
  have HC : Hid _ := top_any w a n cap t L h
  have hle := plc_le L t
  unfold isSq at hsq
  unfold topI at HC
  obtain ⟨r, hr⟩ : ∃ r, plc L t = r := ⟨_, rfl⟩
  rw [hr] at HC hle hsq
  have hl := h.len
  clear hr
  by_cases hrl : r < L.length
  · obtain ⟨b, off, rfl, hn⟩ := h.lies (by omega)
    obtain ⟨-, c1, -, -⟩ := hn r hrl
    rw [if_pos hrl] at HC
    rw [List.getElem?_eq_getElem hrl] at hsq
    generalize L[r]'hrl = q at c1 hsq
    have hq : ¬ q.v = 18 := by simpa using hsq
    have hrI : ¬ (r : Int) < 0 := by omega
    have hrJ : (r : Int) < (n : Int) := by omega
    have hqb : (q.v != 18) = true := by simp [hq]
    clear hsq hn h hl hrl hle
    go_enter Try.func10, Try.ntmps10
    go_wp2_with (go_at_call 17; refine Calls.mono HC.out ?_; rintro ee W ⟨rfl, rfl⟩)
    refine bodyPost_ret (v := .tuple #[.slice none 0 0, .bool false]) (by simp [results, Try.results10, go_sem]) rfl ⟨rfl, rfl⟩
  · rw [if_neg hrl] at HC
    clear hl h hsq hle hrl
    go_enter Try.func10, Try.ntmps10
    go_wp2_with (go_at_call 17; refine Calls.mono HC.out ?_; rintro ee W ⟨rfl, rfl⟩)
    refine bodyPost_ret (v := .tuple #[.slice none 0 0, .bool false]) (by simp [results, Try.results10, go_sem]) rfl ⟨rfl, rfl⟩

theorem itemsR_any (w : World) (a : Option Addr) (n cap : Nat) (t : Int) (L : List Nd) (h : NV w a n cap L) : Calls Try.prog 10 #[.slice a n cap, .int .u32 t] w fun e w' => ∃ v, e = .returned (.tuple #[v, .bool (isSq L t)]) ∧ Hid (ItQ w.heap.size w (itm L t) v w') := by
  by_cases hs : isSq L t = true
  · have hs2 := hs
    unfold isSq at hs
    have hrl : plc L t < L.length := by
      rcases Nat.lt_or_ge (plc L t) L.length with q | q
      · exact q
      · rw [List.getElem?_eq_none q] at hs; cases hs
    rw [List.getElem?_eq_getElem hrl] at hs
    have hv : (L[plc L t]'hrl).v = 18 := by simpa using hs
    unfold itm
    rw [hs2]
    exact itemsR_in w a n cap t L h (plc L t) rfl hrl hv
  · have hs' : isSq L t = false := by simpa using hs
    refine (itemsR_out w a n cap t L h hs').mono ?_
    rintro e w' ⟨rfl, rfl⟩
    unfold itm
    rw [hs']
    exact ⟨_, rfl, ⟨[], LSt.empty _ _⟩, Below.refl _ _⟩
end Go.Proofs.Ytcnogjmhbkbklaa
