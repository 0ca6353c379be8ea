import Derived.Test.YtcnogjmhbkbklaaB
/-
  DERIVED. The place of a tag on the top level, the value there: both sides.
-/
namespace Go.Proofs.Ytcnogjmhbkbklaa
open Go Go.Proofs Go.RowKit

theorem plcF_at {L : List Nd} {t : Int} {f i : Nat} (h : i < L.length) (ht : (L[i]'h).t = t) : plcF L t (f + 1) i = i := by
  rw [plcF, dif_pos h, if_pos ht]
theorem plcF_on {L : List Nd} {t : Int} {f i : Nat} (h : i < L.length) (ht : (L[i]'h).t ≠ t) : plcF L t (f + 1) i = plcF L t f (nxt L i) := by
  rw [plcF, dif_pos h, if_neg ht]
theorem plcF_end {L : List Nd} {t : Int} {f : Nat} : plcF L t f L.length = L.length := by
  cases f with
  | zero => rfl
  | succ f => rw [plcF, dif_neg (by omega)]

set_option maxRecDepth 100000 in
set_option maxHeartbeats 1000000 in
theorem place_any (w : World) (a : Option Addr) (n cap : Nat) (t : Int) (L : List Nd) (h : NV w a n cap L) : Calls Try.prog 16 #[.slice a n cap, .int .u32 t] w fun e w' => e = .returned (.int .i64 (plc L t : Int)) ∧ w = w' := by
  obtain ⟨r, hr⟩ : ∃ r, plc L t = r := ⟨_, rfl⟩
  have HR : Hid (plcF L t L.length 0 = r) := hr
  rw [hr]
  clear hr
  have HV : Hid (NV w a n cap L) := h
  have HN : Hid (n = L.length) := h.len
  have hsm := h.small
  clear h
  go_enter Try.func16, Try.ntmps16
  go_wp2
  go_loop [5] (fun s5 => ∃ j f : Nat, s5 = .int .i64 (j : Int) ∧ j ≤ n ∧ n ≤ j + f ∧ Hid (plcF L t f j = r)) (fun s5 => n - (intOf s5).toNat)
  case atStart => exact ⟨0, n, rfl, by omega, by omega, by rw [HN.out]; exact HR⟩
  case round =>
    obtain ⟨j, f, rfl, hj, hf, HJ⟩ := hrel
    by_cases hjn : j < n
    · have hjI : (j : Int) < (n : Int) := by omega
      have hjl : j < L.length := by rw [← HN.out]; exact hjn
      obtain ⟨b, off, rfl, hl⟩ := HV.out.lies (by omega)
      obtain ⟨c0, -, -, -⟩ := hl j hjl
      obtain ⟨f', rfl⟩ : ∃ f', f = f' + 1 := ⟨f - 1, by omega⟩
      by_cases ht : (L[j]'hjl).t = t
      · have HE : Hid (j = r) := by have := HJ.out; rw [plcF_at hjl ht] at this; exact this
        rw [ht] at c0
        clear hl
        go_wp2
        go_ret
        exact ⟨by rw [← HE.out]; rfl, rfl⟩
      · have HE : Hid (plcF L t f' (nxt L j) = r) := by have := HJ.out; rw [plcF_on hjl ht] at this; exact this
        have hgt := nxt_gt hjl
        have hle := nxt_le (L := L) (i := j) (by omega)
        rw [← HN.out] at hle
        have HC : Hid _ := next_in w _ n cap j L HV.out hjn
        generalize (L[j]'hjl).t = tj at c0 ht
        generalize nxt L j = x at HE HC hgt hle
        have ht' : ¬ tj = t := ht
        clear hl
        go_wp2_with (go_at_call 5; refine Calls.mono HC.out ?_; rintro e W ⟨rfl, rfl⟩)
        go_round
        case rel => exact ⟨x, f', rfl, hle, by omega, HE⟩
        case measure => simp [intOf]; omega
    · obtain rfl : j = n := by omega
      have HE : Hid (j = r) := by have := HJ.out; rw [HN.out, plcF_end, ← HN.out] at this; exact this
      go_wp2
      go_ret
      exact ⟨by rw [← HE.out]; rfl, rfl⟩

/-- As the document tells a place: -1 without one. -/
def topI (L : List Nd) (t : Int) : Int := if plc L t < L.length then (plc L t : Int) else -1
set_option maxRecDepth 100000 in
set_option maxHeartbeats 1000000 in
theorem top_any (w : World) (a : Option Addr) (n cap : Nat) (t : Int) (L : List Nd) (h : NV w a n cap L) : Calls Try.prog 17 #[.slice a n cap, .int .u32 t] w fun e w' => e = .returned (.int .i64 (topI L t)) ∧ w = w' := by
  obtain ⟨r, hr⟩ : ∃ r, plc L t = r := ⟨_, rfl⟩
  have HR : Hid (plcF L t L.length 0 = r) := hr
  have HV : Hid (NV w a n cap L) := h
  have HN : Hid (n = L.length) := h.len
  have hsm := h.small
  obtain ⟨y, hy⟩ : ∃ y, topI L t = y := ⟨_, rfl⟩
  have HT : Hid (y = if r < n then (r : Int) else -1) := by show _ = _; rw [← hy]; unfold topI; rw [hr, ← h.len]
  rw [hy]
  clear h hr hy
  go_enter Try.func17, Try.ntmps17
  go_wp2
  go_loop [5] (fun s5 => ∃ j f : Nat, s5 = .int .i64 (j : Int) ∧ j ≤ n ∧ n ≤ j + f ∧ Hid (plcF L t f j = r)) (fun s5 => n - (intOf s5).toNat)
  case atStart => exact ⟨0, n, rfl, by omega, by omega, by rw [HN.out]; exact HR⟩
  case round =>
    obtain ⟨j, f, rfl, hj, hf, HJ⟩ := hrel
    by_cases hjn : j < n
    · have hjI : (j : Int) < (n : Int) := by omega
      have hjl : j < L.length := by rw [← HN.out]; exact hjn
      obtain ⟨b, off, rfl, hl⟩ := HV.out.lies (by omega)
      obtain ⟨c0, -, -, -⟩ := hl j hjl
      obtain ⟨f', rfl⟩ : ∃ f', f = f' + 1 := ⟨f - 1, by omega⟩
      by_cases ht : (L[j]'hjl).t = t
      · have HE : Hid (j = r) := by have := HJ.out; rw [plcF_at hjl ht] at this; exact this
        rw [ht] at c0
        clear hl
        go_wp2
        go_ret
        exact ⟨by rw [HT.out, ← HE.out, if_pos hjn]; rfl, rfl⟩
      · have HE : Hid (plcF L t f' (nxt L j) = r) := by have := HJ.out; rw [plcF_on hjl ht] at this; exact this
        have hgt := nxt_gt hjl
        have hle := nxt_le (L := L) (i := j) (by omega)
        rw [← HN.out] at hle
        have HC : Hid _ := nextR_in w _ n cap j L HV.out hjn
        generalize (L[j]'hjl).t = tj at c0 ht
        generalize nxt L j = x at HE HC hgt hle
        have ht' : ¬ tj = t := ht
        clear hl
        go_wp2_with (go_at_call 6; refine Calls.mono HC.out ?_; rintro e W ⟨rfl, rfl⟩)
        go_round
        case rel => exact ⟨x, f', rfl, hle, by omega, HE⟩
        case measure => simp [intOf]; omega
    · obtain rfl : j = n := by omega
      have HE : Hid (j = r) := by have := HJ.out; rw [HN.out, plcF_end, ← HN.out] at this; exact this
      go_wp2
      go_ret
      exact ⟨by rw [HT.out, ← HE.out, if_neg (Nat.lt_irrefl _)]; rfl, rfl⟩

/-- What is told of a tag. -/
def valS (L : List Nd) (t : Int) : ByteArray := match L[plc L t]? with
  | some a => a.s
  | none => ⟨#[]⟩
def valB (L : List Nd) (t : Int) : Bool := decide (plc L t < L.length)
set_option maxRecDepth 100000 in
set_option maxHeartbeats 1000000 in
theorem value_any (w : World) (a : Option Addr) (n cap : Nat) (t : Int) (L : List Nd) (h : NV w a n cap L) : Calls Try.prog 7 #[.slice a n cap, .int .u32 t] w fun e w' => e = .returned (.tuple #[.string (valS L t), .bool (valB L t)]) ∧ w = w' := by
  have HC : Hid _ := place_any w a n cap t L h
  have hle := plc_le L t
  have hl := h.len
  have hlies := h.lies
  unfold valS valB
  obtain ⟨r, hr⟩ : ∃ r, plc L t = r := ⟨_, rfl⟩
  rw [hr] at HC hle ⊢
  clear hr h
  by_cases hrl : r < L.length
  · obtain ⟨b, off, rfl, hl2⟩ := hlies (by omega)
    obtain ⟨-, -, -, c3⟩ := hl2 r hrl
    rw [List.getElem?_eq_getElem hrl]
    generalize L[r]'hrl = q at c3
    have hrn : ¬ (r : Int) = (n : Int) := by omega
    have hrI : (r : Int) < (n : Int) := by omega
    have HD : Hid (decide (r < L.length) = true) := by show _ = _; simpa using hrl
    rw [HD.out]
    clear hl hl2 hrl hle hlies
    go_enter Try.func7, Try.ntmps7
    go_wp2_with (go_at_call 16; refine Calls.mono HC.out ?_; rintro e W ⟨rfl, rfl⟩)
    refine bodyPost_ret (v := .tuple #[.string q.s, .bool true]) (by simp [results, Try.results7, go_sem]) rfl ⟨rfl, rfl⟩
  · obtain rfl : r = L.length := by omega
    rw [List.getElem?_eq_none (Nat.le_refl _)]
    have HD : Hid (decide (L.length < L.length) = false) := by show _ = _; simp
    rw [HD.out]
    rw [← hl] at HC
    clear hl hrl hle hlies
    go_enter Try.func7, Try.ntmps7
    go_wp2_with (go_at_call 16; refine Calls.mono HC.out ?_; rintro e W ⟨rfl, rfl⟩)
    refine bodyPost_ret (v := .tuple #[.string ⟨#[]⟩, .bool false]) (by simp [results, Try.results7, go_sem]) rfl ⟨rfl, rfl⟩
set_option maxRecDepth 100000 in
set_option maxHeartbeats 1000000 in
theorem valueR_any (w : World) (a : Option Addr) (n cap : Nat) (t : Int) (L : List Nd) (h : NV w a n cap L) : Calls Try.prog 8 #[.slice a n cap, .int .u32 t] w fun e w' => e = .returned (.tuple #[.string (valS L t), .bool (valB L t)]) ∧ w = w' := by
  have HC : Hid _ := top_any w a n cap t L h
  have hle := plc_le L t
  have hl := h.len
  have hlies := h.lies
  unfold valS valB
  unfold topI at HC
  obtain ⟨r, hr⟩ : ∃ r, plc L t = r := ⟨_, rfl⟩
  rw [hr] at HC hle ⊢
  clear hr h
  by_cases hrl : r < L.length
  · obtain ⟨b, off, rfl, hl2⟩ := hlies (by omega)
    obtain ⟨-, -, -, c3⟩ := hl2 r hrl
    rw [if_pos hrl] at HC
    rw [List.getElem?_eq_getElem hrl]
    generalize L[r]'hrl = q at c3
    have hrn : ¬ (r : Int) < 0 := by omega
    have hrI : (r : Int) < (n : Int) := by omega
    have HD : Hid (decide (r < L.length) = true) := by show _ = _; simpa using hrl
    rw [HD.out]
    clear hl hl2 hrl hle hlies
    go_enter Try.func8, Try.ntmps8
    go_wp2_with (go_at_call 17; refine Calls.mono HC.out ?_; rintro e W ⟨rfl, rfl⟩)
    refine bodyPost_ret (v := .tuple #[.string q.s, .bool true]) (by simp [results, Try.results8, go_sem]) rfl ⟨rfl, rfl⟩
  · rw [if_neg hrl] at HC
    rw [List.getElem?_eq_none (by omega)]
    have HD : Hid (decide (r < L.length) = false) := by show _ = _; simpa using hrl
    rw [HD.out]
    clear hl hrl hle hlies
    go_enter Try.func8, Try.ntmps8
    go_wp2_with (go_at_call 17; refine Calls.mono HC.out ?_; rintro e W ⟨rfl, rfl⟩)
    refine bodyPost_ret (v := .tuple #[.string ⟨#[]⟩, .bool false]) (by simp [results, Try.results8, go_sem]) rfl ⟨rfl, rfl⟩
end Go.Proofs.Ytcnogjmhbkbklaa
