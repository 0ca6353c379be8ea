import Derived.Test.YtnheeenkdjmhoaaDoorT
import Derived.Laws.BitsLemmas
import Derived.Laws.IdiomStrings
/-
  DERIVED. Hexadecimal digits.
-/
namespace Go.Proofs.YtnheeenkdjmhoaaDoor
open Go Go.Proofs Go.RowKit

theorem or_any (c : Nat) (hc : c < 256) : bits .or .u8 (c : Int) 32 = ((c ||| 32 : Nat) : Int) := by
  have := (bits_nat .u8 8 (by decide) (fun n h0 h1 => by rw [IntKind.wrap_u8]; omega) c 32 hc (by decide)).2
  exact this
theorem low_lt (c : Nat) (hc : c < 256) : c ||| 32 < 256 := Nat.or_lt_two_pow (n := 8) hc (by decide)
set_option maxRecDepth 100000 in
theorem low_any (w : World) (c : Nat) (hc : c < 256) : Calls Tryd.prog 73 #[.int .u8 (c : Int)] w fun e w' => e = .returned (.int .u8 ((c ||| 32 : Nat) : Int)) ∧ w = w' := by
  have h := or_any c hc
  go_enter Tryd.func73, Tryd.ntmps73
  go_wp2
  go_ret
  exact ⟨rfl, rfl⟩

/-- The worth of a hexadecimal digit. -/
def hvN (c : Nat) : Option Nat := if 48 ≤ c ∧ c ≤ 57 then some (c - 48) else if 97 ≤ c ||| 32 ∧ c ||| 32 ≤ 102 then some ((c ||| 32) - 87) else none
theorem hvN_ways (c : Nat) : (48 ≤ c ∧ c ≤ 57 ∧ hvN c = some (c - 48)) ∨ (¬ (48 ≤ c ∧ c ≤ 57) ∧ 97 ≤ c ||| 32 ∧ c ||| 32 ≤ 102 ∧ hvN c = some ((c ||| 32) - 87)) ∨ (¬ (48 ≤ c ∧ c ≤ 57) ∧ 103 ≤ c ||| 32 ∧ c ||| 32 ≤ 122 ∧ hvN c = none) ∨ (¬ (48 ≤ c ∧ c ≤ 57) ∧ (c ||| 32 < 97 ∨ 122 < c ||| 32) ∧ hvN c = none) := by
  unfold hvN
  by_cases h1 : 48 ≤ c ∧ c ≤ 57
  · exact .inl ⟨h1.1, h1.2, by rw [if_pos h1]⟩
  · rw [if_neg h1]
    by_cases h2 : 97 ≤ c ||| 32 ∧ c ||| 32 ≤ 102
    · exact .inr (.inl ⟨h1, h2.1, h2.2, by rw [if_pos h2]⟩)
    · rw [if_neg h2]
      by_cases h3 : 103 ≤ c ||| 32 ∧ c ||| 32 ≤ 122
      · exact .inr (.inr (.inl ⟨h1, h3.1, h3.2, rfl⟩))
      · exact .inr (.inr (.inr ⟨h1, by omega, rfl⟩))
theorem hvN_lt {c d : Nat} (h : hvN c = some d) : d < 16 := by
  unfold hvN at h
  split at h
  · simp at h; omega
  · split at h
    · simp at h; omega
    · cases h
/-- The worth of digits, one behind the other. -/
def hvs : List UInt8 → Nat → Option Nat
  | [], n => some n
  | c :: r, n => match hvN c.toNat with
    | some d => hvs r (16 * n + d)
    | none => none

/-- What is read between two rounds. -/
def PuI (W1 : World) (s : ByteArray) (R : Option Nat) (uv nv iv : Value) (wr : World) : Prop :=
  uv = .bool false ∧ ∃ k n : Nat, k ≤ s.size ∧ n < 16 ^ k ∧ iv = .int .i64 k ∧ nv = .int .u64 n ∧ hvs ((tl s).drop k) n = R ∧ wr = W1

set_option maxRecDepth 100000 in
set_option maxHeartbeats 8000000 in
theorem pu70 (w : World) (s : ByteArray) (hs : s.size = 2) : Calls Tryd.prog 70 #[.string s, .int .i64 16, .int .i64 8] w fun e w' => ((∃ n : Nat, hvs (tl s) 0 = some n ∧ n < 256 ∧ e = .returned (.tuple #[.int .u64 n, .nilIface])) ∨ (hvs (tl s) 0 = none ∧ e = .returned (.tuple #[.int .u64 0, .iface 117 (.int .i64 2)]))) ∧ Below w.heap.size w w' := by
  have hn1 : (s.toList == []) = false := by
    rw [ByteArray.toList_eq]; simp only [beq_eq_false_iff_ne]; intro hh
    have := tl_len s; unfold tl at this; rw [hh] at this; simp at this; omega
  have hn2 : s.toList.isEmpty = false := by
    rw [ByteArray.toList_eq]
    cases hc : s.data.toList with
    | nil => have := tl_len s; unfold tl at this; rw [hc] at this; simp at this; omega
    | cons a b => rfl
  obtain ⟨R, hR⟩ : ∃ R, hvs (tl s) 0 = R := ⟨_, rfl⟩
  rw [hR]
  obtain ⟨cp, hcp⟩ : ∃ cp, grownCap w s.size 0 5 = cp := ⟨_, rfl⟩
  have hcv := run_bytes_of_string (P := Tryd.prog) w 9 22 5 s Tryd.underlying9 Tryd.underlying22 Tryd.underlying5
  rw [hcp] at hcv
  obtain ⟨W1, hW1⟩ : ∃ W1, w.drew.alloc (.cells (bytesRow s cp) 5 ((bytesRow s cp).size, (bytesRow s cp).size + 1)) = W1 := ⟨_, rfl⟩
  rw [hW1] at hcv
  obtain ⟨B, hB⟩ : ∃ B, w.heap.size = B := ⟨_, rfl⟩
  have HB1 : Hid (Below w.heap.size w W1) := hW1 ▸ (Below.refl _ w).drew.alloc (Nat.le_refl _) _
  have hcell : ∀ k (h : k < s.size), W1.cell? ⟨B, k, none⟩ = some (.int .u8 ((s[k]'h).toNat : Int)) := by
    intro k h
    rw [← hW1, ← hB]
    have h1 : (w.drew.alloc (.cells (bytesRow s cp) 5 ((bytesRow s cp).size, (bytesRow s cp).size + 1))).heap[w.heap.size]? = some (.cells (bytesRow s cp) 5 ((bytesRow s cp).size, (bytesRow s cp).size + 1)) := heap_alloc_new w.drew _
    rw [Lib.cell_of_heap h1, bytesRow_at s cp k h]
    rfl
  have HC : Hid (∀ k (h : k < s.size), W1.cell? ⟨B, k, none⟩ = some (.int .u8 ((s[k]'h).toNat : Int))) := hcell
  rw [hB] at hcv
  clear hW1 hcp hcell
  go_enter Tryd.func70, Tryd.ntmps70
  go_wp2
  clear hcv
  go_loopw [12, 13, 101] (fun uv nv iv wr => PuI W1 s R uv nv iv wr) (fun _ _ i _ => s.size - (intOf i).toNat)
  case atStart => exact ⟨rfl, 0, 0, Nat.zero_le _, by decide, rfl, rfl, hR, rfl⟩
  case round =>
    obtain ⟨rfl, k, n, hk, hn, rfl, rfl, hrr, rfl⟩ := hrel
    have HRR : Hid (hvs ((tl s).drop k) n = R) := hrr
    clear hrr hR
    by_cases hkn : k < s.size
    · have hn15 : n ≤ 15 := by
        rcases (show k = 0 ∨ k = 1 by omega) with rfl | rfl
        · simp at hn; omega
        · simp at hn; omega
      have hc := HC.out k hkn
      have hlt := (s[k]'hkn).toNat_lt
      have hdr : (tl s).drop k = s[k] :: (tl s).drop (k + 1) := by
        rw [List.drop_eq_getElem_cons (by rw [tl_len]; exact hkn), tl_get s k hkn]
      have hG := HRR.out
      rw [hdr] at hG
      obtain ⟨y, hy⟩ : ∃ y, (s[k]'hkn).toNat = y := ⟨_, rfl⟩
      rw [hy] at hc
      have hlt' : y < 256 := by rw [← hy]; exact hlt
      have hG2 : (match hvN y with
        | some d => hvs ((tl s).drop (k + 1)) (16 * n + d)
        | none => none) = R := by rw [← hy]; exact hG
      have hlow := low_any wr y hlt'
      have hll := low_lt y hlt'
      have hwy := hvN_ways y
      obtain ⟨z, hz⟩ : ∃ z, y ||| 32 = z := ⟨_, rfl⟩
      rw [hz] at hlow hll hwy
      have y95 : ((y : Int) == 95) = true ∨ ((y : Int) == 95) = false := by cases ((y : Int) == 95) <;> simp
      have hpw : n < 16 ^ k := hn
      clear hdr hG hlt hy hz hn
      rcases hwy with ⟨h1, h2, h3⟩ | ⟨h1, h2, h3, h4⟩ | ⟨h1, h2, h3, h4⟩ | ⟨h1, h2, h4⟩
      · -- a digit
        rw [h3] at hG2
        obtain ⟨d, hd⟩ : ∃ d, y - 48 = d := ⟨_, rfl⟩
        rw [hd] at hG2
        have HG : Hid (hvs ((tl s).drop (k + 1)) (16 * n + d) = R) := hG2
        have hd9 : d ≤ 9 := by omega
        have q0 : ((y : Int) == 95) = false := by simp; omega
        have q1 : decide ((48 : Int) ≤ (y : Int)) = true := by simp; omega
        have q2 : decide ((y : Int) ≤ 57) = true := by simp; omega
        have q3 : (y : Int) - 48 = (d : Int) := by omega
        have HPW : Hid (n < 16 ^ k) := hpw
        have c1 : decide ((1152921504606846976 : Int) ≤ (n : Int)) = false := by simp; omega
        have c2 : decide ((16 : Int) ≤ (d : Int)) = false := by simp; omega
        have c3 : decide ((n : Int) * 16 + (d : Int) < (n : Int) * 16) = false := by simp; omega
        have c4 : decide ((255 : Int) < (n : Int) * 16 + (d : Int)) = false := by simp; omega
        have w1 : IntKind.u64.wrap ((n : Int) * 16) = (n : Int) * 16 := by simp [IntKind.wrap, IntKind.bits, IntKind.signed]; omega
        have w2 : IntKind.u64.wrap ((n : Int) * 16 + (d : Int)) = (n : Int) * 16 + (d : Int) := by simp [IntKind.wrap, IntKind.bits, IntKind.signed]; omega
        have w3 : IntKind.u8.wrap (d : Int) = (d : Int) := by simp [IntKind.wrap, IntKind.bits, IntKind.signed]; omega
        have w5 : IntKind.u64.wrap (d : Int) = (d : Int) := by simp [IntKind.wrap, IntKind.bits, IntKind.signed]; omega
        have HN : Hid (n ≤ 15) := hn15
        have HD : Hid (d ≤ 9) := hd9
        clear hG2 h1 h2 h3 hd y95 hlow hlt' hpw hn15 hd9
        go_wp2
        go_roundw
        case rel => exact ⟨rfl, k + 1, 16 * n + d, by omega, by have := HPW.out; rw [Nat.pow_succ]; have := HD.out; omega, by go_num, by rw [show ((16 * n + d : Nat) : Int) = (n : Int) * 16 + (d : Int) by omega], HG.out, rfl⟩
        case measure => simp [intOf]; omega
      · rw [h4] at hG2
        obtain ⟨d, hd⟩ : ∃ d, z - 87 = d := ⟨_, rfl⟩
        rw [hd] at hG2
        have HG : Hid (hvs ((tl s).drop (k + 1)) (16 * n + d) = R) := hG2
        have hd15 : d ≤ 15 := by omega
        have c2 : decide ((16 : Int) ≤ (d : Int)) = false := by simp; omega
        have HPW : Hid (n < 16 ^ k) := hpw
        have c1 : decide ((1152921504606846976 : Int) ≤ (n : Int)) = false := by simp; omega
        have c3 : decide ((n : Int) * 16 + (d : Int) < (n : Int) * 16) = false := by simp; omega
        have c4 : decide ((255 : Int) < (n : Int) * 16 + (d : Int)) = false := by simp; omega
        have w1 : IntKind.u64.wrap ((n : Int) * 16) = (n : Int) * 16 := by simp [IntKind.wrap, IntKind.bits, IntKind.signed]; omega
        have w2 : IntKind.u64.wrap ((n : Int) * 16 + (d : Int)) = (n : Int) * 16 + (d : Int) := by simp [IntKind.wrap, IntKind.bits, IntKind.signed]; omega
        have q4 : decide ((97 : Int) ≤ (z : Int)) = true := by simp; omega
        have q5 : decide ((z : Int) ≤ 122) = true := by simp; omega
        have q6 : (z : Int) - 97 = ((d - 10 : Nat) : Int) := by omega
        have q7 : ((d - 10 : Nat) : Int) + 10 = (d : Int) := by omega
        obtain ⟨f, hf⟩ : ∃ f, d - 10 = f := ⟨_, rfl⟩
        rw [hf] at q6 q7
        have w4 : IntKind.u8.wrap (f : Int) = (f : Int) := by simp [IntKind.wrap, IntKind.bits, IntKind.signed]; omega
        have w3 : IntKind.u8.wrap (d : Int) = (d : Int) := by simp [IntKind.wrap, IntKind.bits, IntKind.signed]; omega
        have w5 : IntKind.u64.wrap (d : Int) = (d : Int) := by simp [IntKind.wrap, IntKind.bits, IntKind.signed]; omega
        have HN : Hid (n ≤ 15) := hn15
        have HD : Hid (d ≤ 15) := hd15
        clear hG2 h2 h3 h4 hd hf hlt' hpw hn15 hd15 hll
        by_cases hy1 : 48 ≤ y
        · have q1 : decide ((48 : Int) ≤ (y : Int)) = true := by simp; omega
          have q2 : decide ((y : Int) ≤ 57) = false := by simp; omega
          clear h1 hy1
          rcases y95 with q0 | q0
          all_goals
            go_wp2_with (first | (go_at_call 73; refine hlow.mono ?_; rintro e w' ⟨rfl, rfl⟩) | go_in)
            go_roundw
            case rel => exact ⟨rfl, k + 1, 16 * n + d, by omega, by have := HPW.out; rw [Nat.pow_succ]; have := HD.out; omega, by go_num, by rw [show ((16 * n + d : Nat) : Int) = (n : Int) * 16 + (d : Int) by omega], HG.out, rfl⟩
            case measure => simp [intOf]; omega
        · have q1 : decide ((48 : Int) ≤ (y : Int)) = false := by simp; omega
          clear h1 hy1
          rcases y95 with q0 | q0
          all_goals
            go_wp2_with (first | (go_at_call 73; refine hlow.mono ?_; rintro e w' ⟨rfl, rfl⟩) | go_in)
            go_roundw
            case rel => exact ⟨rfl, k + 1, 16 * n + d, by omega, by have := HPW.out; rw [Nat.pow_succ]; have := HD.out; omega, by go_num, by rw [show ((16 * n + d : Nat) : Int) = (n : Int) * 16 + (d : Int) by omega], HG.out, rfl⟩
            case measure => simp [intOf]; omega
      · rw [h4] at hG2
        have HGn : Hid (R = none) := hG2.symm
        clear hG2
        obtain ⟨d, hd⟩ : ∃ d, z - 87 = d := ⟨_, rfl⟩
        have c2 : decide ((16 : Int) ≤ (d : Int)) = true := by simp; omega
        have q4 : decide ((97 : Int) ≤ (z : Int)) = true := by simp; omega
        have q5 : decide ((z : Int) ≤ 122) = true := by simp; omega
        have q6 : (z : Int) - 97 = ((d - 10 : Nat) : Int) := by omega
        have q7 : ((d - 10 : Nat) : Int) + 10 = (d : Int) := by omega
        obtain ⟨f, hf⟩ : ∃ f, d - 10 = f := ⟨_, rfl⟩
        rw [hf] at q6 q7
        have w4 : IntKind.u8.wrap (f : Int) = (f : Int) := by simp [IntKind.wrap, IntKind.bits, IntKind.signed]; omega
        have w3 : IntKind.u8.wrap (d : Int) = (d : Int) := by simp [IntKind.wrap, IntKind.bits, IntKind.signed]; omega
        have w5 : IntKind.u64.wrap (d : Int) = (d : Int) := by simp [IntKind.wrap, IntKind.bits, IntKind.signed]; omega
        clear h2 h3 h4 hd hf hlt' hpw hn15 hll
        by_cases hy1 : 48 ≤ y
        · have q1 : decide ((48 : Int) ≤ (y : Int)) = true := by simp; omega
          have q2 : decide ((y : Int) ≤ 57) = false := by simp; omega
          clear h1 hy1
          rcases y95 with q0 | q0
          all_goals
            go_wp2_with (first | (go_at_call 73; refine hlow.mono ?_; rintro e w' ⟨rfl, rfl⟩) | go_in)
            exact bodyPost_ret (v := .tuple #[.int .u64 0, .iface 117 (.int .i64 2)]) (by simp [results, Tryd.results70, go_sem]) rfl ⟨.inr ⟨HGn.out, rfl⟩, HB1.out⟩
        · have q1 : decide ((48 : Int) ≤ (y : Int)) = false := by simp; omega
          clear h1 hy1
          rcases y95 with q0 | q0
          all_goals
            go_wp2_with (first | (go_at_call 73; refine hlow.mono ?_; rintro e w' ⟨rfl, rfl⟩) | go_in)
            exact bodyPost_ret (v := .tuple #[.int .u64 0, .iface 117 (.int .i64 2)]) (by simp [results, Tryd.results70, go_sem]) rfl ⟨.inr ⟨HGn.out, rfl⟩, HB1.out⟩
      · rw [h4] at hG2
        have HGn : Hid (R = none) := hG2.symm
        clear hG2
        rcases h2 with h2 | h2
        · have q4 : decide ((97 : Int) ≤ (z : Int)) = false := by simp; omega
          clear h2 h4 hlt' hpw hn15 hll
          by_cases hy1 : 48 ≤ y
          · have q1 : decide ((48 : Int) ≤ (y : Int)) = true := by simp; omega
            have q2 : decide ((y : Int) ≤ 57) = false := by simp; omega
            clear h1 hy1
            rcases y95 with q0 | q0
            all_goals
              go_wp2_with (first | (go_at_call 73; refine hlow.mono ?_; rintro e w' ⟨rfl, rfl⟩) | go_in)
              exact bodyPost_ret (v := .tuple #[.int .u64 0, .iface 117 (.int .i64 2)]) (by simp [results, Tryd.results70, go_sem]) rfl ⟨.inr ⟨HGn.out, rfl⟩, HB1.out⟩
          · have q1 : decide ((48 : Int) ≤ (y : Int)) = false := by simp; omega
            clear h1 hy1
            rcases y95 with q0 | q0
            all_goals
              go_wp2_with (first | (go_at_call 73; refine hlow.mono ?_; rintro e w' ⟨rfl, rfl⟩) | go_in)
              exact bodyPost_ret (v := .tuple #[.int .u64 0, .iface 117 (.int .i64 2)]) (by simp [results, Tryd.results70, go_sem]) rfl ⟨.inr ⟨HGn.out, rfl⟩, HB1.out⟩
        · have q4 : decide ((97 : Int) ≤ (z : Int)) = true := by simp; omega
          have q5 : decide ((z : Int) ≤ 122) = false := by simp; omega
          clear h2 h4 hlt' hpw hn15 hll
          by_cases hy1 : 48 ≤ y
          · have q1 : decide ((48 : Int) ≤ (y : Int)) = true := by simp; omega
            have q2 : decide ((y : Int) ≤ 57) = false := by simp; omega
            clear h1 hy1
            rcases y95 with q0 | q0
            all_goals
              go_wp2_with (first | (go_at_call 73; refine hlow.mono ?_; rintro e w' ⟨rfl, rfl⟩) | go_in)
              exact bodyPost_ret (v := .tuple #[.int .u64 0, .iface 117 (.int .i64 2)]) (by simp [results, Tryd.results70, go_sem]) rfl ⟨.inr ⟨HGn.out, rfl⟩, HB1.out⟩
          · have q1 : decide ((48 : Int) ≤ (y : Int)) = false := by simp; omega
            clear h1 hy1
            rcases y95 with q0 | q0
            all_goals
              go_wp2_with (first | (go_at_call 73; refine hlow.mono ?_; rintro e w' ⟨rfl, rfl⟩) | go_in)
              exact bodyPost_ret (v := .tuple #[.int .u64 0, .iface 117 (.int .i64 2)]) (by simp [results, Tryd.results70, go_sem]) rfl ⟨.inr ⟨HGn.out, rfl⟩, HB1.out⟩
    · have hke : k = s.size := by omega
      have hG := HRR.out
      rw [hke, ← tl_len, List.drop_length] at hG
      have hG2 : some n = R := hG
      have hn2 : n < 256 := by rw [hke, hs] at hn; simpa using hn
      clear hn hG hke
      go_wp2
      exact bodyPost_ret (v := .tuple #[.int .u64 n, .nilIface]) (by simp [results, Tryd.results70, go_sem]) rfl ⟨.inl ⟨n, hG2.symm, hn2, rfl⟩, HB1.out⟩
end Go.Proofs.YtnheeenkdjmhoaaDoor
