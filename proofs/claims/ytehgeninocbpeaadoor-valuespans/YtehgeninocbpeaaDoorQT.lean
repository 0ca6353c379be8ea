import Derived.Test.YtehgeninocbpeaaDoorQS
/-
  DERIVED. The document's digits and numbers.
-/
namespace Go.Proofs.YtehgeninocbpeaaDoor.Tm
open Go Go.Proofs Go.RowKit

theorem isDigit64_any (w : World) (b : Nat) : Calls Tryd.prog 57 #[.int .u8 (b : Int)] w fun e w' => e = .returned (.bool (decide (48 ≤ b) && decide (b ≤ 57))) ∧ w = w' := by
  by_cases h1 : 48 ≤ b
  · have a1 : (48 : Int) ≤ (b : Int) := by omega
    by_cases h2 : b ≤ 57
    · have a2 : (b : Int) ≤ 57 := by omega
      rw [decide_eq_true h1, decide_eq_true h2]
      go_enter Tryd.func57, Tryd.ntmps57
      go_wp2
      go_ret
      exact ⟨rfl, rfl⟩
    · have a2 : decide ((b : Int) ≤ 57) = false := by simp; omega
      rw [decide_eq_true h1, decide_eq_false h2]
      go_enter Tryd.func57, Tryd.ntmps57
      go_wp2
      go_ret
      exact ⟨rfl, rfl⟩
  · have a1 : decide ((48 : Int) ≤ (b : Int)) = false := by simp; omega
    rw [decide_eq_false h1, Bool.false_and]
    go_enter Tryd.func57, Tryd.ntmps57
    go_wp2
    go_ret
    exact ⟨rfl, rfl⟩


set_option maxRecDepth 100000 in
set_option maxHeartbeats 1000000 in
theorem digits31_any (w : World) (s : ByteArray) (a most : Nat) (ha : a ≤ s.size) (hs : s.size ≤ 140737488351232) (hm : most ≤ 100) :
    Calls Tryd.prog 32 #[.string s, .int .i64 (a : Int), .int .i64 (most : Int)] w fun e w' => e = .returned (.int .i64 (cnt s a most : Nat)) ∧ w = w' := by
  obtain ⟨E, hE⟩ : ∃ E, cnt s a most = E := ⟨_, rfl⟩
  have HE0 : Hid (0 + cnt s (a + 0) (most - 0) = E) := by show _ = _; simpa using hE
  rw [hE]
  clear hE
  go_enter Tryd.func32, Tryd.ntmps32
  go_wp2
  go_loopg [7] most (fun g s7 wx => ∃ n : Nat, s7 = .int .i64 (n : Int) ∧ g + n = most ∧ a + n ≤ s.size ∧ Hid (n + cnt s (a + n) (most - n) = E) ∧ w = wx)
  case atStart => exact ⟨0, rfl, by omega, by omega, HE0, rfl⟩
  case round =>
    clear HE0
    obtain ⟨n, rfl, hg, han, HE, rfl⟩ := hrel
    by_cases hn : n < most
    · have hnI : decide ((n : Int) < (most : Int)) = true := by simp; omega
      have hnI2 : decide (n < most) = true := by simp; omega
      have h1 := HE.out
      rw [show most - n = (most - (n + 1)) + 1 by omega, cnt] at h1
      by_cases hl : a + n < s.size
      · have hlI : (a : Int) + (n : Int) < (s.size : Int) := by omega
        have hlI2 : decide ((a : Int) + (n : Int) < (s.size : Int)) = true := by simp; omega
        have hlI3 : decide (a + n < s.size) = true := by simp; omega
        obtain ⟨c, hc⟩ : ∃ c, s[a + n].toNat = c := ⟨_, rfl⟩
        have cD := fun W => isDigit64_any W c
        have eD : isD s (a + n) = (decide (48 ≤ c) && decide (c ≤ 57)) := by
          unfold isD
          rw [← get_get! s (a + n) hl, hc, decide_eq_true hl, Bool.true_and]
        rw [← eD] at cD
        cases hD : isD s (a + n) with
        | true =>
          rw [hD] at h1 cD
          rw [if_pos rfl] at h1
          have HE2 : Hid (n + 1 + cnt s (a + (n + 1)) (most - (n + 1)) = E) := by show _ = _; rw [← h1, ← Nat.add_assoc a n 1]; omega
          clear h1 HE eD hD
          go_wp2_with (first | (go_at_call 57; refine (cD _).mono ?_; rintro e w' ⟨rfl, rfl⟩))
          go_roundg (most - (n + 1))
          case measure => omega
          case rel => exact ⟨n + 1, by first | rfl | simp, by omega, by omega, HE2, rfl⟩
        | false =>
          rw [hD] at h1 cD
          rw [if_neg (by simp)] at h1
          obtain rfl : n = E := by omega
          clear h1 HE eD hD
          go_wp2_with (first | (go_at_call 57; refine (cD _).mono ?_; rintro e w' ⟨rfl, rfl⟩))
          go_ret
          exact ⟨rfl, rfl⟩
      · have hlI : decide ((a : Int) + (n : Int) < (s.size : Int)) = false := by simp; omega
        have hlI3 : decide (a + n < s.size) = false := by simp; omega
        have hD : isD s (a + n) = false := by unfold isD; rw [decide_eq_false hl, Bool.false_and]
        rw [hD, if_neg (by simp)] at h1
        obtain rfl : n = E := by omega
        clear h1 HE hD
        go_wp2
        go_ret
        exact ⟨rfl, rfl⟩
    · obtain rfl : n = most := by omega
      have hnI : decide ((n : Int) < (n : Int)) = false := by simp
      have h1 := HE.out
      rw [Nat.sub_self, cnt] at h1
      obtain rfl : n = E := by omega
      clear h1 HE
      go_wp2
      go_ret
      exact ⟨rfl, rfl⟩

set_option maxRecDepth 100000 in
set_option maxHeartbeats 1000000 in
theorem number47_any (w : World) (u : ByteArray) (hu : Digs u) (h8 : u.size ≤ 8) :
    Calls Tryd.prog 38 #[.string u] w fun e w' => e = .returned (.int .i64 (val u.data.toList : Nat)) ∧ w = w' := by
  have HE0 : Hid (valN (u.data.toList.drop 0) 0 = val u.data.toList) := rfl
  have HU : Hid (Digs u) := hu
  generalize val u.data.toList = E at *
  clear hu
  go_enter Tryd.func38, Tryd.ntmps38
  go_wp2
  go_loopg [3, 4] u.size (fun g s3 s4 wx => ∃ pos n : Nat, s3 = .int .i64 (n : Int) ∧ s4 = .int .i64 (pos : Int) ∧ g + pos = u.size ∧ n ≤ 99999999 ∧ Hid (n < 10 ^ pos) ∧ Hid (valN (u.data.toList.drop pos) n = E) ∧ w = wx)
  case atStart => exact ⟨0, 0, rfl, rfl, by omega, by omega, by show 0 < 10 ^ 0; omega, HE0, rfl⟩
  case round =>
    clear HE0
    obtain ⟨pos, n, rfl, rfl, hg, hn8, HN, HE, rfl⟩ := hrel
    by_cases hp : pos < u.size
    · have hd := HU.out u[pos] (by
        have h2 : pos < u.data.size := hp
        have : u[pos] = u.data[pos] := rfl
        rw [this]
        exact Array.getElem_mem_toList h2)
      have h1 := HE.out
      rw [drop_byte hp, valN] at h1
      obtain ⟨c, hc⟩ : ∃ c, u[pos].toNat = c := ⟨_, rfl⟩
      rw [hc] at hd h1
      have HN2 : Hid (10 * n + (c - 48) < 10 ^ (pos + 1)) := by
        have := HN.out
        show _ < _
        rw [Nat.pow_succ]
        omega
      have hN8 : 10 * n + (c - 48) ≤ 99999999 := by
        have h2 := HN2.out
        have h3 : 10 ^ (pos + 1) ≤ 10 ^ 8 := Nat.pow_le_pow_right (by omega) (by omega)
        omega
      have HE2 : Hid (valN (u.data.toList.drop (pos + 1)) (10 * n + (c - 48)) = E) := h1
      obtain ⟨d, hdd⟩ : ∃ d, c - 48 = d := ⟨_, rfl⟩
      rw [hdd] at HE2 HN2 hN8
      have hcd : (c : Int) - 48 = (d : Int) := by omega
      have hd9 : d ≤ 9 := by omega
      have hc57 : c ≤ 57 := by omega
      have hpI : (pos : Int) < (u.size : Int) := by omega
      clear h1 hdd hd HE HN
      go_wp2
      go_roundg (u.size - (pos + 1))
      case measure => omega
      case rel => exact ⟨pos + 1, 10 * n + d, by first | rfl | (simp; omega), by first | rfl | simp, by omega, hN8, HN2, HE2, rfl⟩
    · have hpI : ¬ ((pos : Int) < (u.size : Int)) := by omega
      have hE : n = E := by
        have h1 := HE.out
        rw [List.drop_eq_nil_of_le (by rw [Array.length_toList]; show u.size ≤ _; omega)] at h1
        exact h1
      subst hE
      clear HE
      go_wp2
      go_ret
      exact ⟨rfl, rfl⟩
end Go.Proofs.YtehgeninocbpeaaDoor.Tm
