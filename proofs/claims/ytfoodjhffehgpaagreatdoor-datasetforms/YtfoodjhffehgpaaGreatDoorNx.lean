import Derived.Test.YtfoodjhffehgpaaGreatDoorLa
/-
  DERIVED. The place behind a node: Next of both.
-/
namespace Go.Proofs.YtfoodjhffehgpaaGreatDoor.Wk
open Go Go.Proofs Go.RowKit

set_option maxRecDepth 100000 in
set_option maxHeartbeats 1000000 in
theorem next_in (w : World) (a : Option Addr) (n cap i : Nat) (L : List Nd) (h : NV w a n cap L) (hi : i < n) (h10 : n ≤ 1048576) : Calls Tryz.prog 49 #[.slice a n cap, .int .i64 (i : Int)] w fun e w' => e = .returned (.int .i64 (nxt L i : Int)) ∧ w = w' := by
  obtain ⟨r, hr⟩ : ∃ r, nxt L i = r := ⟨_, rfl⟩
  have HR : Hid (i + goN (L.drop i) 1 = r) := hr
  rw [hr]
  clear hr
  obtain ⟨b, off, rfl, hl⟩ := h.lies (by omega)
  have HL : Hid (NAt w b off L) := hl
  have HN : Hid (n = L.length) := h.len
  have HZ : Hid _ := h.num
  have hsm := h.small
  clear hl h
  have h1 : ¬ (i : Int) < 0 := by omega
  have h2 : (i : Int) < (n : Int) := by omega
  have h3 : ¬ (n : Int) ≤ (i : Int) := by omega
  go_enter Tryz.func49, Tryz.ntmps49
  go_wp2
  go_loop [1, 5] (fun s1 s5 => ∃ j k : Nat, s1 = .int .i64 (j : Int) ∧ s5 = .int .i64 (k : Int) ∧ j ≤ n ∧ k ≤ 1 + j * 1048576 ∧ Hid (j + goN (L.drop j) k = r)) (fun s1 _ => n - (intOf s1).toNat)
  case atStart => exact ⟨i, 1, rfl, rfl, by omega, by omega, HR⟩
  case round =>
    obtain ⟨j, k, rfl, rfl, hj, hk, HJ⟩ := hrel
    by_cases hjn : j < n
    · have hjI : (j : Int) < (n : Int) := by omega
      by_cases hk0 : k = 0
      · subst hk0
        have HE : Hid (j = r) := by have := HJ.out; rw [goN_zero] at this; exact this
        go_wp2
        go_ret
        exact ⟨by rw [← HE.out]; rfl, rfl⟩
      · obtain ⟨k', rfl⟩ : ∃ k', k = k' + 1 := ⟨k - 1, by omega⟩
        have hjl : j < L.length := by rw [← HN.out]; exact hjn
        obtain ⟨-, -, c2, -⟩ := HL.out j hjl
        have hz := HZ.out (L[j]'hjl) (List.getElem_mem hjl)
        have HS := goN_step (L := L) (i := j) (w := k') hjl
        obtain ⟨N, hN⟩ : ∃ N, (L[j]'hjl).n = N := ⟨_, rfl⟩
        rw [hN] at c2 hz HS
        obtain ⟨m, hm⟩ : ∃ m : Nat, (m : Int) = min (max N 0) (n : Int) := ⟨(min (max N 0) (n : Int)).toNat, by omega⟩
        have HM : Hid (j + 1 + goN (L.drop (j + 1)) (k' + m) = r) := by
          show _ = _
          rw [← HJ.out, HS]
          rw [goN_min (L.drop (j + 1)) (k' + m) (k' + N.toNat) (by rw [List.length_drop, ← HN.out]; omega)]
          omega
        clear HS HJ hN
        have hm2 : m ≤ n := by omega
        have hk1 : (0 : Int) < ((k' + 1 : Nat) : Int) := by omega
        go_wp2
        go_round
        case rel =>
          refine ⟨j + 1, k' + m, by go_num, ?_, by omega, by omega, HM⟩
          congr 1
          have hm3 := hm
          rw [show (if (n : Int) < if N < 0 then 0 else N then (n : Int) else if N < 0 then 0 else N) = (m : Int) by split <;> split at * <;> omega]
          omega
        case measure => simp [intOf]; omega
    · obtain rfl : j = n := by omega
      have HE : Hid (j = r) := by have := HJ.out; rw [goN_nil (by rw [← HN.out]; exact Nat.le_refl _)] at this; exact this
      go_wp2
      go_ret
      exact ⟨by rw [← HE.out]; rfl, rfl⟩

set_option maxRecDepth 100000 in
set_option maxHeartbeats 1000000 in
theorem nextR_in (w : World) (a : Option Addr) (n cap i : Nat) (L : List Nd) (h : NV w a n cap L) (hi : i < n) (h10 : n ≤ 1048576) : Calls Tryz.prog 13 #[.slice a n cap, .int .i64 (i : Int)] w fun e w' => e = .returned (.int .i64 (nxt L i : Int)) ∧ w = w' := by
  obtain ⟨r, hr⟩ : ∃ r, nxt L i = r := ⟨_, rfl⟩
  have HR : Hid (i + goN (L.drop i) 1 = r) := hr
  rw [hr]
  clear hr
  obtain ⟨b, off, rfl, hl⟩ := h.lies (by omega)
  have HL : Hid (NAt w b off L) := hl
  have HN : Hid (n = L.length) := h.len
  have HZ : Hid _ := h.num
  have hsm := h.small
  clear hl h
  have h1 : ¬ (i : Int) < 0 := by omega
  have h2 : (i : Int) < (n : Int) := by omega
  have h3 : ¬ (n : Int) ≤ (i : Int) := by omega
  go_enter Tryz.func13, Tryz.ntmps13
  go_wp2
  go_loop [1, 5] (fun s1 s5 => ∃ j k : Nat, s1 = .int .i64 (j : Int) ∧ s5 = .int .u64 (k : Int) ∧ j ≤ n ∧ k ≤ 4611686018427387904 ∧ Hid (j + goN (L.drop j) k = r)) (fun s1 _ => n - (intOf s1).toNat)
  case atStart => exact ⟨i, 1, rfl, rfl, by omega, by omega, HR⟩
  case round =>
    obtain ⟨j, k, rfl, rfl, hj, hk, HJ⟩ := hrel
    by_cases hjn : j < n
    · have hjI : (j : Int) < (n : Int) := by omega
      by_cases hk0 : k = 0
      · subst hk0
        have HE : Hid (j = r) := by have := HJ.out; rw [goN_zero] at this; exact this
        go_wp2
        go_ret
        exact ⟨by rw [← HE.out]; rfl, rfl⟩
      · obtain ⟨k', rfl⟩ : ∃ k', k = k' + 1 := ⟨k - 1, by omega⟩
        have hjl : j < L.length := by rw [← HN.out]; exact hjn
        obtain ⟨-, -, c2, -⟩ := HL.out j hjl
        have hz := HZ.out (L[j]'hjl) (List.getElem_mem hjl)
        have HS := goN_step (L := L) (i := j) (w := k') hjl
        obtain ⟨N, hN⟩ : ∃ N, (L[j]'hjl).n = N := ⟨_, rfl⟩
        rw [hN] at c2 hz HS
        have HG : Hid (∀ m : Nat, (m = k' + N.toNat ∨ (n ≤ m ∧ n ≤ k' + N.toNat)) → j + 1 + goN (L.drop (j + 1)) m = r) := by
          intro m hm
          rw [← HJ.out, HS, goN_min (L.drop (j + 1)) m (k' + N.toNat) (by rw [List.length_drop, ← HN.out]; omega)]
          omega
        clear HS HJ hN
        have hk1 : (0 : Int) < ((k' + 1 : Nat) : Int) := by omega
        have hkk : ((k' + 1 : Nat) : Int) - 1 = (k' : Int) := by omega
        by_cases hp : N ≤ 0
        · have hp' : ¬ 0 < N := by omega
          go_wp2
          go_round
          case rel => exact ⟨j + 1, k', by go_num, by congr 1, by omega, by omega, HG.out k' (by omega)⟩
          case measure => simp [intOf]; omega
        · obtain ⟨M, rfl⟩ : ∃ M : Nat, N = (M : Int) := ⟨N.toNat, by omega⟩
          have hp' : (0 : Int) < (M : Int) := by omega
          by_cases hc : 4611686018427387904 < k' + M
          · have hcI : (4611686018427387904 : Int) < (k' : Int) + (M : Int) := by omega
            go_wp2
            go_round
            case rel => exact ⟨j + 1, 4611686018427387904, by go_num, rfl, by omega, by omega, HG.out _ (by simp; omega)⟩
            case measure => simp [intOf]; omega
          · have hcI : ¬ (4611686018427387904 : Int) < (k' : Int) + (M : Int) := by omega
            go_wp2
            go_round
            case rel => exact ⟨j + 1, k' + M, by go_num, by congr 1, by omega, by omega, HG.out _ (by simp)⟩
            case measure => simp [intOf]; omega
    · obtain rfl : j = n := by omega
      have HE : Hid (j = r) := by have := HJ.out; rw [goN_nil (by rw [← HN.out]; exact Nat.le_refl _)] at this; exact this
      go_wp2
      go_ret
      exact ⟨by rw [← HE.out]; rfl, rfl⟩

end Go.Proofs.YtfoodjhffehgpaaGreatDoor.Wk
