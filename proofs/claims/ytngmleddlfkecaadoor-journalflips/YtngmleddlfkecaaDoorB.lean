import Derived.Test.YtngmleddlfkecaaDoorA
namespace Go.Proofs.YtngmleddlfkecaaDoor
open Go Go.Proofs Go.RowKit

theorem sum_empty (w : World) (ao : Option Addr) (cap : Nat) :
    Calls Tryd.prog 6 #[.slice ao 0 cap] w fun e w' => e = .returned (.int .u32 0) ∧ w = w' := by
  go_enter Tryd.func6, Tryd.ntmps6
  go_wp2
  refine wp_loop_rounds 1 ?_
  rw [rounds_succ]
  go_wp2
  go_ret
  exact ⟨rfl, rfl⟩

theorem rsum_empty (w : World) (ao : Option Addr) (cap : Nat) :
    Calls Tryd.prog 23 #[.slice ao 0 cap] w fun e w' => e = .returned (.int .u32 0) ∧ w = w' := by
  go_enter Tryd.func23, Tryd.ntmps23
  go_wp2
  refine wp_loop_rounds 1 ?_
  rw [rounds_succ]
  go_wp2
  go_ret
  exact ⟨rfl, rfl⟩

theorem bit1_facts (C : Nat) (hC : C < 4294967296) : bits .and .u32 (C : Int) 1 = ((C % 2 : Nat) : Int) ∧ (C % 2 = 1 → bits .xor .u32 ((C : Int) / 2) 3988292384 = ((bit1 C : Nat) : Int)) ∧ (C % 2 = 0 → (C : Int) / 2 = ((bit1 C : Nat) : Int)) := by
  refine ⟨?_, ?_, ?_⟩
  · have h := u32_and_nat C 1 hC (by decide)
    rw [show ((1 : Nat) : Int) = 1 from rfl] at h
    rw [h]
    have := Nat.and_two_pow_sub_one_eq_mod C 1
    simp only [show (2 : Nat) ^ 1 - 1 = 1 from rfl, show (2 : Nat) ^ 1 = 2 from rfl] at this
    rw [this]
  · intro hc
    have h := u32_xor_nat (C / 2) 3988292384 (by omega) (by decide)
    rw [show ((C : Int) / 2) = ((C / 2 : Nat) : Int) by omega, show (3988292384 : Int) = ((3988292384 : Nat) : Int) from rfl, h, bit1, if_pos hc]
    rfl
  · intro hc
    rw [bit1, if_neg (by omega)]
    omega

set_option maxRecDepth 100000 in
theorem rsum_some (w : World) (b off cap : Nat) (bs : List Nat) (hb : At w b off bs) (hl : bs.length ≤ 140737488351232) :
    Calls Tryd.prog 23 #[.slice (some ⟨b, off, none⟩) bs.length cap] w fun e w' => e = .returned (.int .u32 (crc bs : Nat)) ∧ w = w' := by
  obtain ⟨n, hn⟩ : ∃ n, n = bs.length := ⟨_, rfl⟩
  rw [← hn] at hl
  rw [← hn]
  have HN : Hid (n = bs.length) := hn
  clear hn
  go_enter Tryd.func23, Tryd.ntmps23
  go_wp2
  go_loop [3, 4] (fun s i => ∃ k S : Nat, k ≤ n ∧ i = .int .i64 k ∧ s = .int .u32 S ∧ Hid (S = crcL 4294967295 (bs.take k))) (fun _ i => n - (intOf i).toNat)
  case atStart => exact ⟨0, 4294967295, Nat.zero_le _, rfl, rfl, rfl⟩
  case round =>
    obtain ⟨k, S, hk, rfl, rfl, HS⟩ := hrel
    have hS : S < 4294967296 := by rw [HS.out]; exact crcL_lt _ _ (by decide) (take_lt hb.2 k)
    by_cases hkn : k < n
    · obtain ⟨y, HY, hy, hcy⟩ : ∃ y, Hid (y = bs.getD k 0) ∧ Hid (y < 256) ∧ w.cell? ⟨b, off + k, none⟩ = some (.int .u8 (y : Int)) := ⟨_, rfl, getD_lt hb.2 k, hb.1 k (by rw [← HN.out]; exact hkn)⟩
      obtain ⟨X, hx1, hx2, HX, hX⟩ := xor_fact S y hS hy.out
      have HXl : Hid (X < 4294967296) := hX
      clear hX hS
      go_wp2
      go_loop [3, 5] (fun s j => ∃ m C : Nat, m ≤ 8 ∧ j = .int .i64 m ∧ s = .int .u32 C ∧ Hid (C = bitN m X)) (fun _ j => 8 - (intOf j).toNat)
      case atStart => exact ⟨0, X, by omega, rfl, rfl, rfl⟩
      case round =>
        obtain ⟨m, C, hm, rfl, rfl, HC⟩ := hrel
        have hC : C < 4294967296 := by rw [HC.out]; exact bitN_lt _ _ HXl.out
        obtain ⟨f1, f2, f3⟩ := bit1_facts C hC
        clear hC
        by_cases hm8 : m < 8
        · have hstep : bit1 C = bitN (m + 1) X := by
            rw [HC.out, bitN_add m 1]; rfl
          rcases Nat.mod_two_eq_zero_or_one C with h2 | h2
          · rw [h2] at f1
            have f4 := f3 h2
            have HB : Hid (bit1 C = bitN (m + 1) X) := hstep
            clear f2 f3 h2 hstep
            go_wp2
            go_round
            case rel => exact ⟨m + 1, bit1 C, by omega, by go_num, rfl, HB⟩
            case measure => simp [intOf]; omega
          · rw [h2] at f1
            have f4 := f2 h2
            have HB : Hid (bit1 C = bitN (m + 1) X) := hstep
            clear f2 f3 h2 hstep
            go_wp2
            go_round
            case rel => exact ⟨m + 1, bit1 C, by omega, by go_num, rfl, HB⟩
            case measure => simp [intOf]; omega
        · have hm9 : m = 8 := by omega
          subst hm9
          clear f1 f2 f3
          have HE : Hid (C = crcL 4294967295 (bs.take (k + 1))) := by
            show C = _
            rw [crcL_take (by rw [← HN.out]; exact hkn), crcB, HC.out, HX.out, HS.out, HY.out]
          go_wp2
          go_round
          case rel => exact ⟨k + 1, C, by omega, by go_num, rfl, HE⟩
          case measure => simp [intOf]; omega
    · have hkn' : k = n := by omega
      subst hkn'
      have hf : bits .xor .u32 (S : Int) 4294967295 = ((crc bs : Nat) : Int) := by
        rw [show (4294967295 : Int) = ((4294967295 : Nat) : Int) from rfl, u32_xor_nat _ _ hS (by decide), HS.out, HN.out, List.take_length]
        rfl
      go_wp2
      go_ret
      exact ⟨rfl, rfl⟩
end Go.Proofs.YtngmleddlfkecaaDoor
