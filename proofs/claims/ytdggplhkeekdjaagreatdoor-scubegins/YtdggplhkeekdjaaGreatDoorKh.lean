import Derived.Test.YtdggplhkeekdjaaGreatDoorKg
import Derived.Lib.DecodeN
import Derived.Lib.RuneBytes
import Derived.Laws.BitsLemmas
/-
  DERIVED. The document's reading of one character.
-/
namespace Go.Proofs.YtdggplhkeekdjaaGreatDoor.Ck
open Go Go.Proofs Go.RowKit

theorem and31 : ∀ b : Fin 256, bits .and .i64 (b.val : Int) 31 = ((b.val % 32 : Nat) : Int) := by decide +kernel
theorem and15 : ∀ b : Fin 256, bits .and .i64 (b.val : Int) 15 = ((b.val % 16 : Nat) : Int) := by decide +kernel
theorem and7 : ∀ b : Fin 256, bits .and .i64 (b.val : Int) 7 = ((b.val % 8 : Nat) : Int) := by decide +kernel
theorem and63 : ∀ b : Fin 256, bits .and .i64 (b.val : Int) 63 = ((b.val % 64 : Nat) : Int) := by decide +kernel
theorem join64 (a c : Nat) (ha : a < 33554432) (hc : c < 64) : bits .or .i64 ((a : Int) * 64) (c : Int) = ((a * 64 + c : Nat) : Int) := by
  rw [bits_join .i64 40 (by decide) (fun n h0 h1 => Go.IntWalk.i64_in n (by omega)) 6 ((a : Int) * 64) (c : Int) (by omega) (by omega) (by omega) (by omega) (by omega) (by omega)]
  omega
/-- What so many bytes behind a leading one add up to. -/
def accR (c : Nat) (s : ByteArray) (i : Nat) : Nat → Nat
  | 0 => c
  | k + 1 => accR c s i k * 64 + (s.get! (i + (k + 1))).toNat % 64
def okR (s : ByteArray) (i : Nat) : Nat → Bool
  | 0 => true
  | k + 1 => okR s i k && decide (128 ≤ (s.get! (i + (k + 1))).toNat ∧ (s.get! (i + (k + 1))).toNat ≤ 191)
theorem okR_no {s : ByteArray} {i : Nat} : ∀ {n k : Nat}, k < n → ¬ (128 ≤ (s.get! (i + (k + 1))).toNat ∧ (s.get! (i + (k + 1))).toNat ≤ 191) → ¬ okR s i n = true
  | n + 1, k, h, hb => by
    rw [okR]
    rcases Nat.lt_or_ge k n with h1 | h1
    · have := okR_no h1 hb
      intro h2
      exact this (Bool.and_eq_true_iff.1 h2).1
    · obtain rfl : k = n := by omega
      rw [decide_eq_false hb]
      simp
theorem accR_lt (c : Nat) (s : ByteArray) (i : Nat) (hc : c < 32) : ∀ k, k ≤ 3 → accR c s i k < 33554432
  | 0, _ => by show c < _; omega
  | 1, _ => by simp only [accR]; omega
  | 2, _ => by simp only [accR]; omega
  | 3, _ => by simp only [accR]; omega
def rnL (s : ByteArray) (i n least c : Nat) : Int × Nat :=
  if s.size ≤ i + n then (-1, 1) else if ¬ okR s i n = true then (-1, 1) else if accR c s i n < least ∨ 1114111 < accR c s i n ∨ (55296 ≤ accR c s i n ∧ accR c s i n ≤ 57343) then (-1, 1) else ((accR c s i n : Nat), n + 1)
/-- The character that begins here, and how many bytes it has. -/
def rn (s : ByteArray) (i : Nat) : Int × Nat :=
  if (s.get! i).toNat < 128 then (((s.get! i).toNat : Nat), 1)
  else if 194 ≤ (s.get! i).toNat ∧ (s.get! i).toNat ≤ 223 then rnL s i 1 128 ((s.get! i).toNat % 32)
  else if 224 ≤ (s.get! i).toNat ∧ (s.get! i).toNat ≤ 239 then rnL s i 2 2048 ((s.get! i).toNat % 16)
  else if 240 ≤ (s.get! i).toNat ∧ (s.get! i).toNat ≤ 244 then rnL s i 3 65536 ((s.get! i).toNat % 8)
  else (-1, 1)

set_option maxRecDepth 100000 in
set_option maxHeartbeats 4000000 in
theorem rune_1 (w : World) (s : ByteArray) (i : Nat) (hs : s.size ≤ 140737488351232) (hi : i < s.size) (h1 : 194 ≤ (s.get! i).toNat) (h2 : (s.get! i).toNat ≤ 223) :
    Calls Tryz.prog 54 #[.string s, .int .i64 (i : Int)] w fun e w' => e = .returned (.tuple #[.int .i64 (rnL s i 1 128 ((s.get! i).toNat % 32)).1, .int .i64 ((rnL s i 1 128 ((s.get! i).toNat % 32)).2 : Nat)]) ∧ w = w' := by
  obtain ⟨b, hb⟩ : ∃ b, s[i].toNat = b := ⟨_, rfl⟩
  have hgb : (s.get! i).toNat = b := by rw [← get_get! s i hi, hb]
  rw [hgb] at h1 h2 ⊢
  clear hgb
  have x0 : ¬ ((b : Int) < 128) := by omega
  have y1 : (b : Int) ≥ 194 := by omega
  have y2 : (b : Int) ≤ 223 := by omega
  obtain ⟨F, hF⟩ : ∃ F, rnL s i 1 128 (b % 32) = F := ⟨_, rfl⟩
  rw [hF]
  unfold rnL at hF
  have HF : Hid (_ = F) := hF
  clear hF
  have hm : b % 32 < 32 := by omega
  have AM : Hid (bits .and .i64 (b : Int) 31 = ((b % 32 : Nat) : Int)) := and31 ⟨b, by omega⟩
  by_cases hsz : s.size ≤ i + 1
  · obtain rfl : ((-1 : Int), 1) = F := by have := HF.out; rw [if_pos hsz] at this; exact this
    have g1 : (i : Int) + 1 ≥ (s.size : Int) := by omega
    clear HF
    go_enter Tryz.func54, Tryz.ntmps54
    go_wp2
    refine bodyPost_ret (v := .tuple #[.int .i64 (-1), .int .i64 1]) (by simp [results, Tryz.results54, go_sem]) rfl ⟨rfl, rfl⟩
  have g1 : ¬ ((i : Int) + 1 ≥ (s.size : Int)) := by omega
  rw [if_neg hsz] at HF
  go_enter Tryz.func54, Tryz.ntmps54
  go_wp2
  go_loopg [6, 9] 1 (fun g s6 s9 wx => ∃ k : Nat, s6 = .int .i64 ((accR (b % 32) s i k : Nat) : Int) ∧ s9 = .int .i64 ((k + 1 : Nat) : Int) ∧ k ≤ 1 ∧ g + k = 1 ∧ Hid (okR s i k = true) ∧ w = wx)
  case atStart => exact ⟨0, by rw [AM.out]; rfl, rfl, by omega, by omega, rfl, rfl⟩
  case round =>
    obtain ⟨k, rfl, rfl, hk, hg, HK, hw⟩ := hrel
    subst hw
    have hacc := accR_lt (b % 32) s i hm k (by omega)
    by_cases hlt : k < 1
    · have kI : (((k + 1 : Nat)) : Int) ≤ 1 := by omega
      obtain ⟨A, hA⟩ : ∃ A, accR (b % 32) s i k = A := ⟨_, rfl⟩
      have hpos : i + (k + 1) < s.size := by omega
      have hposI : (i : Int) + ((k + 1 : Nat) : Int) = ((i + (k + 1) : Nat) : Int) := by omega
      obtain ⟨d, hd⟩ : ∃ d, s[i + (k + 1)].toNat = d := ⟨_, rfl⟩
      have hgd : (s.get! (i + (k + 1))).toNat = d := by rw [← get_get! s _ hpos, hd]
      have hd256 : d < 256 := by rw [← hgd]; exact UInt8.toNat_lt _
      rw [hA] at hacc ⊢
      by_cases hok : 128 ≤ d ∧ d ≤ 191
      · have d1 : ¬ ((d : Int) < 128) := by omega
        have d2 : ¬ ((d : Int) > 191) := by omega
        have hj := join64 A (d % 64) (by omega) (Nat.mod_lt _ (by decide))
        have HJ : Hid (bits BinOp.or IntKind.i64 ((A : Int) * 64) (bits BinOp.and IntKind.i64 (d : Int) 63) = ((A * 64 + d % 64 : Nat) : Int)) := by show _ = _; rw [and63 ⟨d, hd256⟩]; exact hj
        have HK2 : Hid (okR s i (k + 1) = true) := by
          show _ = _
          rw [okR, HK.out, hgd, decide_eq_true hok]
          rfl
        have HA2 : Hid (accR (b % 32) s i (k + 1) = A * 64 + d % 64) := by
          show _ = _
          rw [accR, hA, hgd]
        clear HK hgd hj hA
        go_wp2
        go_roundg (1 - (k + 1))
        case measure => omega
        case rel => exact ⟨k + 1, by rw [HA2.out, ← HJ.out], by simp, by omega, by omega, HK2, rfl⟩
      · obtain rfl : ((-1 : Int), 1) = F := by
          have := HF.out
          rw [if_pos (okR_no hlt (by rw [hgd]; exact hok))] at this
          exact this
        clear HF HK hgd hA
        by_cases hd1 : d < 128
        · have d1 : (d : Int) < 128 := by omega
          go_wp2
          refine bodyPost_ret (v := .tuple #[.int .i64 (-1), .int .i64 1]) (by simp [results, Tryz.results54, go_sem]) rfl ⟨rfl, rfl⟩
        · have d1 : ¬ ((d : Int) < 128) := by omega
          have d2 : (d : Int) > 191 := by omega
          go_wp2
          refine bodyPost_ret (v := .tuple #[.int .i64 (-1), .int .i64 1]) (by simp [results, Tryz.results54, go_sem]) rfl ⟨rfl, rfl⟩
    · obtain rfl : k = 1 := by omega
      have hF := HF.out
      rw [if_neg (by rw [HK.out]; simp)] at hF
      clear HF HK
      generalize accR (b % 32) s i 1 = A at *
      by_cases hbad : A < 128 ∨ 1114111 < A ∨ (55296 ≤ A ∧ A ≤ 57343)
      · obtain rfl : ((-1 : Int), 1) = F := by rw [if_pos hbad] at hF; exact hF
        clear hF
        by_cases b1 : A < 128
        · have i1 : (A : Int) < 128 := by omega
          go_wp2
          refine bodyPost_ret (v := .tuple #[.int .i64 (-1), .int .i64 1]) (by simp [results, Tryz.results54, go_sem]) rfl ⟨rfl, rfl⟩
        · have i1 : ¬ ((A : Int) < 128) := by omega
          by_cases b2 : 1114111 < A
          · have i2 : (A : Int) > 1114111 := by omega
            go_wp2
            refine bodyPost_ret (v := .tuple #[.int .i64 (-1), .int .i64 1]) (by simp [results, Tryz.results54, go_sem]) rfl ⟨rfl, rfl⟩
          · have i2 : ¬ ((A : Int) > 1114111) := by omega
            have i3 : (A : Int) ≥ 55296 := by omega
            have i4 : (A : Int) ≤ 57343 := by omega
            go_wp2
            refine bodyPost_ret (v := .tuple #[.int .i64 (-1), .int .i64 1]) (by simp [results, Tryz.results54, go_sem]) rfl ⟨rfl, rfl⟩
      · obtain rfl : ((A : Int), 1 + 1) = F := by rw [if_neg hbad] at hF; exact hF
        have i1 : ¬ ((A : Int) < 128) := by omega
        have i2 : ¬ ((A : Int) > 1114111) := by omega
        clear hF
        by_cases b3 : 55296 ≤ A
        · have i3 : (A : Int) ≥ 55296 := by omega
          have i4 : ¬ ((A : Int) ≤ 57343) := by omega
          go_wp2
          refine bodyPost_ret (v := .tuple #[.int .i64 (A : Int), .int .i64 (1 + 1 : Nat)]) (by simp [results, Tryz.results54, go_sem]) rfl ⟨rfl, rfl⟩
        · have i3 : ¬ ((A : Int) ≥ 55296) := by omega
          go_wp2
          refine bodyPost_ret (v := .tuple #[.int .i64 (A : Int), .int .i64 (1 + 1 : Nat)]) (by simp [results, Tryz.results54, go_sem]) rfl ⟨rfl, rfl⟩
set_option maxRecDepth 100000 in
set_option maxHeartbeats 4000000 in
theorem rune_2 (w : World) (s : ByteArray) (i : Nat) (hs : s.size ≤ 140737488351232) (hi : i < s.size) (h1 : 224 ≤ (s.get! i).toNat) (h2 : (s.get! i).toNat ≤ 239) :
    Calls Tryz.prog 54 #[.string s, .int .i64 (i : Int)] w fun e w' => e = .returned (.tuple #[.int .i64 (rnL s i 2 2048 ((s.get! i).toNat % 16)).1, .int .i64 ((rnL s i 2 2048 ((s.get! i).toNat % 16)).2 : Nat)]) ∧ w = w' := by
  obtain ⟨b, hb⟩ : ∃ b, s[i].toNat = b := ⟨_, rfl⟩
  have hgb : (s.get! i).toNat = b := by rw [← get_get! s i hi, hb]
  rw [hgb] at h1 h2 ⊢
  clear hgb
  have x0 : ¬ ((b : Int) < 128) := by omega
  have x1 : (b : Int) ≥ 194 := by omega
  have x2 : ¬ ((b : Int) ≤ 223) := by omega
  have y1 : (b : Int) ≥ 224 := by omega
  have y2 : (b : Int) ≤ 239 := by omega
  obtain ⟨F, hF⟩ : ∃ F, rnL s i 2 2048 (b % 16) = F := ⟨_, rfl⟩
  rw [hF]
  unfold rnL at hF
  have HF : Hid (_ = F) := hF
  clear hF
  have hm : b % 16 < 32 := by omega
  have AM : Hid (bits .and .i64 (b : Int) 15 = ((b % 16 : Nat) : Int)) := and15 ⟨b, by omega⟩
  by_cases hsz : s.size ≤ i + 2
  · obtain rfl : ((-1 : Int), 1) = F := by have := HF.out; rw [if_pos hsz] at this; exact this
    have g1 : (i : Int) + 2 ≥ (s.size : Int) := by omega
    clear HF
    go_enter Tryz.func54, Tryz.ntmps54
    go_wp2
    refine bodyPost_ret (v := .tuple #[.int .i64 (-1), .int .i64 1]) (by simp [results, Tryz.results54, go_sem]) rfl ⟨rfl, rfl⟩
  have g1 : ¬ ((i : Int) + 2 ≥ (s.size : Int)) := by omega
  rw [if_neg hsz] at HF
  go_enter Tryz.func54, Tryz.ntmps54
  go_wp2
  go_loopg [6, 9] 2 (fun g s6 s9 wx => ∃ k : Nat, s6 = .int .i64 ((accR (b % 16) s i k : Nat) : Int) ∧ s9 = .int .i64 ((k + 1 : Nat) : Int) ∧ k ≤ 2 ∧ g + k = 2 ∧ Hid (okR s i k = true) ∧ w = wx)
  case atStart => exact ⟨0, by rw [AM.out]; rfl, rfl, by omega, by omega, rfl, rfl⟩
  case round =>
    obtain ⟨k, rfl, rfl, hk, hg, HK, hw⟩ := hrel
    subst hw
    have hacc := accR_lt (b % 16) s i hm k (by omega)
    by_cases hlt : k < 2
    · have kI : (((k + 1 : Nat)) : Int) ≤ 2 := by omega
      obtain ⟨A, hA⟩ : ∃ A, accR (b % 16) s i k = A := ⟨_, rfl⟩
      have hpos : i + (k + 1) < s.size := by omega
      have hposI : (i : Int) + ((k + 1 : Nat) : Int) = ((i + (k + 1) : Nat) : Int) := by omega
      obtain ⟨d, hd⟩ : ∃ d, s[i + (k + 1)].toNat = d := ⟨_, rfl⟩
      have hgd : (s.get! (i + (k + 1))).toNat = d := by rw [← get_get! s _ hpos, hd]
      have hd256 : d < 256 := by rw [← hgd]; exact UInt8.toNat_lt _
      rw [hA] at hacc ⊢
      by_cases hok : 128 ≤ d ∧ d ≤ 191
      · have d1 : ¬ ((d : Int) < 128) := by omega
        have d2 : ¬ ((d : Int) > 191) := by omega
        have hj := join64 A (d % 64) (by omega) (Nat.mod_lt _ (by decide))
        have HJ : Hid (bits BinOp.or IntKind.i64 ((A : Int) * 64) (bits BinOp.and IntKind.i64 (d : Int) 63) = ((A * 64 + d % 64 : Nat) : Int)) := by show _ = _; rw [and63 ⟨d, hd256⟩]; exact hj
        have HK2 : Hid (okR s i (k + 1) = true) := by
          show _ = _
          rw [okR, HK.out, hgd, decide_eq_true hok]
          rfl
        have HA2 : Hid (accR (b % 16) s i (k + 1) = A * 64 + d % 64) := by
          show _ = _
          rw [accR, hA, hgd]
        clear HK hgd hj hA
        go_wp2
        go_roundg (2 - (k + 1))
        case measure => omega
        case rel => exact ⟨k + 1, by rw [HA2.out, ← HJ.out], by simp, by omega, by omega, HK2, rfl⟩
      · obtain rfl : ((-1 : Int), 1) = F := by
          have := HF.out
          rw [if_pos (okR_no hlt (by rw [hgd]; exact hok))] at this
          exact this
        clear HF HK hgd hA
        by_cases hd1 : d < 128
        · have d1 : (d : Int) < 128 := by omega
          go_wp2
          refine bodyPost_ret (v := .tuple #[.int .i64 (-1), .int .i64 1]) (by simp [results, Tryz.results54, go_sem]) rfl ⟨rfl, rfl⟩
        · have d1 : ¬ ((d : Int) < 128) := by omega
          have d2 : (d : Int) > 191 := by omega
          go_wp2
          refine bodyPost_ret (v := .tuple #[.int .i64 (-1), .int .i64 1]) (by simp [results, Tryz.results54, go_sem]) rfl ⟨rfl, rfl⟩
    · obtain rfl : k = 2 := by omega
      have hF := HF.out
      rw [if_neg (by rw [HK.out]; simp)] at hF
      clear HF HK
      generalize accR (b % 16) s i 2 = A at *
      by_cases hbad : A < 2048 ∨ 1114111 < A ∨ (55296 ≤ A ∧ A ≤ 57343)
      · obtain rfl : ((-1 : Int), 1) = F := by rw [if_pos hbad] at hF; exact hF
        clear hF
        by_cases b1 : A < 2048
        · have i1 : (A : Int) < 2048 := by omega
          go_wp2
          refine bodyPost_ret (v := .tuple #[.int .i64 (-1), .int .i64 1]) (by simp [results, Tryz.results54, go_sem]) rfl ⟨rfl, rfl⟩
        · have i1 : ¬ ((A : Int) < 2048) := by omega
          by_cases b2 : 1114111 < A
          · have i2 : (A : Int) > 1114111 := by omega
            go_wp2
            refine bodyPost_ret (v := .tuple #[.int .i64 (-1), .int .i64 1]) (by simp [results, Tryz.results54, go_sem]) rfl ⟨rfl, rfl⟩
          · have i2 : ¬ ((A : Int) > 1114111) := by omega
            have i3 : (A : Int) ≥ 55296 := by omega
            have i4 : (A : Int) ≤ 57343 := by omega
            go_wp2
            refine bodyPost_ret (v := .tuple #[.int .i64 (-1), .int .i64 1]) (by simp [results, Tryz.results54, go_sem]) rfl ⟨rfl, rfl⟩
      · obtain rfl : ((A : Int), 2 + 1) = F := by rw [if_neg hbad] at hF; exact hF
        have i1 : ¬ ((A : Int) < 2048) := by omega
        have i2 : ¬ ((A : Int) > 1114111) := by omega
        clear hF
        by_cases b3 : 55296 ≤ A
        · have i3 : (A : Int) ≥ 55296 := by omega
          have i4 : ¬ ((A : Int) ≤ 57343) := by omega
          go_wp2
          refine bodyPost_ret (v := .tuple #[.int .i64 (A : Int), .int .i64 (2 + 1 : Nat)]) (by simp [results, Tryz.results54, go_sem]) rfl ⟨rfl, rfl⟩
        · have i3 : ¬ ((A : Int) ≥ 55296) := by omega
          go_wp2
          refine bodyPost_ret (v := .tuple #[.int .i64 (A : Int), .int .i64 (2 + 1 : Nat)]) (by simp [results, Tryz.results54, go_sem]) rfl ⟨rfl, rfl⟩
set_option maxRecDepth 100000 in
set_option maxHeartbeats 4000000 in
theorem rune_3 (w : World) (s : ByteArray) (i : Nat) (hs : s.size ≤ 140737488351232) (hi : i < s.size) (h1 : 240 ≤ (s.get! i).toNat) (h2 : (s.get! i).toNat ≤ 244) :
    Calls Tryz.prog 54 #[.string s, .int .i64 (i : Int)] w fun e w' => e = .returned (.tuple #[.int .i64 (rnL s i 3 65536 ((s.get! i).toNat % 8)).1, .int .i64 ((rnL s i 3 65536 ((s.get! i).toNat % 8)).2 : Nat)]) ∧ w = w' := by
  obtain ⟨b, hb⟩ : ∃ b, s[i].toNat = b := ⟨_, rfl⟩
  have hgb : (s.get! i).toNat = b := by rw [← get_get! s i hi, hb]
  rw [hgb] at h1 h2 ⊢
  clear hgb
  have x0 : ¬ ((b : Int) < 128) := by omega
  have x1 : (b : Int) ≥ 194 := by omega
  have x2 : ¬ ((b : Int) ≤ 223) := by omega
  have x3 : (b : Int) ≥ 224 := by omega
  have x4 : ¬ ((b : Int) ≤ 239) := by omega
  have y1 : (b : Int) ≥ 240 := by omega
  have y2 : (b : Int) ≤ 244 := by omega
  obtain ⟨F, hF⟩ : ∃ F, rnL s i 3 65536 (b % 8) = F := ⟨_, rfl⟩
  rw [hF]
  unfold rnL at hF
  have HF : Hid (_ = F) := hF
  clear hF
  have hm : b % 8 < 32 := by omega
  have AM : Hid (bits .and .i64 (b : Int) 7 = ((b % 8 : Nat) : Int)) := and7 ⟨b, by omega⟩
  by_cases hsz : s.size ≤ i + 3
  · obtain rfl : ((-1 : Int), 1) = F := by have := HF.out; rw [if_pos hsz] at this; exact this
    have g1 : (i : Int) + 3 ≥ (s.size : Int) := by omega
    clear HF
    go_enter Tryz.func54, Tryz.ntmps54
    go_wp2
    refine bodyPost_ret (v := .tuple #[.int .i64 (-1), .int .i64 1]) (by simp [results, Tryz.results54, go_sem]) rfl ⟨rfl, rfl⟩
  have g1 : ¬ ((i : Int) + 3 ≥ (s.size : Int)) := by omega
  rw [if_neg hsz] at HF
  go_enter Tryz.func54, Tryz.ntmps54
  go_wp2
  go_loopg [6, 9] 3 (fun g s6 s9 wx => ∃ k : Nat, s6 = .int .i64 ((accR (b % 8) s i k : Nat) : Int) ∧ s9 = .int .i64 ((k + 1 : Nat) : Int) ∧ k ≤ 3 ∧ g + k = 3 ∧ Hid (okR s i k = true) ∧ w = wx)
  case atStart => exact ⟨0, by rw [AM.out]; rfl, rfl, by omega, by omega, rfl, rfl⟩
  case round =>
    obtain ⟨k, rfl, rfl, hk, hg, HK, hw⟩ := hrel
    subst hw
    have hacc := accR_lt (b % 8) s i hm k (by omega)
    by_cases hlt : k < 3
    · have kI : (((k + 1 : Nat)) : Int) ≤ 3 := by omega
      obtain ⟨A, hA⟩ : ∃ A, accR (b % 8) s i k = A := ⟨_, rfl⟩
      have hpos : i + (k + 1) < s.size := by omega
      have hposI : (i : Int) + ((k + 1 : Nat) : Int) = ((i + (k + 1) : Nat) : Int) := by omega
      obtain ⟨d, hd⟩ : ∃ d, s[i + (k + 1)].toNat = d := ⟨_, rfl⟩
      have hgd : (s.get! (i + (k + 1))).toNat = d := by rw [← get_get! s _ hpos, hd]
      have hd256 : d < 256 := by rw [← hgd]; exact UInt8.toNat_lt _
      rw [hA] at hacc ⊢
      by_cases hok : 128 ≤ d ∧ d ≤ 191
      · have d1 : ¬ ((d : Int) < 128) := by omega
        have d2 : ¬ ((d : Int) > 191) := by omega
        have hj := join64 A (d % 64) (by omega) (Nat.mod_lt _ (by decide))
        have HJ : Hid (bits BinOp.or IntKind.i64 ((A : Int) * 64) (bits BinOp.and IntKind.i64 (d : Int) 63) = ((A * 64 + d % 64 : Nat) : Int)) := by show _ = _; rw [and63 ⟨d, hd256⟩]; exact hj
        have HK2 : Hid (okR s i (k + 1) = true) := by
          show _ = _
          rw [okR, HK.out, hgd, decide_eq_true hok]
          rfl
        have HA2 : Hid (accR (b % 8) s i (k + 1) = A * 64 + d % 64) := by
          show _ = _
          rw [accR, hA, hgd]
        clear HK hgd hj hA
        go_wp2
        go_roundg (3 - (k + 1))
        case measure => omega
        case rel => exact ⟨k + 1, by rw [HA2.out, ← HJ.out], by simp, by omega, by omega, HK2, rfl⟩
      · obtain rfl : ((-1 : Int), 1) = F := by
          have := HF.out
          rw [if_pos (okR_no hlt (by rw [hgd]; exact hok))] at this
          exact this
        clear HF HK hgd hA
        by_cases hd1 : d < 128
        · have d1 : (d : Int) < 128 := by omega
          go_wp2
          refine bodyPost_ret (v := .tuple #[.int .i64 (-1), .int .i64 1]) (by simp [results, Tryz.results54, go_sem]) rfl ⟨rfl, rfl⟩
        · have d1 : ¬ ((d : Int) < 128) := by omega
          have d2 : (d : Int) > 191 := by omega
          go_wp2
          refine bodyPost_ret (v := .tuple #[.int .i64 (-1), .int .i64 1]) (by simp [results, Tryz.results54, go_sem]) rfl ⟨rfl, rfl⟩
    · obtain rfl : k = 3 := by omega
      have hF := HF.out
      rw [if_neg (by rw [HK.out]; simp)] at hF
      clear HF HK
      generalize accR (b % 8) s i 3 = A at *
      by_cases hbad : A < 65536 ∨ 1114111 < A ∨ (55296 ≤ A ∧ A ≤ 57343)
      · obtain rfl : ((-1 : Int), 1) = F := by rw [if_pos hbad] at hF; exact hF
        clear hF
        by_cases b1 : A < 65536
        · have i1 : (A : Int) < 65536 := by omega
          go_wp2
          refine bodyPost_ret (v := .tuple #[.int .i64 (-1), .int .i64 1]) (by simp [results, Tryz.results54, go_sem]) rfl ⟨rfl, rfl⟩
        · have i1 : ¬ ((A : Int) < 65536) := by omega
          by_cases b2 : 1114111 < A
          · have i2 : (A : Int) > 1114111 := by omega
            go_wp2
            refine bodyPost_ret (v := .tuple #[.int .i64 (-1), .int .i64 1]) (by simp [results, Tryz.results54, go_sem]) rfl ⟨rfl, rfl⟩
          · have i2 : ¬ ((A : Int) > 1114111) := by omega
            have i3 : (A : Int) ≥ 55296 := by omega
            have i4 : (A : Int) ≤ 57343 := by omega
            go_wp2
            refine bodyPost_ret (v := .tuple #[.int .i64 (-1), .int .i64 1]) (by simp [results, Tryz.results54, go_sem]) rfl ⟨rfl, rfl⟩
      · obtain rfl : ((A : Int), 3 + 1) = F := by rw [if_neg hbad] at hF; exact hF
        have i1 : ¬ ((A : Int) < 65536) := by omega
        have i2 : ¬ ((A : Int) > 1114111) := by omega
        clear hF
        by_cases b3 : 55296 ≤ A
        · have i3 : (A : Int) ≥ 55296 := by omega
          have i4 : ¬ ((A : Int) ≤ 57343) := by omega
          go_wp2
          refine bodyPost_ret (v := .tuple #[.int .i64 (A : Int), .int .i64 (3 + 1 : Nat)]) (by simp [results, Tryz.results54, go_sem]) rfl ⟨rfl, rfl⟩
        · have i3 : ¬ ((A : Int) ≥ 55296) := by omega
          go_wp2
          refine bodyPost_ret (v := .tuple #[.int .i64 (A : Int), .int .i64 (3 + 1 : Nat)]) (by simp [results, Tryz.results54, go_sem]) rfl ⟨rfl, rfl⟩
end Go.Proofs.YtdggplhkeekdjaaGreatDoor.Ck
