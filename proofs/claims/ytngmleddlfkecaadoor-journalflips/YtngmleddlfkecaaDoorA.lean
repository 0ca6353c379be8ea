import Derived.Test.YtngmleddlfkecaaDoorProg
import Derived.Test.YtngmleddlfkecaaDoorCrc
import Derived.WalkKit
import Derived.WalkSpells
import Derived.WalkLawsBesides
import Derived.Deep.QuietTactic
import Derived.BigQuiet
import Derived.BigRegion
import Derived.Laws.BitsAll
namespace Go.Proofs.YtngmleddlfkecaaDoor
open Go Go.Proofs Go.RowKit

/-- The table of halves of bytes, as it lies in memory. -/
def Tab (w : World) : Prop := ∀ i, i < 16 → w.cell? ⟨0, i, none⟩ = some (.int .u32 (tab.getD i 0 : Nat))

/-- Bytes that lie there. -/
def At (w : World) (b off : Nat) (bs : List Nat) : Prop := (∀ k, k < bs.length → w.cell? ⟨b, off + k, none⟩ = some (.int .u8 (bs.getD k 0 : Nat))) ∧ (∀ x ∈ bs, x < 256)

theorem tab_lt : ∀ n : Fin 16, tab.getD n.val 0 < 4294967296 := by decide

theorem nib_facts {w : World} (hT : Tab w) (X : Nat) (hX : X < 4294967296) : ∃ r t Y : Nat, r < 16 ∧ bits .and .u32 (X : Int) 15 = (r : Int) ∧ w.cell? ⟨0, r, none⟩ = some (.int .u32 (t : Int)) ∧
    bits .xor .u32 ((X : Int) / 16) (t : Int) = (Y : Int) ∧ Hid (Y = nib X) ∧ Hid (Y < 4294967296) := by
  have hr : X % 16 < 16 := Nat.mod_lt _ (by decide)
  have ht := tab_lt ⟨X % 16, hr⟩
  refine ⟨X % 16, tab.getD (X % 16) 0, nib X, hr, ?_, hT _ hr, ?_, rfl, ?_⟩
  · have h := u32_and_nat X 15 hX (by decide)
    rw [show ((15 : Nat) : Int) = 15 from rfl] at h
    rw [h]
    have := Nat.and_two_pow_sub_one_eq_mod X 4
    simp only [show (2 : Nat) ^ 4 - 1 = 15 from rfl, show (2 : Nat) ^ 4 = 16 from rfl] at this
    rw [this]
  · have h := u32_xor_nat (X / 16) (tab.getD (X % 16) 0) (by omega) ht
    rw [show ((X : Int) / 16) = ((X / 16 : Nat) : Int) by omega, h]
    rfl
  · exact Nat.xor_lt_two_pow (n := 32) (by omega) ht

theorem xor_fact (S y : Nat) (hS : S < 4294967296) (hy : y < 256) : ∃ X : Nat, bits .xor .u32 (S : Int) ((y : Int) % 4294967296) = (X : Int) ∧ bits .xor .u32 (S : Int) (y : Int) = (X : Int) ∧ Hid (X = S ^^^ y) ∧ X < 4294967296 := by
  refine ⟨S ^^^ y, ?_, u32_xor_nat S y hS (by omega), rfl, Nat.xor_lt_two_pow (n := 32) hS (by omega)⟩
  rw [show ((y : Int) % 4294967296) = (y : Int) by omega]
  exact u32_xor_nat S y hS (by omega)

theorem take_lt {bs : List Nat} (h : ∀ x ∈ bs, x < 256) (k : Nat) : ∀ x ∈ bs.take k, x < 256 := fun x hx => h x (List.mem_of_mem_take hx)

theorem crcL_take {bs : List Nat} {k : Nat} (hk : k < bs.length) (c : Nat) : crcL c (bs.take (k + 1)) = crcB (crcL c (bs.take k)) (bs.getD k 0) := by
  rw [List.take_add_one, List.getElem?_eq_getElem hk, Option.toList_some, crcL_snoc]
  simp [List.getD_eq_getElem?_getD, List.getElem?_eq_getElem hk]

theorem getD_lt {bs : List Nat} (h : ∀ x ∈ bs, x < 256) (k : Nat) : bs.getD k 0 < 256 := by
  rw [List.getD_eq_getElem?_getD]
  by_cases hk : k < bs.length
  · rw [List.getElem?_eq_getElem hk]; exact h _ (List.getElem_mem hk)
  · rw [List.getElem?_eq_none (by omega)]; decide

set_option maxRecDepth 100000 in
theorem sum_some (w : World) (b off cap : Nat) (bs : List Nat) (hb : At w b off bs) (hT : Tab w) (hl : bs.length ≤ 140737488351232) :
    Calls Tryd.prog 6 #[.slice (some ⟨b, off, none⟩) bs.length cap] w fun e w' => e = .returned (.int .u32 (crc bs : Nat)) ∧ w = w' := by
  obtain ⟨n, hn⟩ : ∃ n, n = bs.length := ⟨_, rfl⟩
  rw [← hn] at hl
  rw [← hn]
  have HN : Hid (n = bs.length) := hn
  clear hn
  go_enter Tryd.func6, Tryd.ntmps6
  go_wp2
  go_loop [3, 8] (fun s i => ∃ k S : Nat, k ≤ n ∧ i = .int .i64 k ∧ s = .int .u32 S ∧ Hid (S = crcL 4294967295 (bs.take k))) (fun _ i => n - (intOf i).toNat)
  case atStart => exact ⟨0, 4294967295, Nat.zero_le _, rfl, rfl, rfl⟩
  case round =>
    obtain ⟨k, S, hk, rfl, rfl, HS⟩ := hrel
    have hS : S < 4294967296 := by rw [HS.out]; exact crcL_lt _ _ (by decide) (take_lt hb.2 k)
    by_cases hkn : k < n
    · obtain ⟨y, HY, hy, hcy⟩ : ∃ y, Hid (y = bs.getD k 0) ∧ Hid (y < 256) ∧ w.cell? ⟨b, off + k, none⟩ = some (.int .u8 (y : Int)) := ⟨_, rfl, getD_lt hb.2 k, hb.1 k (by rw [← HN.out]; exact hkn)⟩
      obtain ⟨X, hx1, hx2, HX, hX⟩ := xor_fact S y hS hy.out
      obtain ⟨r1, t1, Y, hr1, ha1, hc1, hn1, HY1, HYl⟩ := nib_facts hT X hX
      obtain ⟨r2, t2, Z, hr2, ha2, hc2, hn2, HZ, HZl⟩ := nib_facts hT Y HYl.out
      clear hX hS
      have HE : Hid (Z = crcL 4294967295 (bs.take (k + 1))) := by
        show Z = _
        rw [crcL_take (by rw [← HN.out]; exact hkn), crcB_nib, HZ.out, HY1.out, HX.out, HS.out, HY.out]
      go_wp2
      go_round
      case rel => exact ⟨k + 1, Z, by omega, by go_num, rfl, HE⟩
      case measure => simp [intOf]; omega
    · have hkn' : k = n := by omega
      subst hkn'
      have hf : bits .xor .u32 IntKind.u32.max (S : Int) = ((crc bs : Nat) : Int) := by
        rw [show IntKind.u32.max = ((4294967295 : Nat) : Int) from rfl, u32_xor_nat _ _ (by decide) hS, HS.out, HN.out, List.take_length, Nat.xor_comm]
        rfl
      go_wp2
      go_ret
      exact ⟨rfl, rfl⟩
end Go.Proofs.YtngmleddlfkecaaDoor
