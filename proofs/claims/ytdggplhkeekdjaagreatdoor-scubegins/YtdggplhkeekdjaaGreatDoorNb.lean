import Derived.Test.YtdggplhkeekdjaaGreatDoorKg
import Derived.Test.YtdggplhkeekdjaaGreatDoorProg
import Derived.Shelf.Strings.Trim
/-
  DERIVED. The document's Title.
-/
namespace Go.Proofs.YtdggplhkeekdjaaGreatDoor.Ck
open Go Go.Proofs Go.RowKit

/-- Bytes that a title may have, from a place on. -/
def tlG (s : ByteArray) : Nat → Nat → Bool
  | 0, _ => true
  | f + 1, i => if i < s.size then (if (s.get! i).toNat < 32 ∨ 126 < (s.get! i).toNat ∨ (s.get! i).toNat = 92 then false else tlG s f (i + 1)) else true
def tlB (s : ByteArray) : Bool := if s.size < 1 ∨ 16 < s.size then false else if (s.get! 0).toNat = 32 ∨ (s.get! (s.size - 1)).toNat = 32 then false else tlG s s.size 0
set_option maxRecDepth 100000 in
set_option maxHeartbeats 4000000 in
theorem title_any (w : World) (s : ByteArray) (hs : s.size ≤ 140737488351232) : Calls Tryz.prog 21 #[.string s] w fun e w' => e = .returned (.bool (tlB s)) ∧ w = w' := by
  unfold tlB
  by_cases h1 : s.size < 1
  · have i1 : (s.size : Int) < 1 := by omega
    rw [if_pos (.inl h1)]
    go_enter Tryz.func21, Tryz.ntmps21
    go_wp2
    go_ret
    exact ⟨rfl, rfl⟩
  have i1 : ¬ ((s.size : Int) < 1) := by omega
  by_cases h2 : 16 < s.size
  · have i2 : (s.size : Int) > 16 := by omega
    rw [if_pos (.inr h2)]
    go_enter Tryz.func21, Tryz.ntmps21
    go_wp2
    go_ret
    exact ⟨rfl, rfl⟩
  have i2 : ¬ ((s.size : Int) > 16) := by omega
  rw [if_neg (by omega)]
  have i0 : (0 : Int) < (s.size : Int) := by omega
  have h0 : 0 < s.size := by omega
  obtain ⟨a, ha⟩ : ∃ a, s[0].toNat = a := ⟨_, rfl⟩
  have hga : (s.get! 0).toNat = a := by rw [← get_get! s 0 h0, ha]
  rw [hga]
  by_cases h3 : a = 32
  · have i3 : ((a : Int) == 32) = true := by rw [h3]; rfl
    rw [if_pos (.inl h3)]
    clear h3 hga
    go_enter Tryz.func21, Tryz.ntmps21
    go_wp2
    go_ret
    exact ⟨rfl, rfl⟩
  have i3 : ((a : Int) == 32) = false := beq_eq_false_iff_ne.2 (by omega)
  obtain ⟨m, hm⟩ : ∃ m, s.size = m + 1 := ⟨s.size - 1, by omega⟩
  have hm1 : (s.size : Int) - 1 = (m : Int) := by omega
  have hml : m < s.size := by omega
  obtain ⟨z, hz⟩ : ∃ z, s[m].toNat = z := ⟨_, rfl⟩
  have hgz : (s.get! (s.size - 1)).toNat = z := by rw [show s.size - 1 = m by omega, ← get_get! s m hml, hz]
  rw [hgz]
  by_cases h4 : z = 32
  · have i4 : ((z : Int) == 32) = true := by rw [h4]; rfl
    rw [if_pos (.inr h4)]
    clear h4 hga hgz hm
    go_enter Tryz.func21, Tryz.ntmps21
    go_wp2
    go_ret
    exact ⟨rfl, rfl⟩
  have i4 : ((z : Int) == 32) = false := beq_eq_false_iff_ne.2 (by omega)
  rw [if_neg (by omega)]
  obtain ⟨R, hR⟩ : ∃ R, tlG s s.size 0 = R := ⟨_, rfl⟩
  have HR : Hid (tlG s s.size 0 = R) := hR
  rw [hR]
  clear hR hga hgz hm
  go_enter Tryz.func21, Tryz.ntmps21
  go_wp2
  clear ha hz hm1 i0 i1 i2 i3 i4 h3 h4
  go_loopg [3] s.size (fun k s3 wx => ∃ i f : Nat, s3 = .int .i64 (i : Int) ∧ i ≤ s.size ∧ k + i = s.size ∧ s.size ≤ i + f ∧ Hid (tlG s f i = R) ∧ wx = w)
  case atStart => exact ⟨0, s.size, rfl, by omega, by omega, by omega, HR, rfl⟩
  case round =>
    clear HR
    obtain ⟨i, f, rfl, hi, hg, hf, HI, rfl⟩ := hrel
    by_cases hlt : i < s.size
    · have iI : (i : Int) < (s.size : Int) := by omega
      obtain ⟨b, hb⟩ : ∃ b, s[i].toNat = b := ⟨_, rfl⟩
      have hgb : (s.get! i).toNat = b := by rw [← get_get! s i hlt, hb]
      obtain ⟨f, rfl⟩ : ∃ f', f = f' + 1 := ⟨f - 1, by omega⟩
      have HI2 : Hid ((if b < 32 ∨ 126 < b ∨ b = 92 then false else tlG s f (i + 1)) = R) := by
        have := HI.out
        rw [tlG, if_pos hlt, hgb] at this
        exact this
      clear HI hgb
      by_cases j1 : b < 32
      · have k1 : (b : Int) < 32 := by omega
        obtain rfl : R = false := by have := HI2.out; rw [if_pos (.inl j1)] at this; exact this.symm
        clear HI2
        go_wp2
        go_ret
        exact ⟨rfl, rfl⟩
      have k1 : ¬ ((b : Int) < 32) := by omega
      by_cases j2 : 126 < b
      · have k2 : (b : Int) > 126 := by omega
        obtain rfl : R = false := by have := HI2.out; rw [if_pos (.inr (.inl j2))] at this; exact this.symm
        clear HI2
        go_wp2
        go_ret
        exact ⟨rfl, rfl⟩
      have k2 : ¬ ((b : Int) > 126) := by omega
      by_cases j3 : b = 92
      · have k3 : ((b : Int) == 92) = true := by rw [j3]; rfl
        obtain rfl : R = false := by have := HI2.out; rw [if_pos (.inr (.inr j3))] at this; exact this.symm
        clear HI2 j3
        go_wp2
        go_ret
        exact ⟨rfl, rfl⟩
      have k3 : ((b : Int) == 92) = false := beq_eq_false_iff_ne.2 (by omega)
      have HI3 : Hid (tlG s f (i + 1) = R) := by have := HI2.out; rw [if_neg (by omega)] at this; exact this
      clear HI2
      go_wp2
      go_roundg (s.size - (i + 1))
      case measure => omega
      case rel => exact ⟨i + 1, f, by simp, by omega, by omega, by omega, HI3, rfl⟩
    · have iI : ¬ ((i : Int) < (s.size : Int)) := by omega
      obtain rfl : R = true := by
        have := HI.out
        cases f with
        | zero => exact this.symm
        | succ f => rw [tlG, if_neg hlt] at this; exact this.symm
      clear HI
      go_wp2
      go_ret
      exact ⟨rfl, rfl⟩
end Go.Proofs.YtdggplhkeekdjaaGreatDoor.Ck

namespace Go.Proofs.YtdggplhkeekdjaaGreatDoor.Ck
open Go Go.Proofs Go.RowKit Go.Shelf Go.Lib

/-- What the shelf's names are here. -/
def tmRen : Go.Shelf.Ren := ⟨fun | 119 => 113 | 120 => 108 | 137 => 112 | 151 => 99 | 152 => 107 | 160 => 49 | 197 => 98 | 217 => 136 | 224 => 114 | 225 => 115 | 227 => 77 | 228 => 97 | 231 => 75 | 232 => 76 | 233 => 78 | 234 => 79 | 235 => 80 | 236 => 81 | 260 => 106 | 266 => 154 | 271 => 100 | n => n, fun | 0 => 0 | 3 => 3 | 4 => 4 | 5 => 5 | 9 => 9 | 21 => 21 | 46 => 138 | 105 => 190 | 116 => 172 | 117 => 173 | 119 => 199 | 124 => 176 | 138 => 201 | 139 => 202 | n => n, fun | 3 => 0 | 4 => 1 | n => n⟩
theorem tmLays160 : Go.Proofs.Lays.n160 Tryz.prog tmRen := {
  mixed := by kernel_rfl,
  f119 := Tryz.func113.trans (congrArg some (by kernel_rfl)),
  f120 := Tryz.func108.trans (congrArg some (by kernel_rfl)),
  f137 := Tryz.func112.trans (congrArg some (by kernel_rfl)),
  f151 := Tryz.func99.trans (congrArg some (by kernel_rfl)),
  f152 := Tryz.func107.trans (congrArg some (by kernel_rfl)),
  f160 := Tryz.func49.trans (congrArg some (by kernel_rfl)),
  f197 := Tryz.func98.trans (congrArg some (by kernel_rfl)),
  f217 := Tryz.func136.trans (congrArg some (by kernel_rfl)),
  f224 := Tryz.func114.trans (congrArg some (by kernel_rfl)),
  f225 := Tryz.func115.trans (congrArg some (by kernel_rfl)),
  f227 := Tryz.func77.trans (congrArg some (by kernel_rfl)),
  f228 := Tryz.func97.trans (congrArg some (by kernel_rfl)),
  f231 := Tryz.func75.trans (congrArg some (by kernel_rfl)),
  f232 := Tryz.func76.trans (congrArg some (by kernel_rfl)),
  f233 := Tryz.func78.trans (congrArg some (by kernel_rfl)),
  f234 := Tryz.func79.trans (congrArg some (by kernel_rfl)),
  f235 := Tryz.func80.trans (congrArg some (by kernel_rfl)),
  f236 := Tryz.func81.trans (congrArg some (by kernel_rfl)),
  f260 := Tryz.func106.trans (congrArg some (by kernel_rfl)),
  f266 := Tryz.func154.trans (congrArg some (by kernel_rfl)),
  f271 := Tryz.func100.trans (congrArg some (by kernel_rfl)),
  t0 := Tryz.underlying0,
  a0 := Tryz.isAgg0,
  z0 := Tryz.sizeOf0,
  v0 := Tryz.zeroValue0,
  t3 := Tryz.underlying3,
  a3 := Tryz.isAgg3,
  z3 := Tryz.sizeOf3,
  v3 := Tryz.zeroValue3,
  t4 := Tryz.underlying4,
  a4 := Tryz.isAgg4,
  z4 := Tryz.sizeOf4,
  v4 := Tryz.zeroValue4,
  t5 := Tryz.underlying5,
  a5 := Tryz.isAgg5,
  z5 := Tryz.sizeOf5,
  v5 := Tryz.zeroValue5,
  t9 := Tryz.underlying9,
  a9 := Tryz.isAgg9,
  z9 := Tryz.sizeOf9,
  v9 := Tryz.zeroValue9,
  t21 := Tryz.underlying21,
  a21 := Tryz.isAgg21,
  z21 := Tryz.sizeOf21,
  v21 := Tryz.zeroValue21,
  t46 := Tryz.underlying138,
  a46 := Tryz.isAgg138,
  z46 := Tryz.sizeOf138,
  v46 := Tryz.zeroValue138,
  t105 := Tryz.underlying190,
  a105 := Tryz.isAgg190,
  z105 := Tryz.sizeOf190,
  v105 := Tryz.zeroValue190,
  t116 := Tryz.underlying172,
  a116 := Tryz.isAgg172,
  z116 := Tryz.sizeOf172,
  t117 := Tryz.underlying173,
  a117 := Tryz.isAgg173,
  z117 := Tryz.sizeOf173,
  v117 := Tryz.zeroValue173,
  t119 := Tryz.underlying199,
  a119 := Tryz.isAgg199,
  z119 := Tryz.sizeOf199,
  t124 := Tryz.underlying176,
  a124 := Tryz.isAgg176,
  z124 := Tryz.sizeOf176,
  v124 := Tryz.zeroValue176,
  t138 := Tryz.underlying201,
  a138 := Tryz.isAgg201,
  z138 := Tryz.sizeOf201,
  v138 := Tryz.zeroValue201,
  t139 := Tryz.underlying202,
  a139 := Tryz.isAgg202,
  z139 := Tryz.sizeOf202,
  v139 := Tryz.zeroValue202,
  g3 := by kernel_rfl,
  g4 := by kernel_rfl }
end Go.Proofs.YtdggplhkeekdjaaGreatDoor.Ck
