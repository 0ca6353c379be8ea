
import Derived.Test.YtlmkbfnmnbmakaaGreatDoorRD
import Derived.Shelf.Strings.SlTrimAscii
namespace Go.Proofs.YtlmkbfnmnbmakaaGreatDoor.Rp
open Go Go.Proofs Go.RowKit Go.Shelf Go.Lib

/-- What the shelf's names are here. -/
def trimRen : Go.Shelf.Ren := ⟨fun | 162 => 66 | 232 => 98 | 227 => 99 | 234 => 100 | 236 => 101 | 228 => 108 | 271 => 117 | 151 => 92 | 120 => 133 | 197 => 134 | 152 => 106 | 260 => 143 | 137 => 121 | 119 => 122 | 224 => 123 | 225 => 124 | 217 => 135 | 266 => 144 | n => n, fun | 9 => 9 | 4 => 4 | 3 => 3 | 5 => 5 | 117 => 121 | 116 => 120 | 0 => 0 | 124 => 124 | 21 => 21 | 105 => 135 | 46 => 78 | 119 => 159 | 139 => 162 | 138 => 161 | n => n, fun | 3 => 3 | 4 => 4 | n => n⟩

/-- strings.TrimRight lies here as the shelf has it. -/
theorem trimLays : Go.Proofs.Lays.n162 Tryz.prog trimRen := {
  mixed := by kernel_rfl,
  f119 := Tryz.func122.trans (congrArg some (by kernel_rfl)),
  f120 := Tryz.func133.trans (congrArg some (by kernel_rfl)),
  f137 := Tryz.func121.trans (congrArg some (by kernel_rfl)),
  f151 := Tryz.func92.trans (congrArg some (by kernel_rfl)),
  f152 := Tryz.func106.trans (congrArg some (by kernel_rfl)),
  f162 := Tryz.func66.trans (congrArg some (by kernel_rfl)),
  f197 := Tryz.func134.trans (congrArg some (by kernel_rfl)),
  f217 := Tryz.func135.trans (congrArg some (by kernel_rfl)),
  f224 := Tryz.func123.trans (congrArg some (by kernel_rfl)),
  f225 := Tryz.func124.trans (congrArg some (by kernel_rfl)),
  f227 := Tryz.func99.trans (congrArg some (by kernel_rfl)),
  f228 := Tryz.func108.trans (congrArg some (by kernel_rfl)),
  f232 := Tryz.func98.trans (congrArg some (by kernel_rfl)),
  f234 := Tryz.func100.trans (congrArg some (by kernel_rfl)),
  f236 := Tryz.func101.trans (congrArg some (by kernel_rfl)),
  f260 := Tryz.func143.trans (congrArg some (by kernel_rfl)),
  f266 := Tryz.func144.trans (congrArg some (by kernel_rfl)),
  f271 := Tryz.func117.trans (congrArg some (by kernel_rfl)),
  t0 := Tryz.underlying0,
  a0 := Tryz.isAgg0,
  z0 := Tryz.sizeOf0,
  v0 := Tryz.zeroValue0,
  t3 := Tryz.underlying3,
  a3 := Tryz.isAgg3,
  z3 := Tryz.sizeOf3,
  v3 := Tryz.zeroValue3,
  t4 := Tryz.underlying4,
  a4 := Tryz.isAgg4,
  z4 := Tryz.sizeOf4,
  v4 := Tryz.zeroValue4,
  t5 := Tryz.underlying5,
  a5 := Tryz.isAgg5,
  z5 := Tryz.sizeOf5,
  v5 := Tryz.zeroValue5,
  t9 := Tryz.underlying9,
  a9 := Tryz.isAgg9,
  z9 := Tryz.sizeOf9,
  v9 := Tryz.zeroValue9,
  t21 := Tryz.underlying21,
  a21 := Tryz.isAgg21,
  z21 := Tryz.sizeOf21,
  v21 := Tryz.zeroValue21,
  t46 := Tryz.underlying78,
  a46 := Tryz.isAgg78,
  z46 := Tryz.sizeOf78,
  v46 := Tryz.zeroValue78,
  t105 := Tryz.underlying135,
  a105 := Tryz.isAgg135,
  z105 := Tryz.sizeOf135,
  v105 := Tryz.zeroValue135,
  t116 := Tryz.underlying120,
  a116 := Tryz.isAgg120,
  z116 := Tryz.sizeOf120,
  t117 := Tryz.underlying121,
  a117 := Tryz.isAgg121,
  z117 := Tryz.sizeOf121,
  v117 := Tryz.zeroValue121,
  t119 := Tryz.underlying159,
  a119 := Tryz.isAgg159,
  z119 := Tryz.sizeOf159,
  t124 := Tryz.underlying124,
  a124 := Tryz.isAgg124,
  z124 := Tryz.sizeOf124,
  v124 := Tryz.zeroValue124,
  t138 := Tryz.underlying161,
  a138 := Tryz.isAgg161,
  z138 := Tryz.sizeOf161,
  v138 := Tryz.zeroValue161,
  t139 := Tryz.underlying162,
  a139 := Tryz.isAgg162,
  z139 := Tryz.sizeOf162,
  v139 := Tryz.zeroValue162,
  g3 := by kernel_rfl,
  g4 := by kernel_rfl }

/-- How many bytes are left, spaces and zeros at the end taken away. -/
def trimN (L : List UInt8) : Nat → Nat
  | 0 => 0
  | n + 1 => if L.getD n 1 = 32 ∨ L.getD n 1 = 0 then trimN L n else n + 1

theorem trimN_le (L : List UInt8) : ∀ n, trimN L n ≤ n
  | 0 => Nat.le_refl _
  | n + 1 => by
    rw [trimN]
    split
    · have := trimN_le L n; omega
    · exact Nat.le_refl _

theorem trim_take (L : List UInt8) : ∀ n, n ≤ L.length → ((L.take n).reverse.dropWhile ([32, 0].contains ·)).reverse = L.take (trimN L n)
  | 0, _ => rfl
  | n + 1, h => by
    have e : L.take (n + 1) = L.take n ++ [L.getD n 1] := by
      rw [List.take_add_one]
      simp [List.getElem?_eq_getElem (show n < L.length by omega), List.getD_eq_getElem?_getD]
    rw [trimN]
    by_cases hc : L.getD n 1 = 32 ∨ L.getD n 1 = 0
    · rw [if_pos hc, e, List.reverse_append, List.reverse_singleton, List.singleton_append, List.dropWhile_cons_of_pos, trim_take L n (by omega)]
      simpa using hc
    · rw [if_neg hc, e, List.reverse_append, List.reverse_singleton, List.singleton_append, List.dropWhile_cons_of_neg]
      · simp
      · simpa using hc

/-- A text without the spaces and zeros at its end. -/
def trimB (s : ByteArray) : ByteArray := s.extract 0 (trimN s.data.toList s.size)

theorem extract_list (s : ByteArray) (n : Nat) : (s.extract 0 n).data.toList = s.data.toList.take n := by
  simp [ByteArray.data_extract]

theorem trimB_eq (s : ByteArray) : (⟨(Lib.trimRightS s.data.toList [32, 0]).toArray⟩ : ByteArray) = trimB s := by
  have h := trim_take s.data.toList s.data.toList.length (Nat.le_refl _)
  rw [List.take_length] at h
  unfold trimB
  apply ByteArray.ext
  apply Array.ext'
  rw [extract_list]
  exact h

set_option maxHeartbeats 1000000 in
theorem trimmed_any (s : ByteArray) (w : World) (hs : s.size ≤ 140737488351232) : Calls Tryz.prog 39 #[.string s] w fun e w' => e = .returned (.string (trimB s)) ∧ Below w.heap.size w w' := by
  have hcon := Any.strings_TrimRight_laid trimLays (by kernel_rfl) s ⟨#[32, 0]⟩ w (by omega) (by decide) (ascii_of_all (by decide))
  change Calls Tryz.prog 66 _ _ (fun e w' => e = .returned (.string ⟨(Lib.trimRightS s.data.toList [32, 0]).toArray⟩) ∧ Below w.heap.size w w') at hcon
  rw [trimB_eq] at hcon
  go_enter Tryz.func39, Tryz.ntmps39
  go_wp2_with (go_at_call 66; refine hcon.mono ?_; rintro e w' ⟨rfl, hB⟩)
  go_ret
  exact ⟨rfl, hB⟩
end Go.Proofs.YtlmkbfnmnbmakaaGreatDoor.Rp
