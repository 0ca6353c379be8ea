import Derived.Test.YtmocofmlehmneaaGreatDoorRD
import Derived.Shelf.Strings.SlTrimAscii
namespace Go.Proofs.YtmocofmlehmneaaGreatDoor.Rp
open Go Go.Proofs Go.RowKit Go.Shelf Go.Lib

/-- What the shelf's names are here. -/
def trimRen : Go.Shelf.Ren := ⟨fun | 162 => 55 | 232 => 72 | 227 => 73 | 234 => 74 | 236 => 75 | 228 => 108 | 271 => 109 | 151 => 110 | 120 => 129 | 197 => 130 | 152 => 131 | 260 => 143 | 137 => 144 | 119 => 145 | 224 => 146 | 225 => 147 | 217 => 159 | 266 => 167 | n => n, fun | 9 => 9 | 4 => 4 | 3 => 3 | 5 => 5 | 117 => 151 | 116 => 150 | 0 => 0 | 124 => 154 | 21 => 21 | 105 => 156 | 46 => 85 | 119 => 187 | 139 => 190 | 138 => 189 | n => n, fun | 3 => 2 | 4 => 3 | n => n⟩

/-- strings.TrimRight lies here as the shelf has it. -/
theorem trimLays : Go.Proofs.Lays.n162 Tryz.prog trimRen := {
  mixed := by kernel_rfl,
  f119 := Tryz.func145.trans (congrArg some (by kernel_rfl)),
  f120 := Tryz.func129.trans (congrArg some (by kernel_rfl)),
  f137 := Tryz.func144.trans (congrArg some (by kernel_rfl)),
  f151 := Tryz.func110.trans (congrArg some (by kernel_rfl)),
  f152 := Tryz.func131.trans (congrArg some (by kernel_rfl)),
  f162 := Tryz.func55.trans (congrArg some (by kernel_rfl)),
  f197 := Tryz.func130.trans (congrArg some (by kernel_rfl)),
  f217 := Tryz.func159.trans (congrArg some (by kernel_rfl)),
  f224 := Tryz.func146.trans (congrArg some (by kernel_rfl)),
  f225 := Tryz.func147.trans (congrArg some (by kernel_rfl)),
  f227 := Tryz.func73.trans (congrArg some (by kernel_rfl)),
  f228 := Tryz.func108.trans (congrArg some (by kernel_rfl)),
  f232 := Tryz.func72.trans (congrArg some (by kernel_rfl)),
  f234 := Tryz.func74.trans (congrArg some (by kernel_rfl)),
  f236 := Tryz.func75.trans (congrArg some (by kernel_rfl)),
  f260 := Tryz.func143.trans (congrArg some (by kernel_rfl)),
  f266 := Tryz.func167.trans (congrArg some (by kernel_rfl)),
  f271 := Tryz.func109.trans (congrArg some (by kernel_rfl)),
  t0 := Tryz.underlying0,
  a0 := Tryz.isAgg0,
  z0 := Tryz.sizeOf0,
  v0 := Tryz.zeroValue0,
  t3 := Tryz.underlying3,
  a3 := Tryz.isAgg3,
  z3 := Tryz.sizeOf3,
  v3 := Tryz.zeroValue3,
  t4 := Tryz.underlying4,
  a4 := Tryz.isAgg4,
  z4 := Tryz.sizeOf4,
  v4 := Tryz.zeroValue4,
  t5 := Tryz.underlying5,
  a5 := Tryz.isAgg5,
  z5 := Tryz.sizeOf5,
  v5 := Tryz.zeroValue5,
  t9 := Tryz.underlying9,
  a9 := Tryz.isAgg9,
  z9 := Tryz.sizeOf9,
  v9 := Tryz.zeroValue9,
  t21 := Tryz.underlying21,
  a21 := Tryz.isAgg21,
  z21 := Tryz.sizeOf21,
  v21 := Tryz.zeroValue21,
  t46 := Tryz.underlying85,
  a46 := Tryz.isAgg85,
  z46 := Tryz.sizeOf85,
  v46 := Tryz.zeroValue85,
  t105 := Tryz.underlying156,
  a105 := Tryz.isAgg156,
  z105 := Tryz.sizeOf156,
  v105 := Tryz.zeroValue156,
  t116 := Tryz.underlying150,
  a116 := Tryz.isAgg150,
  z116 := Tryz.sizeOf150,
  t117 := Tryz.underlying151,
  a117 := Tryz.isAgg151,
  z117 := Tryz.sizeOf151,
  v117 := Tryz.zeroValue151,
  t119 := Tryz.underlying187,
  a119 := Tryz.isAgg187,
  z119 := Tryz.sizeOf187,
  t124 := Tryz.underlying154,
  a124 := Tryz.isAgg154,
  z124 := Tryz.sizeOf154,
  v124 := Tryz.zeroValue154,
  t138 := Tryz.underlying189,
  a138 := Tryz.isAgg189,
  z138 := Tryz.sizeOf189,
  v138 := Tryz.zeroValue189,
  t139 := Tryz.underlying190,
  a139 := Tryz.isAgg190,
  z139 := Tryz.sizeOf190,
  v139 := Tryz.zeroValue190,
  g3 := by kernel_rfl,
  g4 := by kernel_rfl }

/-- How many bytes are left, spaces and zeros at the end taken away. -/
def trimN (L : List UInt8) : Nat → Nat
  | 0 => 0
  | n + 1 => if L.getD n 1 = 32 ∨ L.getD n 1 = 0 then trimN L n else n + 1

theorem trimN_le (L : List UInt8) : ∀ n, trimN L n ≤ n
  | 0 => Nat.le_refl _
  | n + 1 => by
    rw [trimN]
    split
    · have := trimN_le L n; omega
    · exact Nat.le_refl _

theorem trim_take (L : List UInt8) : ∀ n, n ≤ L.length → ((L.take n).reverse.dropWhile ([32, 0].contains ·)).reverse = L.take (trimN L n)
  | 0, _ => rfl
  | n + 1, h => by
    have e : L.take (n + 1) = L.take n ++ [L.getD n 1] := by
      rw [List.take_add_one]
      simp [List.getElem?_eq_getElem (show n < L.length by omega), List.getD_eq_getElem?_getD]
    rw [trimN]
    by_cases hc : L.getD n 1 = 32 ∨ L.getD n 1 = 0
    · rw [if_pos hc, e, List.reverse_append, List.reverse_singleton, List.singleton_append, List.dropWhile_cons_of_pos, trim_take L n (by omega)]
      simpa using hc
    · rw [if_neg hc, e, List.reverse_append, List.reverse_singleton, List.singleton_append, List.dropWhile_cons_of_neg]
      · simp
      · simpa using hc

/-- A text without the spaces and zeros at its end. -/
def trimB (s : ByteArray) : ByteArray := s.extract 0 (trimN s.data.toList s.size)

theorem extract_list (s : ByteArray) (n : Nat) : (s.extract 0 n).data.toList = s.data.toList.take n := by
  simp [ByteArray.data_extract]

theorem trimB_eq (s : ByteArray) : (⟨(Lib.trimRightS s.data.toList [32, 0]).toArray⟩ : ByteArray) = trimB s := by
  have h := trim_take s.data.toList s.data.toList.length (Nat.le_refl _)
  rw [List.take_length] at h
  unfold trimB
  apply ByteArray.ext
  apply Array.ext'
  rw [extract_list]
  exact h

set_option maxHeartbeats 1000000 in
theorem trimmed_any (s : ByteArray) (w : World) (hs : s.size ≤ 140737488351232) : Calls Tryz.prog 37 #[.string s] w fun e w' => e = .returned (.string (trimB s)) ∧ Below w.heap.size w w' := by
  have hcon := Any.strings_TrimRight_laid trimLays (by kernel_rfl) s ⟨#[32, 0]⟩ w (by omega) (by decide) (ascii_of_all (by decide))
  change Calls Tryz.prog 55 _ _ (fun e w' => e = .returned (.string ⟨(Lib.trimRightS s.data.toList [32, 0]).toArray⟩) ∧ Below w.heap.size w w') at hcon
  rw [trimB_eq] at hcon
  go_enter Tryz.func37, Tryz.ntmps37
  go_wp2_with (go_at_call 55; refine hcon.mono ?_; rintro e w' ⟨rfl, hB⟩)
  go_ret
  exact ⟨rfl, hB⟩
end Go.Proofs.YtmocofmlehmneaaGreatDoor.Rp

/-
  DERIVED. The program's padding.
-/
namespace Go.Proofs.YtmocofmlehmneaaGreatDoor.Rp
open Go Go.Proofs Go.RowKit

theorem trim_any (w : World) (v : Int) (s : ByteArray) (hs : s.size ≤ 140737488351232) : Calls Tryz.prog 16 #[.int .i64 v, .string s] w fun e w' => e = .returned (.string (if tx (vn v) then trimB s else s)) ∧ Below w.heap.size w w' := by
  have c13 := text_any w v
  have c36 := fun W => trimmed_any s W hs
  generalize trimB s = r at c36 ⊢
  cases ht : tx (vn v) with
  | true =>
    rw [ht] at c13
    clear ht
    go_enter Tryz.func16, Tryz.ntmps16
    go_wp2_with (first | (go_at_call 36; refine c13.mono ?_; rintro e W1 ⟨rfl, hb1⟩) | (go_at_call 37; refine (c36 _).mono ?_; rintro e W2 ⟨rfl, hb2⟩))
    go_ret
    exact ⟨rfl, hb1.trans (hb2.mono hb1.size)⟩
  | false =>
    rw [ht] at c13
    clear ht
    go_enter Tryz.func16, Tryz.ntmps16
    go_wp2_with (first | (go_at_call 36; refine c13.mono ?_; rintro e W1 ⟨rfl, hb1⟩) | fail)
    go_ret
    exact ⟨rfl, hb1⟩

theorem pd_two : ∀ k : Fin 29, pd k.val = 32 ∨ pd k.val = 0 := by decide +kernel

/-- A text, padded. -/
def padB (p : Int) (s : ByteArray) : ByteArray := if s.size % 2 = 0 then s else s ++ (if p = 32 then ⟨#[32]⟩ else ⟨#[0]⟩)

set_option maxRecDepth 100000 in
theorem pad_any (w : World) (v : Int) (s : ByteArray) (hs : s.size ≤ 140737488351232) : Calls Tryz.prog 17 #[.int .i64 v, .string s] w fun e w' => e = .returned (.string (padB (pd (vn v)) s)) ∧ Below w.heap.size w w' := by
  obtain ⟨cf, ff, hcf, hff, c⟩ := repOf_open w v
  have hp2 := pd_two ⟨vn v, vn_lt v⟩
  simp only at hp2
  generalize nm (vn v) = n at c
  generalize pd (vn v) = p at c hp2 ⊢
  generalize un (vn v) = u at c
  generalize mo (vn v) = m at c
  generalize tx (vn v) = t at c
  generalize ch (vn v) = c' at c
  generalize mu (vn v) = q at c
  generalize lo (vn v) = l at c
  generalize decide (1 ≤ v ∧ v ≤ 28) = b at c
  by_cases he : s.size % 2 = 0
  · have hP : padB p s = s := by unfold padB; rw [if_pos he]
    rw [hP]
    have hi : ((s.size : Int) % 2 == 0) = true := by simp; omega
    go_enter Tryz.func17, Tryz.ntmps17
    go_wp2
    go_ret
    exact ⟨rfl, Below.refl _ _⟩
  · have hP : padB p s = s ++ (if p = 32 then ⟨#[32]⟩ else ⟨#[0]⟩) := by unfold padB; rw [if_neg he]
    rw [hP]
    have hi : ((s.size : Int) % 2 == 0) = false := by simp; omega
    have e32 : Utf8.encode 32 = ⟨#[32]⟩ := by kernel_rfl
    have e0 : Utf8.encode 0 = ⟨#[0]⟩ := by kernel_rfl
    have hz : (⟨#[32]⟩ : ByteArray).size = 1 := rfl
    have hz0 : (⟨#[0]⟩ : ByteArray).size = 1 := rfl
    clear hP
    rcases hp2 with rfl | rfl <;> rcases hcf with rfl | ⟨j, rfl⟩ <;> rcases hff with rfl | ⟨j2, rfl⟩
    all_goals go_enter Tryz.func17, Tryz.ntmps17
    all_goals go_wp2_with (first | (go_at_call 38; refine c.mono ?_; rintro e W1 ⟨rfl, hb⟩) | fail)
    all_goals go_ret
    all_goals exact ⟨rfl, hb.alloc hb.size _⟩
end Go.Proofs.YtmocofmlehmneaaGreatDoor.Rp
