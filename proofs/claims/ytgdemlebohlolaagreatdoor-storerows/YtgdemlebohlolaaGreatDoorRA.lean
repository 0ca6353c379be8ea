import Derived.Test.YtgdemlebohlolaaGreatDoorProg
import Derived.Shelf.Strings.SlTrimAscii
import Derived.Shelf.Strings.Search3
import Derived.WalkKit
import Derived.WalkSpells
import Derived.WalkLawsBesides
import Derived.Deep.QuietTactic
import Derived.BigQuiet
import Derived.BigRegion
namespace Go.Proofs.YtgdemlebohlolaaGreatDoor.Ck
open Go Go.Proofs Go.RowKit Go.Shelf Go.Lib

/-- What the shelf's names are here. -/
def trRen : Go.Shelf.Ren := ⟨fun | 119 => 168 | 120 => 145 | 137 => 167 | 151 => 114 | 152 => 146 | 162 => 50 | 197 => 83 | 217 => 72 | 224 => 74 | 225 => 73 | 227 => 78 | 228 => 112 | 232 => 77 | 234 => 79 | 236 => 80 | 260 => 116 | 266 => 91 | 271 => 113 | n => n, fun | 0 => 0 | 3 => 3 | 4 => 4 | 5 => 5 | 9 => 9 | 21 => 21 | 46 => 104 | 105 => 114 | 116 => 109 | 117 => 110 | 119 => 140 | 124 => 113 | 138 => 142 | 139 => 143 | n => n, fun | 3 => 3 | 4 => 4 | n => n⟩
theorem trLays162 : Go.Proofs.Lays.n162 Tryz.prog trRen := {
  mixed := by kernel_rfl,
  f119 := Tryz.func168.trans (congrArg some (by kernel_rfl)),
  f120 := Tryz.func145.trans (congrArg some (by kernel_rfl)),
  f137 := Tryz.func167.trans (congrArg some (by kernel_rfl)),
  f151 := Tryz.func114.trans (congrArg some (by kernel_rfl)),
  f152 := Tryz.func146.trans (congrArg some (by kernel_rfl)),
  f162 := Tryz.func50.trans (congrArg some (by kernel_rfl)),
  f197 := Tryz.func83.trans (congrArg some (by kernel_rfl)),
  f217 := Tryz.func72.trans (congrArg some (by kernel_rfl)),
  f224 := Tryz.func74.trans (congrArg some (by kernel_rfl)),
  f225 := Tryz.func73.trans (congrArg some (by kernel_rfl)),
  f227 := Tryz.func78.trans (congrArg some (by kernel_rfl)),
  f228 := Tryz.func112.trans (congrArg some (by kernel_rfl)),
  f232 := Tryz.func77.trans (congrArg some (by kernel_rfl)),
  f234 := Tryz.func79.trans (congrArg some (by kernel_rfl)),
  f236 := Tryz.func80.trans (congrArg some (by kernel_rfl)),
  f260 := Tryz.func116.trans (congrArg some (by kernel_rfl)),
  f266 := Tryz.func91.trans (congrArg some (by kernel_rfl)),
  f271 := Tryz.func113.trans (congrArg some (by kernel_rfl)),
  t0 := Tryz.underlying0,
  a0 := Tryz.isAgg0,
  z0 := Tryz.sizeOf0,
  v0 := Tryz.zeroValue0,
  t3 := Tryz.underlying3,
  a3 := Tryz.isAgg3,
  z3 := Tryz.sizeOf3,
  v3 := Tryz.zeroValue3,
  t4 := Tryz.underlying4,
  a4 := Tryz.isAgg4,
  z4 := Tryz.sizeOf4,
  v4 := Tryz.zeroValue4,
  t5 := Tryz.underlying5,
  a5 := Tryz.isAgg5,
  z5 := Tryz.sizeOf5,
  v5 := Tryz.zeroValue5,
  t9 := Tryz.underlying9,
  a9 := Tryz.isAgg9,
  z9 := Tryz.sizeOf9,
  v9 := Tryz.zeroValue9,
  t21 := Tryz.underlying21,
  a21 := Tryz.isAgg21,
  z21 := Tryz.sizeOf21,
  v21 := Tryz.zeroValue21,
  t46 := Tryz.underlying104,
  a46 := Tryz.isAgg104,
  z46 := Tryz.sizeOf104,
  v46 := Tryz.zeroValue104,
  t105 := Tryz.underlying114,
  a105 := Tryz.isAgg114,
  z105 := Tryz.sizeOf114,
  v105 := Tryz.zeroValue114,
  t116 := Tryz.underlying109,
  a116 := Tryz.isAgg109,
  z116 := Tryz.sizeOf109,
  t117 := Tryz.underlying110,
  a117 := Tryz.isAgg110,
  z117 := Tryz.sizeOf110,
  v117 := Tryz.zeroValue110,
  t119 := Tryz.underlying140,
  a119 := Tryz.isAgg140,
  z119 := Tryz.sizeOf140,
  t124 := Tryz.underlying113,
  a124 := Tryz.isAgg113,
  z124 := Tryz.sizeOf113,
  v124 := Tryz.zeroValue113,
  t138 := Tryz.underlying142,
  a138 := Tryz.isAgg142,
  z138 := Tryz.sizeOf142,
  v138 := Tryz.zeroValue142,
  t139 := Tryz.underlying143,
  a139 := Tryz.isAgg143,
  z139 := Tryz.sizeOf143,
  v139 := Tryz.zeroValue143,
  g3 := by kernel_rfl,
  g4 := by kernel_rfl }

/-- What the shelf's names are here. -/
def ctRen : Go.Shelf.Ren := ⟨fun | 143 => 29 | 144 => 17 | 217 => 72 | 219 => 48 | 224 => 74 | 225 => 73 | 266 => 91 | 267 => 75 | 314 => 92 | n => n, fun | 3 => 3 | 4 => 4 | 5 => 5 | 9 => 9 | 46 => 104 | 51 => 122 | 146 => 123 | n => n, fun | 1 => 2 | n => n⟩
theorem ctLays144 : Go.Proofs.Lays.n144 Tryz.prog ctRen := {
  mixed := by kernel_rfl,
  f143 := Tryz.func29.trans (congrArg some (by kernel_rfl)),
  f144 := Tryz.func17.trans (congrArg some (by kernel_rfl)),
  f217 := Tryz.func72.trans (congrArg some (by kernel_rfl)),
  f219 := Tryz.func48.trans (congrArg some (by kernel_rfl)),
  f224 := Tryz.func74.trans (congrArg some (by kernel_rfl)),
  f225 := Tryz.func73.trans (congrArg some (by kernel_rfl)),
  f266 := Tryz.func91.trans (congrArg some (by kernel_rfl)),
  f267 := Tryz.func75.trans (congrArg some (by kernel_rfl)),
  f314 := Tryz.func92.trans (congrArg some (by kernel_rfl)),
  t3 := Tryz.underlying3,
  a3 := Tryz.isAgg3,
  z3 := Tryz.sizeOf3,
  v3 := Tryz.zeroValue3,
  t4 := Tryz.underlying4,
  a4 := Tryz.isAgg4,
  z4 := Tryz.sizeOf4,
  v4 := Tryz.zeroValue4,
  t5 := Tryz.underlying5,
  a5 := Tryz.isAgg5,
  z5 := Tryz.sizeOf5,
  v5 := Tryz.zeroValue5,
  t9 := Tryz.underlying9,
  a9 := Tryz.isAgg9,
  z9 := Tryz.sizeOf9,
  v9 := Tryz.zeroValue9,
  t46 := Tryz.underlying104,
  a46 := Tryz.isAgg104,
  z46 := Tryz.sizeOf104,
  v46 := Tryz.zeroValue104,
  t51 := Tryz.underlying122,
  a51 := Tryz.isAgg122,
  z51 := Tryz.sizeOf122,
  v51 := Tryz.zeroValue122,
  t146 := Tryz.underlying123,
  a146 := Tryz.isAgg123,
  z146 := Tryz.sizeOf123,
  v146 := Tryz.zeroValue123,
  g1 := by kernel_rfl }
end Go.Proofs.YtgdemlebohlolaaGreatDoor.Ck

/-
  DERIVED. The document's lines of texts: where one ends, its words, the number that digits are.
-/
namespace Go.Proofs.YtgdemlebohlolaaGreatDoor.Rp
open Go Go.Proofs Go.RowKit

/-- A text's bytes, as numbers. -/
def bts (S : ByteArray) : List Nat := S.data.toList.map (fun c => c.toNat)

theorem bts_length (S : ByteArray) : (bts S).length = S.size := by
  simp [bts]

theorem bts_get (S : ByteArray) (k : Nat) (h : k < S.size) : S[k].toNat = (bts S).getD k 0 := by
  have h2 : k < S.data.size := h
  show (S.data[k]).toNat = _
  simp [bts, List.getD_eq_getElem?_getD, Array.getElem?_eq_getElem h2]

/-- The place of the line feed at or behind i. -/
def endL (L : List Nat) (i : Nat) : Nat := i + (L.drop i).findIdx (fun c => c == 10)

theorem endL_step {L : List Nat} {i : Nat} (hi : i < L.length) (h : L.getD i 0 ≠ 10) : endL L (i + 1) = endL L i := by
  unfold endL
  have e : L.drop i = L.getD i 0 :: L.drop (i + 1) := by
    rw [List.drop_eq_getElem_cons hi]
    simp [List.getD_eq_getElem?_getD, hi]
  rw [e, List.findIdx_cons]
  simp only [beq_iff_eq, h, cond_eq_ite]
  simp
  omega

theorem endL_here {L : List Nat} {i : Nat} (hi : i < L.length) (h : L.getD i 0 = 10) : endL L i = i := by
  unfold endL
  have e : L.drop i = L.getD i 0 :: L.drop (i + 1) := by
    rw [List.drop_eq_getElem_cons hi]
    simp [List.getD_eq_getElem?_getD, hi]
  rw [e, List.findIdx_cons, h]
  simp

theorem endL_ge (L : List Nat) (i : Nat) : i ≤ endL L i := by unfold endL; omega

set_option maxRecDepth 100000 in
theorem end_any (w : World) (S : ByteArray) (i : Nat) (hs : S.size ≤ 100000) (he : endL (bts S) i < S.size) : Calls Tryz.prog 85 #[.string S, .int .i64 (i : Int)] w fun e w' => e = .returned (.int .i64 (endL (bts S) i : Nat)) ∧ w = w' := by
  obtain ⟨j, hj⟩ : ∃ j, endL (bts S) i = j := ⟨_, rfl⟩
  have HJ : Hid (endL (bts S) i = j) := hj
  rw [hj] at he ⊢
  have hij : i ≤ j := by rw [← hj]; exact endL_ge _ _
  clear hj
  go_enter Tryz.func85, Tryz.ntmps85
  go_wp2
  go_loop [1] (fun x => ∃ k : Nat, x = .int .i64 k ∧ k ≤ j ∧ Hid (endL (bts S) k = j)) (fun x => j - (intOf x).toNat)
  case atStart => exact ⟨i, rfl, hij, HJ⟩
  case round =>
    obtain ⟨k, rfl, h2, HK⟩ := hrel
    have hk : k < S.size := by omega
    have hb := bts_get S k hk
    by_cases h10 : (bts S).getD k 0 = 10
    · have hne : ((S[k].toNat : Int) != 10) = false := by rw [hb, h10]; rfl
      have HE : Hid (k = j) := by have := HK.out; rw [endL_here (by rw [bts_length]; exact hk) h10] at this; exact this
      clear h10 hb
      have hkj := HE.out
      subst hkj
      go_wp2
      go_ret
      exact ⟨rfl, rfl⟩
    · have hne : ((S[k].toNat : Int) != 10) = true := by rw [hb]; exact bne_iff_ne.2 (by omega)
      have HE : Hid (endL (bts S) (k + 1) = j) := by have := HK.out; rw [← endL_step (by rw [bts_length]; exact hk) h10] at this; exact this
      have hlt : k + 1 ≤ j := by rw [← HE.out]; exact endL_ge _ _
      clear h10 hb
      go_wp2
      exact ⟨⟨k + 1, by simp, hlt, HE⟩, by simp [intOf]; omega⟩

/-- Where the k-th word from 'i' on lies, one being begun at 'f'. -/
def wordL (L : List Nat) : Nat → Nat → Nat → Nat → Nat × Nat
  | 0, _, _, _ => (0, 0)
  | n + 1, k, f, i => if i ≤ L.length then (if i = L.length ∨ L.getD i 0 = 32 then (if k = 0 then (f, i) else wordL L n (k - 1) (i + 1) (i + 1)) else wordL L n k f (i + 1)) else (0, 0)

set_option maxRecDepth 100000 in
theorem word_any (w : World) (S : ByteArray) (k : Nat) (hs : S.size ≤ 100000) (hk : k ≤ 100000) : Calls Tryz.prog 58 #[.string S, .int .i64 (k : Int)] w fun e w' => e = .returned (.string (S.extract (wordL (bts S) (S.size + 2) k 0 0).1 (wordL (bts S) (S.size + 2) k 0 0).2)) ∧ w = w' := by
  obtain ⟨R, hR⟩ : ∃ R, wordL (bts S) (S.size + 2) k 0 0 = R := ⟨_, rfl⟩
  rw [hR]
  have HR : Hid (wordL (bts S) (S.size + 2) k 0 0 = R) := hR
  clear hR
  go_enter Tryz.func58, Tryz.ntmps58
  go_wp2
  go_loop [1, 5, 6] (fun x y z => ∃ k f i n : Nat, x = .int .i64 k ∧ y = .int .i64 f ∧ z = .int .i64 i ∧ f ≤ i ∧ i ≤ S.size + 1 ∧ k ≤ 100000 ∧ i + n = S.size + 2 ∧ Hid (wordL (bts S) n k f i = R)) (fun _ _ x => 200000 - (intOf x).toNat)
  case atStart => exact ⟨k, 0, 0, S.size + 2, rfl, rfl, rfl, Nat.le_refl _, by omega, hk, by omega, HR⟩
  case round =>
    obtain ⟨k, f, i, n, rfl, rfl, rfl, h1, h2, h3, h4, HN⟩ := hrel
    obtain ⟨n, rfl⟩ : ∃ m, n = m + 1 := ⟨n - 1, by omega⟩
    have hw := HN.out
    rw [wordL, bts_length] at hw
    by_cases hi : i ≤ S.size
    · rw [if_pos hi] at hw
      by_cases hc : i = S.size ∨ (bts S).getD i 0 = 32
      · rw [if_pos hc] at hw
        have hcc : i = S.size ∨ ∃ h : i < S.size, ((S[i].toNat : Int) == 32) = true := by
          by_cases h0 : i = S.size
          · exact .inl h0
          · refine .inr ⟨by omega, ?_⟩
            rw [bts_get S i (by omega), (hc.resolve_left h0)]
            rfl
        by_cases hk0 : k = 0
        · rw [if_pos hk0] at hw
          subst hk0
          have HW : Hid ((f, i) = R) := hw
          clear hw hc HN
          rcases hcc with h0 | ⟨hlt, hc⟩
          · subst h0
            go_wp2
            go_ret
            rw [← HW.out]; exact ⟨rfl, rfl⟩
          · go_wp2
            go_ret
            rw [← HW.out]; exact ⟨rfl, rfl⟩
        · rw [if_neg hk0] at hw
          have HW : Hid (wordL (bts S) n (k - 1) (i + 1) (i + 1) = R) := hw
          have hdk : ((k : Int) == 0) = false := by simp; omega
          have hk1 : (k : Int) - 1 = ((k - 1 : Nat) : Int) := by omega
          clear hw hc HN
          rcases hcc with h0 | ⟨hlt, hc⟩
          · subst h0
            go_wp2
            exact ⟨⟨k - 1, S.size + 1, S.size + 1, n, by simp, by simp, by simp, by omega, by omega, by omega, by omega, HW⟩, by simp [intOf]; omega⟩
          · go_wp2
            exact ⟨⟨k - 1, i + 1, i + 1, n, by simp, by simp, by simp, by omega, by omega, by omega, by omega, HW⟩, by simp [intOf]; omega⟩
      · rw [if_neg hc] at hw
        have hlt : i < S.size := by omega
        have hc2 : ((S[i].toNat : Int) == 32) = false := by rw [bts_get S i hlt]; exact beq_eq_false_iff_ne.2 (by omega)
        have HW : Hid (wordL (bts S) n k f (i + 1) = R) := hw
        have hne : ¬ i = S.size := by omega
        clear hw hc HN
        go_wp2
        exact ⟨⟨k, f, i + 1, n, by simp, by simp, by simp, by omega, by omega, by omega, by omega, HW⟩, by simp [intOf]; omega⟩
    · rw [if_neg hi] at hw
      have HW : Hid ((0, 0) = R) := hw
      have hi2 : i = S.size + 1 := by omega
      clear hw HN
      go_wp2
      go_ret
      rw [← HW.out]
      refine ⟨?_, rfl⟩
      simp
      rfl
end Go.Proofs.YtgdemlebohlolaaGreatDoor.Rp
