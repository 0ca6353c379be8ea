
import Derived.Test.YtlfmihhnijlpiaaGreatDoorProg
import Derived.WalkKit
import Derived.WalkSpells
import Derived.WalkLawsBesides
import Derived.Deep.QuietTactic
import Derived.BigQuiet
import Derived.BigRegion
/-
  DERIVED. The document's lines of texts: where one ends, its words, the number that digits are.
-/
namespace Go.Proofs.YtlfmihhnijlpiaaGreatDoor.Rp
open Go Go.Proofs Go.RowKit

/-- A text's bytes, as numbers. -/
def bts (S : ByteArray) : List Nat := S.data.toList.map (fun c => c.toNat)

theorem bts_length (S : ByteArray) : (bts S).length = S.size := by
  simp [bts]

theorem bts_get (S : ByteArray) (k : Nat) (h : k < S.size) : S[k].toNat = (bts S).getD k 0 := by
  have h2 : k < S.data.size := h
  show (S.data[k]).toNat = _
  simp [bts, List.getD_eq_getElem?_getD, Array.getElem?_eq_getElem h2]

/-- The place of the line feed at or behind i. -/
def endL (L : List Nat) (i : Nat) : Nat := i + (L.drop i).findIdx (fun c => c == 10)

theorem endL_step {L : List Nat} {i : Nat} (hi : i < L.length) (h : L.getD i 0 ≠ 10) : endL L (i + 1) = endL L i := by
  unfold endL
  have e : L.drop i = L.getD i 0 :: L.drop (i + 1) := by
    rw [List.drop_eq_getElem_cons hi]
    simp [List.getD_eq_getElem?_getD, hi]
  rw [e, List.findIdx_cons]
  simp only [beq_iff_eq, h, cond_eq_ite]
  simp
  omega

theorem endL_here {L : List Nat} {i : Nat} (hi : i < L.length) (h : L.getD i 0 = 10) : endL L i = i := by
  unfold endL
  have e : L.drop i = L.getD i 0 :: L.drop (i + 1) := by
    rw [List.drop_eq_getElem_cons hi]
    simp [List.getD_eq_getElem?_getD, hi]
  rw [e, List.findIdx_cons, h]
  simp

theorem endL_ge (L : List Nat) (i : Nat) : i ≤ endL L i := by unfold endL; omega

set_option maxRecDepth 100000 in
theorem end_any (w : World) (S : ByteArray) (i : Nat) (hs : S.size ≤ 100000) (he : endL (bts S) i < S.size) : Calls Tryz.prog 41 #[.string S, .int .i64 (i : Int)] w fun e w' => e = .returned (.int .i64 (endL (bts S) i : Nat)) ∧ w = w' := by
  obtain ⟨j, hj⟩ : ∃ j, endL (bts S) i = j := ⟨_, rfl⟩
  have HJ : Hid (endL (bts S) i = j) := hj
  rw [hj] at he ⊢
  have hij : i ≤ j := by rw [← hj]; exact endL_ge _ _
  clear hj
  go_enter Tryz.func41, Tryz.ntmps41
  go_wp2
  go_loop [1] (fun x => ∃ k : Nat, x = .int .i64 k ∧ k ≤ j ∧ Hid (endL (bts S) k = j)) (fun x => j - (intOf x).toNat)
  case atStart => exact ⟨i, rfl, hij, HJ⟩
  case round =>
    obtain ⟨k, rfl, h2, HK⟩ := hrel
    have hk : k < S.size := by omega
    have hb := bts_get S k hk
    by_cases h10 : (bts S).getD k 0 = 10
    · have hne : ((S[k].toNat : Int) != 10) = false := by rw [hb, h10]; rfl
      have HE : Hid (k = j) := by have := HK.out; rw [endL_here (by rw [bts_length]; exact hk) h10] at this; exact this
      clear h10 hb
      have hkj := HE.out
      subst hkj
      go_wp2
      go_ret
      exact ⟨rfl, rfl⟩
    · have hne : ((S[k].toNat : Int) != 10) = true := by rw [hb]; exact bne_iff_ne.2 (by omega)
      have HE : Hid (endL (bts S) (k + 1) = j) := by have := HK.out; rw [← endL_step (by rw [bts_length]; exact hk) h10] at this; exact this
      have hlt : k + 1 ≤ j := by rw [← HE.out]; exact endL_ge _ _
      clear h10 hb
      go_wp2
      exact ⟨⟨k + 1, by simp, hlt, HE⟩, by simp [intOf]; omega⟩

/-- Where the k-th word from 'i' on lies, one being begun at 'f'. -/
def wordL (L : List Nat) : Nat → Nat → Nat → Nat → Nat × Nat
  | 0, _, _, _ => (0, 0)
  | n + 1, k, f, i => if i ≤ L.length then (if i = L.length ∨ L.getD i 0 = 32 then (if k = 0 then (f, i) else wordL L n (k - 1) (i + 1) (i + 1)) else wordL L n k f (i + 1)) else (0, 0)

set_option maxRecDepth 100000 in
theorem word_any (w : World) (S : ByteArray) (k : Nat) (hs : S.size ≤ 100000) (hk : k ≤ 100000) : Calls Tryz.prog 29 #[.string S, .int .i64 (k : Int)] w fun e w' => e = .returned (.string (S.extract (wordL (bts S) (S.size + 2) k 0 0).1 (wordL (bts S) (S.size + 2) k 0 0).2)) ∧ w = w' := by
  obtain ⟨R, hR⟩ : ∃ R, wordL (bts S) (S.size + 2) k 0 0 = R := ⟨_, rfl⟩
  rw [hR]
  have HR : Hid (wordL (bts S) (S.size + 2) k 0 0 = R) := hR
  clear hR
  go_enter Tryz.func29, Tryz.ntmps29
  go_wp2
  go_loop [1, 5, 6] (fun x y z => ∃ k f i n : Nat, x = .int .i64 k ∧ y = .int .i64 f ∧ z = .int .i64 i ∧ f ≤ i ∧ i ≤ S.size + 1 ∧ k ≤ 100000 ∧ i + n = S.size + 2 ∧ Hid (wordL (bts S) n k f i = R)) (fun _ _ x => 200000 - (intOf x).toNat)
  case atStart => exact ⟨k, 0, 0, S.size + 2, rfl, rfl, rfl, Nat.le_refl _, by omega, hk, by omega, HR⟩
  case round =>
    obtain ⟨k, f, i, n, rfl, rfl, rfl, h1, h2, h3, h4, HN⟩ := hrel
    obtain ⟨n, rfl⟩ : ∃ m, n = m + 1 := ⟨n - 1, by omega⟩
    have hw := HN.out
    rw [wordL, bts_length] at hw
    by_cases hi : i ≤ S.size
    · rw [if_pos hi] at hw
      by_cases hc : i = S.size ∨ (bts S).getD i 0 = 32
      · rw [if_pos hc] at hw
        have hcc : i = S.size ∨ ∃ h : i < S.size, ((S[i].toNat : Int) == 32) = true := by
          by_cases h0 : i = S.size
          · exact .inl h0
          · refine .inr ⟨by omega, ?_⟩
            rw [bts_get S i (by omega), (hc.resolve_left h0)]
            rfl
        by_cases hk0 : k = 0
        · rw [if_pos hk0] at hw
          subst hk0
          have HW : Hid ((f, i) = R) := hw
          clear hw hc HN
          rcases hcc with h0 | ⟨hlt, hc⟩
          · subst h0
            go_wp2
            go_ret
            rw [← HW.out]; exact ⟨rfl, rfl⟩
          · go_wp2
            go_ret
            rw [← HW.out]; exact ⟨rfl, rfl⟩
        · rw [if_neg hk0] at hw
          have HW : Hid (wordL (bts S) n (k - 1) (i + 1) (i + 1) = R) := hw
          have hdk : ((k : Int) == 0) = false := by simp; omega
          have hk1 : (k : Int) - 1 = ((k - 1 : Nat) : Int) := by omega
          clear hw hc HN
          rcases hcc with h0 | ⟨hlt, hc⟩
          · subst h0
            go_wp2
            exact ⟨⟨k - 1, S.size + 1, S.size + 1, n, by simp, by simp, by simp, by omega, by omega, by omega, by omega, HW⟩, by simp [intOf]; omega⟩
          · go_wp2
            exact ⟨⟨k - 1, i + 1, i + 1, n, by simp, by simp, by simp, by omega, by omega, by omega, by omega, HW⟩, by simp [intOf]; omega⟩
      · rw [if_neg hc] at hw
        have hlt : i < S.size := by omega
        have hc2 : ((S[i].toNat : Int) == 32) = false := by rw [bts_get S i hlt]; exact beq_eq_false_iff_ne.2 (by omega)
        have HW : Hid (wordL (bts S) n k f (i + 1) = R) := hw
        have hne : ¬ i = S.size := by omega
        clear hw hc HN
        go_wp2
        exact ⟨⟨k, f, i + 1, n, by simp, by simp, by simp, by omega, by omega, by omega, by omega, HW⟩, by simp [intOf]; omega⟩
    · rw [if_neg hi] at hw
      have HW : Hid ((0, 0) = R) := hw
      have hi2 : i = S.size + 1 := by omega
      clear hw HN
      go_wp2
      go_ret
      rw [← HW.out]
      refine ⟨?_, rfl⟩
      simp
      rfl
end Go.Proofs.YtlfmihhnijlpiaaGreatDoor.Rp
