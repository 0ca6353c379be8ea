import Derived.Test.YtdggplhkeekdjaaGreatDoorProg
import Derived.WalkKit
import Derived.WalkSpells
import Derived.WalkLawsBesides
import Derived.Deep.QuietTactic
import Derived.BigQuiet
import Derived.BigRegion
import Derived.KernelRfl
/-
  DERIVED. The document's lines of texts: where one ends, its words, the number that digits are.
-/
namespace Go.Proofs.YtdggplhkeekdjaaGreatDoor.Rp
open Go Go.Proofs Go.RowKit

/-- A text's bytes, as numbers. -/
def bts (S : ByteArray) : List Nat := S.data.toList.map (fun c => c.toNat)

theorem bts_length (S : ByteArray) : (bts S).length = S.size := by
  simp [bts]

theorem bts_get (S : ByteArray) (k : Nat) (h : k < S.size) : S[k].toNat = (bts S).getD k 0 := by
  have h2 : k < S.data.size := h
  show (S.data[k]).toNat = _
  simp [bts, List.getD_eq_getElem?_getD, Array.getElem?_eq_getElem h2]

/-- The place of the line feed at or behind i. -/
def endL (L : List Nat) (i : Nat) : Nat := i + (L.drop i).findIdx (fun c => c == 10)

theorem endL_step {L : List Nat} {i : Nat} (hi : i < L.length) (h : L.getD i 0 ≠ 10) : endL L (i + 1) = endL L i := by
  unfold endL
  have e : L.drop i = L.getD i 0 :: L.drop (i + 1) := by
    rw [List.drop_eq_getElem_cons hi]
    simp [List.getD_eq_getElem?_getD, hi]
  rw [e, List.findIdx_cons]
  simp only [beq_iff_eq, h, cond_eq_ite]
  simp
  omega

theorem endL_here {L : List Nat} {i : Nat} (hi : i < L.length) (h : L.getD i 0 = 10) : endL L i = i := by
  unfold endL
  have e : L.drop i = L.getD i 0 :: L.drop (i + 1) := by
    rw [List.drop_eq_getElem_cons hi]
    simp [List.getD_eq_getElem?_getD, hi]
  rw [e, List.findIdx_cons, h]
  simp

theorem endL_ge (L : List Nat) (i : Nat) : i ≤ endL L i := by unfold endL; omega

set_option maxRecDepth 100000 in
theorem end_any (w : World) (S : ByteArray) (i : Nat) (hs : S.size ≤ 100000) (he : endL (bts S) i < S.size) : Calls Tryz.prog 86 #[.string S, .int .i64 (i : Int)] w fun e w' => e = .returned (.int .i64 (endL (bts S) i : Nat)) ∧ w = w' := by
  obtain ⟨j, hj⟩ : ∃ j, endL (bts S) i = j := ⟨_, rfl⟩
  have HJ : Hid (endL (bts S) i = j) := hj
  rw [hj] at he ⊢
  have hij : i ≤ j := by rw [← hj]; exact endL_ge _ _
  clear hj
  go_enter Tryz.func86, Tryz.ntmps86
  go_wp2
  go_loop [1] (fun x => ∃ k : Nat, x = .int .i64 k ∧ k ≤ j ∧ Hid (endL (bts S) k = j)) (fun x => j - (intOf x).toNat)
  case atStart => exact ⟨i, rfl, hij, HJ⟩
  case round =>
    obtain ⟨k, rfl, h2, HK⟩ := hrel
    have hk : k < S.size := by omega
    have hb := bts_get S k hk
    by_cases h10 : (bts S).getD k 0 = 10
    · have hne : ((S[k].toNat : Int) != 10) = false := by rw [hb, h10]; rfl
      have HE : Hid (k = j) := by have := HK.out; rw [endL_here (by rw [bts_length]; exact hk) h10] at this; exact this
      clear h10 hb
      have hkj := HE.out
      subst hkj
      go_wp2
      go_ret
      exact ⟨rfl, rfl⟩
    · have hne : ((S[k].toNat : Int) != 10) = true := by rw [hb]; exact bne_iff_ne.2 (by omega)
      have HE : Hid (endL (bts S) (k + 1) = j) := by have := HK.out; rw [← endL_step (by rw [bts_length]; exact hk) h10] at this; exact this
      have hlt : k + 1 ≤ j := by rw [← HE.out]; exact endL_ge _ _
      clear h10 hb
      go_wp2
      exact ⟨⟨k + 1, by simp, hlt, HE⟩, by simp [intOf]; omega⟩

/-- Where the k-th word from 'i' on lies, one being begun at 'f'. -/
def wordL (L : List Nat) : Nat → Nat → Nat → Nat → Nat × Nat
  | 0, _, _, _ => (0, 0)
  | n + 1, k, f, i => if i ≤ L.length then (if i = L.length ∨ L.getD i 0 = 32 then (if k = 0 then (f, i) else wordL L n (k - 1) (i + 1) (i + 1)) else wordL L n k f (i + 1)) else (0, 0)

set_option maxRecDepth 100000 in
theorem word_any (w : World) (S : ByteArray) (k : Nat) (hs : S.size ≤ 100000) (hk : k ≤ 100000) : Calls Tryz.prog 53 #[.string S, .int .i64 (k : Int)] w fun e w' => e = .returned (.string (S.extract (wordL (bts S) (S.size + 2) k 0 0).1 (wordL (bts S) (S.size + 2) k 0 0).2)) ∧ w = w' := by
  obtain ⟨R, hR⟩ : ∃ R, wordL (bts S) (S.size + 2) k 0 0 = R := ⟨_, rfl⟩
  rw [hR]
  have HR : Hid (wordL (bts S) (S.size + 2) k 0 0 = R) := hR
  clear hR
  go_enter Tryz.func53, Tryz.ntmps53
  go_wp2
  go_loop [1, 5, 6] (fun x y z => ∃ k f i n : Nat, x = .int .i64 k ∧ y = .int .i64 f ∧ z = .int .i64 i ∧ f ≤ i ∧ i ≤ S.size + 1 ∧ k ≤ 100000 ∧ i + n = S.size + 2 ∧ Hid (wordL (bts S) n k f i = R)) (fun _ _ x => 200000 - (intOf x).toNat)
  case atStart => exact ⟨k, 0, 0, S.size + 2, rfl, rfl, rfl, Nat.le_refl _, by omega, hk, by omega, HR⟩
  case round =>
    obtain ⟨k, f, i, n, rfl, rfl, rfl, h1, h2, h3, h4, HN⟩ := hrel
    obtain ⟨n, rfl⟩ : ∃ m, n = m + 1 := ⟨n - 1, by omega⟩
    have hw := HN.out
    rw [wordL, bts_length] at hw
    by_cases hi : i ≤ S.size
    · rw [if_pos hi] at hw
      by_cases hc : i = S.size ∨ (bts S).getD i 0 = 32
      · rw [if_pos hc] at hw
        have hcc : i = S.size ∨ ∃ h : i < S.size, ((S[i].toNat : Int) == 32) = true := by
          by_cases h0 : i = S.size
          · exact .inl h0
          · refine .inr ⟨by omega, ?_⟩
            rw [bts_get S i (by omega), (hc.resolve_left h0)]
            rfl
        by_cases hk0 : k = 0
        · rw [if_pos hk0] at hw
          subst hk0
          have HW : Hid ((f, i) = R) := hw
          clear hw hc HN
          rcases hcc with h0 | ⟨hlt, hc⟩
          · subst h0
            go_wp2
            go_ret
            rw [← HW.out]; exact ⟨rfl, rfl⟩
          · go_wp2
            go_ret
            rw [← HW.out]; exact ⟨rfl, rfl⟩
        · rw [if_neg hk0] at hw
          have HW : Hid (wordL (bts S) n (k - 1) (i + 1) (i + 1) = R) := hw
          have hdk : ((k : Int) == 0) = false := by simp; omega
          have hk1 : (k : Int) - 1 = ((k - 1 : Nat) : Int) := by omega
          clear hw hc HN
          rcases hcc with h0 | ⟨hlt, hc⟩
          · subst h0
            go_wp2
            exact ⟨⟨k - 1, S.size + 1, S.size + 1, n, by simp, by simp, by simp, by omega, by omega, by omega, by omega, HW⟩, by simp [intOf]; omega⟩
          · go_wp2
            exact ⟨⟨k - 1, i + 1, i + 1, n, by simp, by simp, by simp, by omega, by omega, by omega, by omega, HW⟩, by simp [intOf]; omega⟩
      · rw [if_neg hc] at hw
        have hlt : i < S.size := by omega
        have hc2 : ((S[i].toNat : Int) == 32) = false := by rw [bts_get S i hlt]; exact beq_eq_false_iff_ne.2 (by omega)
        have HW : Hid (wordL (bts S) n k f (i + 1) = R) := hw
        have hne : ¬ i = S.size := by omega
        clear hw hc HN
        go_wp2
        exact ⟨⟨k, f, i + 1, n, by simp, by simp, by simp, by omega, by omega, by omega, by omega, HW⟩, by simp [intOf]; omega⟩
    · rw [if_neg hi] at hw
      have HW : Hid ((0, 0) = R) := hw
      have hi2 : i = S.size + 1 := by omega
      clear hw HN
      go_wp2
      go_ret
      rw [← HW.out]
      refine ⟨?_, rfl⟩
      simp
      rfl
end Go.Proofs.YtdggplhkeekdjaaGreatDoor.Rp

/-
  DERIVED. The document's table of VRs, line by line; the number that digits are.
-/
namespace Go.Proofs.YtdggplhkeekdjaaGreatDoor.Rp
open Go Go.Proofs Go.RowKit

/-- The table of VRs, byte by byte. -/
def repsL : List Nat := [
  65, 69, 32, 115, 32, 49, 32, 49, 54, 32, 84, 32, 77, 10, 65, 83, 32, 115, 32, 49, 32, 52, 32, 84, 32, 77, 10, 65, 84, 32, 48, 32, 52, 32, 52, 32, 77, 10, 67, 83,
  32, 115, 32, 49, 32, 49, 54, 32, 84, 32, 77, 10, 68, 65, 32, 115, 32, 49, 32, 56, 32, 84, 32, 77, 10, 68, 83, 32, 115, 32, 49, 32, 49, 54, 32, 84, 32, 77, 10, 68,
  84, 32, 115, 32, 49, 32, 50, 54, 32, 84, 32, 77, 10, 70, 68, 32, 48, 32, 56, 32, 56, 32, 77, 10, 70, 76, 32, 48, 32, 52, 32, 52, 32, 77, 10, 73, 83, 32, 115, 32,
  49, 32, 49, 50, 32, 84, 32, 77, 10, 76, 79, 32, 115, 32, 49, 32, 54, 52, 32, 84, 32, 67, 32, 77, 10, 76, 84, 32, 115, 32, 49, 32, 49, 48, 50, 52, 48, 32, 84, 32,
  67, 10, 79, 66, 32, 48, 32, 49, 32, 48, 32, 76, 10, 79, 87, 32, 48, 32, 50, 32, 48, 32, 76, 10, 80, 78, 32, 115, 32, 49, 32, 54, 52, 32, 84, 32, 67, 32, 77, 10,
  83, 72, 32, 115, 32, 49, 32, 49, 54, 32, 84, 32, 67, 32, 77, 10, 83, 76, 32, 48, 32, 52, 32, 52, 32, 77, 10, 83, 81, 32, 48, 32, 49, 32, 48, 32, 76, 10, 83, 83,
  32, 48, 32, 50, 32, 50, 32, 77, 10, 83, 84, 32, 115, 32, 49, 32, 49, 48, 50, 52, 32, 84, 32, 67, 10, 84, 77, 32, 115, 32, 49, 32, 49, 52, 32, 84, 32, 77, 10, 85,
  67, 32, 115, 32, 49, 32, 48, 32, 84, 32, 67, 32, 77, 32, 76, 10, 85, 73, 32, 48, 32, 49, 32, 54, 52, 32, 84, 32, 77, 10, 85, 76, 32, 48, 32, 52, 32, 52, 32, 77,
  10, 85, 78, 32, 48, 32, 49, 32, 48, 32, 76, 10, 85, 82, 32, 115, 32, 49, 32, 48, 32, 84, 32, 76, 10, 85, 83, 32, 48, 32, 50, 32, 50, 32, 77, 10, 85, 84, 32, 115,
  32, 49, 32, 48, 32, 84, 32, 67, 32, 76, 10]

def repsB : ByteArray := ⟨(repsL.map UInt8.ofNat).toArray⟩

theorem repsB_size : repsB.size = 371 := by decide +kernel

/-- Where the line behind so many begins. -/
def st : Nat → Nat
  | 0 => 0
  | m + 1 => endL (bts repsB) (st m) + 1

theorem st_ok : ∀ m : Fin 28, st m.val < 371 ∧ endL (bts repsB) (st m.val) < 371 := by decide +kernel
theorem st_end : st 28 = 371 := by decide +kernel

/-- The line of a VR. -/
def lineB (v : Int) : ByteArray := if 1 ≤ v ∧ v ≤ 28 then repsB.extract (st (v.toNat - 1)) (endL (bts repsB) (st (v.toNat - 1))) else ⟨#[]⟩

theorem end_at (w : World) (S : ByteArray) (hS : S = repsB) (m : Nat) (hm : m < 28) : Calls Tryz.prog 86 #[.string S, .int .i64 (st m : Int)] w fun e w' => e = .returned (.int .i64 (endL (bts repsB) (st m) : Nat)) ∧ w = w' := by
  subst hS
  exact end_any w repsB (st m) (by rw [repsB_size]; omega) (by rw [repsB_size]; exact (st_ok ⟨m, hm⟩).2)

set_option maxRecDepth 100000 in
theorem rep_any (w : World) (v : Int) : Calls Tryz.prog 51 #[.int .i64 v] w fun e w' => e = .returned (.string (lineB v)) ∧ w = w' := by
  go_enter Tryz.func51, Tryz.ntmps51
  go_wp2
  go_loop [3, 4] (fun x y => ∃ m : Nat, x = .int .i64 ((m : Int) + 1) ∧ y = .int .i64 (st m : Nat) ∧ m ≤ 28 ∧ (v < 1 ∨ (m : Int) + 1 ≤ v)) (fun x _ => 100 - (intOf x).toNat)
  case atStart => exact ⟨0, rfl, rfl, by omega, by omega⟩
  case round =>
    obtain ⟨m, rfl, rfl, hm, hv⟩ := hrel
    by_cases h28 : m < 28
    · have hst := st_ok ⟨m, h28⟩
      have HST : Hid (st (m + 1) = endL (bts repsB) (st m) + 1) := rfl
      have HLB : Hid (v = (m : Int) + 1 → lineB v = repsB.extract (st m) (endL (bts repsB) (st m))) := by
        intro hh
        unfold lineB
        rw [if_pos (by omega), show v.toNat - 1 = m by omega]
      have hle := endL_ge (bts repsB) (st m)
      have c63 := fun S hS => end_at w S hS m h28
      obtain ⟨i, hi⟩ : ∃ i, st m = i := ⟨_, rfl⟩
      obtain ⟨j, hj⟩ : ∃ j, endL (bts repsB) (st m) = j := ⟨_, rfl⟩
      rw [hj] at HST HLB c63 hst hle
      rw [hi] at HLB c63 hst hle ⊢
      clear hi hj
      obtain ⟨hst1, hst2⟩ := hst
      by_cases hvm : v = (m : Int) + 1
      · subst hvm
        go_wp2_with (go_at_call 86; refine (c63 _ (by kernel_rfl)).mono ?_; rintro e w' ⟨rfl, rfl⟩)
        go_ret
        refine ⟨?_, rfl⟩
        rw [HLB.out (by simp)]
        exact congrArg (fun S => Ending.returned (.string (ByteArray.extract S i j))) (by kernel_rfl)
      · have hvm2 : ¬ (m : Int) + 1 = v := fun h => hvm h.symm
        go_wp2_with (go_at_call 86; refine (c63 _ (by kernel_rfl)).mono ?_; rintro e w' ⟨rfl, rfl⟩)
        exact ⟨⟨m + 1, by simp, by rw [HST.out]; simp, by omega, by omega⟩, by simp [intOf]; omega⟩
    · obtain rfl : m = 28 := by omega
      rw [st_end]
      have HLB : Hid (lineB v = ⟨#[]⟩) := by
        show lineB v = _
        unfold lineB
        rw [if_neg (by omega)]
      go_wp2
      go_ret
      rw [HLB.out]
      exact ⟨rfl, rfl⟩

/-- The number that digits are. -/
def decL (l : List Nat) : Nat := l.foldl (fun a b => 10 * a + (b - 48)) 0

theorem decL_snoc (l : List Nat) (k : Nat) (hk : k < l.length) : decL (l.take (k + 1)) = 10 * decL (l.take k) + (l.getD k 0 - 48) := by
  unfold decL
  rw [List.take_add_one, List.foldl_append]
  simp [List.getElem?_eq_getElem hk, List.getD_eq_getElem?_getD]

theorem decL_lt (l : List Nat) (hd : ∀ x ∈ l, x ≤ 57) : ∀ k, k ≤ l.length → decL (l.take k) < 10 ^ k
  | 0, _ => by simp [decL]
  | k + 1, h => by
    rw [decL_snoc l k (by omega)]
    have ih := decL_lt l hd k (by omega)
    have hx : l.getD k 0 ≤ 57 := by
      rw [List.getD_eq_getElem?_getD, List.getElem?_eq_getElem (show k < l.length by omega)]
      exact hd _ (List.getElem_mem _)
    rw [Nat.pow_succ]
    omega

set_option maxRecDepth 100000 in
theorem dec_any (w : World) (S : ByteArray) (hs : S.size ≤ 9) (hd : ∀ x ∈ bts S, 48 ≤ x ∧ x ≤ 57) : Calls Tryz.prog 52 #[.string S] w fun e w' => e = .returned (.int .i64 (decL (bts S) : Nat)) ∧ w = w' := by
  have HD : Hid (∀ x ∈ bts S, 48 ≤ x ∧ x ≤ 57) := hd
  clear hd
  go_enter Tryz.func52, Tryz.ntmps52
  go_wp2
  go_loop [3, 4] (fun x y => ∃ k n : Nat, x = .int .i64 n ∧ y = .int .i64 k ∧ k ≤ S.size ∧ n < 1000000000 ∧ Hid (n = decL ((bts S).take k))) (fun _ y => 100 - (intOf y).toNat)
  case atStart => exact ⟨0, 0, rfl, rfl, by omega, by omega, rfl⟩
  case round =>
    obtain ⟨k, n, rfl, rfl, hk, hn, HN⟩ := hrel
    by_cases hks : k < S.size
    · have hb := bts_get S k hks
      have hm : (bts S).getD k 0 ∈ bts S := by
        rw [List.getD_eq_getElem?_getD, List.getElem?_eq_getElem (show k < (bts S).length by rw [bts_length]; exact hks)]
        exact List.getElem_mem _
      have hr := HD.out _ hm
      have hr1 : 48 ≤ S[k].toNat := by rw [hb]; exact hr.1
      have hr2 : S[k].toNat ≤ 57 := by rw [hb]; exact hr.2
      have HN2 : Hid (10 * n + (S[k].toNat - 48) = decL ((bts S).take (k + 1))) := by
        show _ = _
        rw [decL_snoc _ _ (by rw [bts_length]; exact hks), hb, HN.out]
      have hlt : 10 * n + (S[k].toNat - 48) < 1000000000 := by
        rw [HN2.out]
        refine Nat.lt_of_lt_of_le (decL_lt _ (fun x hx => (HD.out x hx).2) (k + 1) (by rw [bts_length]; omega)) ?_
        exact Nat.pow_le_pow_right (n := 10) (i := k + 1) (j := 9) (by decide) (by omega)
      clear hb hm hr
      go_wp2
      exact ⟨⟨k + 1, 10 * n + (S[k].toNat - 48), by simp; omega, by simp, by omega, hlt, HN2⟩, by simp [intOf]; omega⟩
    · have hke : k = S.size := by omega
      have HN2 : Hid (n = decL (bts S)) := by
        have := HN.out
        rw [hke, List.take_of_length_le (by rw [bts_length]; exact Nat.le_refl _)] at this
        exact this
      clear HN
      go_wp2
      go_ret
      rw [← HN2.out]
      exact ⟨rfl, rfl⟩
end Go.Proofs.YtdggplhkeekdjaaGreatDoor.Rp
