import Derived.Test.YtfoodjhffehgpaaGreatDoorProg
import Derived.WalkKit
import Derived.WalkSpells
import Derived.WalkLawsBesides
import Derived.Deep.QuietTactic
import Derived.BigQuiet
import Derived.BigRegion
import Derived.KernelRfl
import Derived.Laws.BitsAll
import Derived.Deep.RegionHeld3
section
/-
  DERIVED. The document's lines of texts: where one ends, its words, the number that digits are.
-/
namespace Go.Proofs.YtfoodjhffehgpaaGreatDoor.Tb
open Go Go.Proofs Go.RowKit

/-- A text's bytes, as numbers. -/
def bts (S : ByteArray) : List Nat := S.data.toList.map (fun c => c.toNat)

theorem bts_length (S : ByteArray) : (bts S).length = S.size := by
  simp [bts]

theorem bts_get (S : ByteArray) (k : Nat) (h : k < S.size) : S[k].toNat = (bts S).getD k 0 := by
  have h2 : k < S.data.size := h
  show (S.data[k]).toNat = _
  simp [bts, List.getD_eq_getElem?_getD, Array.getElem?_eq_getElem h2]

/-- The place of the line feed at or behind i. -/
def endL (L : List Nat) (i : Nat) : Nat := i + (L.drop i).findIdx (fun c => c == 10)

theorem endL_step {L : List Nat} {i : Nat} (hi : i < L.length) (h : L.getD i 0 ≠ 10) : endL L (i + 1) = endL L i := by
  unfold endL
  have e : L.drop i = L.getD i 0 :: L.drop (i + 1) := by
    rw [List.drop_eq_getElem_cons hi]
    simp [List.getD_eq_getElem?_getD, hi]
  rw [e, List.findIdx_cons]
  simp only [beq_iff_eq, h, cond_eq_ite]
  simp
  omega

theorem endL_here {L : List Nat} {i : Nat} (hi : i < L.length) (h : L.getD i 0 = 10) : endL L i = i := by
  unfold endL
  have e : L.drop i = L.getD i 0 :: L.drop (i + 1) := by
    rw [List.drop_eq_getElem_cons hi]
    simp [List.getD_eq_getElem?_getD, hi]
  rw [e, List.findIdx_cons, h]
  simp

theorem endL_ge (L : List Nat) (i : Nat) : i ≤ endL L i := by unfold endL; omega

set_option maxRecDepth 100000 in
theorem end_any (w : World) (S : ByteArray) (i : Nat) (hs : S.size ≤ 100000) (he : endL (bts S) i < S.size) : Calls Tryz.prog 39 #[.string S, .int .i64 (i : Int)] w fun e w' => e = .returned (.int .i64 (endL (bts S) i : Nat)) ∧ w = w' := by
  obtain ⟨j, hj⟩ : ∃ j, endL (bts S) i = j := ⟨_, rfl⟩
  have HJ : Hid (endL (bts S) i = j) := hj
  rw [hj] at he ⊢
  have hij : i ≤ j := by rw [← hj]; exact endL_ge _ _
  clear hj
  go_enter Tryz.func39, Tryz.ntmps39
  go_wp2
  go_loop [1] (fun x => ∃ k : Nat, x = .int .i64 k ∧ k ≤ j ∧ Hid (endL (bts S) k = j)) (fun x => j - (intOf x).toNat)
  case atStart => exact ⟨i, rfl, hij, HJ⟩
  case round =>
    obtain ⟨k, rfl, h2, HK⟩ := hrel
    have hk : k < S.size := by omega
    have hb := bts_get S k hk
    by_cases h10 : (bts S).getD k 0 = 10
    · have hne : ((S[k].toNat : Int) != 10) = false := by rw [hb, h10]; rfl
      have HE : Hid (k = j) := by have := HK.out; rw [endL_here (by rw [bts_length]; exact hk) h10] at this; exact this
      clear h10 hb
      have hkj := HE.out
      subst hkj
      go_wp2
      go_ret
      exact ⟨rfl, rfl⟩
    · have hne : ((S[k].toNat : Int) != 10) = true := by rw [hb]; exact bne_iff_ne.2 (by omega)
      have HE : Hid (endL (bts S) (k + 1) = j) := by have := HK.out; rw [← endL_step (by rw [bts_length]; exact hk) h10] at this; exact this
      have hlt : k + 1 ≤ j := by rw [← HE.out]; exact endL_ge _ _
      clear h10 hb
      go_wp2
      exact ⟨⟨k + 1, by simp, hlt, HE⟩, by simp [intOf]; omega⟩

/-- Where the k-th word from 'i' on lies, one being begun at 'f'. -/
def wordL (L : List Nat) : Nat → Nat → Nat → Nat → Nat × Nat
  | 0, _, _, _ => (0, 0)
  | n + 1, k, f, i => if i ≤ L.length then (if i = L.length ∨ L.getD i 0 = 32 then (if k = 0 then (f, i) else wordL L n (k - 1) (i + 1) (i + 1)) else wordL L n k f (i + 1)) else (0, 0)

set_option maxRecDepth 100000 in
theorem word_any (w : World) (S : ByteArray) (k : Nat) (hs : S.size ≤ 100000) (hk : k ≤ 100000) : Calls Tryz.prog 55 #[.string S, .int .i64 (k : Int)] w fun e w' => e = .returned (.string (S.extract (wordL (bts S) (S.size + 2) k 0 0).1 (wordL (bts S) (S.size + 2) k 0 0).2)) ∧ w = w' := by
  obtain ⟨R, hR⟩ : ∃ R, wordL (bts S) (S.size + 2) k 0 0 = R := ⟨_, rfl⟩
  rw [hR]
  have HR : Hid (wordL (bts S) (S.size + 2) k 0 0 = R) := hR
  clear hR
  go_enter Tryz.func55, Tryz.ntmps55
  go_wp2
  go_loop [1, 5, 6] (fun x y z => ∃ k f i n : Nat, x = .int .i64 k ∧ y = .int .i64 f ∧ z = .int .i64 i ∧ f ≤ i ∧ i ≤ S.size + 1 ∧ k ≤ 100000 ∧ i + n = S.size + 2 ∧ Hid (wordL (bts S) n k f i = R)) (fun _ _ x => 200000 - (intOf x).toNat)
  case atStart => exact ⟨k, 0, 0, S.size + 2, rfl, rfl, rfl, Nat.le_refl _, by omega, hk, by omega, HR⟩
  case round =>
    obtain ⟨k, f, i, n, rfl, rfl, rfl, h1, h2, h3, h4, HN⟩ := hrel
    obtain ⟨n, rfl⟩ : ∃ m, n = m + 1 := ⟨n - 1, by omega⟩
    have hw := HN.out
    rw [wordL, bts_length] at hw
    by_cases hi : i ≤ S.size
    · rw [if_pos hi] at hw
      by_cases hc : i = S.size ∨ (bts S).getD i 0 = 32
      · rw [if_pos hc] at hw
        have hcc : i = S.size ∨ ∃ h : i < S.size, ((S[i].toNat : Int) == 32) = true := by
          by_cases h0 : i = S.size
          · exact .inl h0
          · refine .inr ⟨by omega, ?_⟩
            rw [bts_get S i (by omega), (hc.resolve_left h0)]
            rfl
        by_cases hk0 : k = 0
        · rw [if_pos hk0] at hw
          subst hk0
          have HW : Hid ((f, i) = R) := hw
          clear hw hc HN
          rcases hcc with h0 | ⟨hlt, hc⟩
          · subst h0
            go_wp2
            go_ret
            rw [← HW.out]; exact ⟨rfl, rfl⟩
          · go_wp2
            go_ret
            rw [← HW.out]; exact ⟨rfl, rfl⟩
        · rw [if_neg hk0] at hw
          have HW : Hid (wordL (bts S) n (k - 1) (i + 1) (i + 1) = R) := hw
          have hdk : ((k : Int) == 0) = false := by simp; omega
          have hk1 : (k : Int) - 1 = ((k - 1 : Nat) : Int) := by omega
          clear hw hc HN
          rcases hcc with h0 | ⟨hlt, hc⟩
          · subst h0
            go_wp2
            exact ⟨⟨k - 1, S.size + 1, S.size + 1, n, by simp, by simp, by simp, by omega, by omega, by omega, by omega, HW⟩, by simp [intOf]; omega⟩
          · go_wp2
            exact ⟨⟨k - 1, i + 1, i + 1, n, by simp, by simp, by simp, by omega, by omega, by omega, by omega, HW⟩, by simp [intOf]; omega⟩
      · rw [if_neg hc] at hw
        have hlt : i < S.size := by omega
        have hc2 : ((S[i].toNat : Int) == 32) = false := by rw [bts_get S i hlt]; exact beq_eq_false_iff_ne.2 (by omega)
        have HW : Hid (wordL (bts S) n k f (i + 1) = R) := hw
        have hne : ¬ i = S.size := by omega
        clear hw hc HN
        go_wp2
        exact ⟨⟨k, f, i + 1, n, by simp, by simp, by simp, by omega, by omega, by omega, by omega, HW⟩, by simp [intOf]; omega⟩
    · rw [if_neg hi] at hw
      have HW : Hid ((0, 0) = R) := hw
      have hi2 : i = S.size + 1 := by omega
      clear hw HN
      go_wp2
      go_ret
      rw [← HW.out]
      refine ⟨?_, rfl⟩
      simp
      rfl
end Go.Proofs.YtfoodjhffehgpaaGreatDoor.Tb
end

section
/-
  DERIVED. The document's table of VRs, line by line; the number that digits are.
-/
namespace Go.Proofs.YtfoodjhffehgpaaGreatDoor.Tb
open Go Go.Proofs Go.RowKit

/-- The table of VRs, byte by byte. -/
def repsL : List Nat := [
  65, 69, 32, 115, 32, 49, 32, 49, 54, 32, 84, 32, 77, 10, 65, 83, 32, 115, 32, 49, 32, 52, 32, 84, 32, 77, 10, 65, 84, 32, 48, 32, 52, 32, 52, 32, 77, 10, 67, 83,
  32, 115, 32, 49, 32, 49, 54, 32, 84, 32, 77, 10, 68, 65, 32, 115, 32, 49, 32, 56, 32, 84, 32, 77, 10, 68, 83, 32, 115, 32, 49, 32, 49, 54, 32, 84, 32, 77, 10, 68,
  84, 32, 115, 32, 49, 32, 50, 54, 32, 84, 32, 77, 10, 70, 68, 32, 48, 32, 56, 32, 56, 32, 77, 10, 70, 76, 32, 48, 32, 52, 32, 52, 32, 77, 10, 73, 83, 32, 115, 32,
  49, 32, 49, 50, 32, 84, 32, 77, 10, 76, 79, 32, 115, 32, 49, 32, 54, 52, 32, 84, 32, 67, 32, 77, 10, 76, 84, 32, 115, 32, 49, 32, 49, 48, 50, 52, 48, 32, 84, 32,
  67, 10, 79, 66, 32, 48, 32, 49, 32, 48, 32, 76, 10, 79, 87, 32, 48, 32, 50, 32, 48, 32, 76, 10, 80, 78, 32, 115, 32, 49, 32, 54, 52, 32, 84, 32, 67, 32, 77, 10,
  83, 72, 32, 115, 32, 49, 32, 49, 54, 32, 84, 32, 67, 32, 77, 10, 83, 76, 32, 48, 32, 52, 32, 52, 32, 77, 10, 83, 81, 32, 48, 32, 49, 32, 48, 32, 76, 10, 83, 83,
  32, 48, 32, 50, 32, 50, 32, 77, 10, 83, 84, 32, 115, 32, 49, 32, 49, 48, 50, 52, 32, 84, 32, 67, 10, 84, 77, 32, 115, 32, 49, 32, 49, 52, 32, 84, 32, 77, 10, 85,
  67, 32, 115, 32, 49, 32, 48, 32, 84, 32, 67, 32, 77, 32, 76, 10, 85, 73, 32, 48, 32, 49, 32, 54, 52, 32, 84, 32, 77, 10, 85, 76, 32, 48, 32, 52, 32, 52, 32, 77,
  10, 85, 78, 32, 48, 32, 49, 32, 48, 32, 76, 10, 85, 82, 32, 115, 32, 49, 32, 48, 32, 84, 32, 76, 10, 85, 83, 32, 48, 32, 50, 32, 50, 32, 77, 10, 85, 84, 32, 115,
  32, 49, 32, 48, 32, 84, 32, 67, 32, 76, 10]

def repsB : ByteArray := ⟨(repsL.map UInt8.ofNat).toArray⟩

theorem repsB_size : repsB.size = 371 := by decide +kernel

/-- Where the line behind so many begins. -/
def st : Nat → Nat
  | 0 => 0
  | m + 1 => endL (bts repsB) (st m) + 1

theorem st_ok : ∀ m : Fin 28, st m.val < 371 ∧ endL (bts repsB) (st m.val) < 371 := by decide +kernel
theorem st_end : st 28 = 371 := by decide +kernel

/-- The line of a VR. -/
def lineB (v : Int) : ByteArray := if 1 ≤ v ∧ v ≤ 28 then repsB.extract (st (v.toNat - 1)) (endL (bts repsB) (st (v.toNat - 1))) else ⟨#[]⟩

theorem end_at (w : World) (S : ByteArray) (hS : S = repsB) (m : Nat) (hm : m < 28) : Calls Tryz.prog 39 #[.string S, .int .i64 (st m : Int)] w fun e w' => e = .returned (.int .i64 (endL (bts repsB) (st m) : Nat)) ∧ w = w' := by
  subst hS
  exact end_any w repsB (st m) (by rw [repsB_size]; omega) (by rw [repsB_size]; exact (st_ok ⟨m, hm⟩).2)

set_option maxRecDepth 100000 in
theorem rep_any (w : World) (v : Int) : Calls Tryz.prog 53 #[.int .i64 v] w fun e w' => e = .returned (.string (lineB v)) ∧ w = w' := by
  go_enter Tryz.func53, Tryz.ntmps53
  go_wp2
  go_loop [3, 4] (fun x y => ∃ m : Nat, x = .int .i64 ((m : Int) + 1) ∧ y = .int .i64 (st m : Nat) ∧ m ≤ 28 ∧ (v < 1 ∨ (m : Int) + 1 ≤ v)) (fun x _ => 100 - (intOf x).toNat)
  case atStart => exact ⟨0, rfl, rfl, by omega, by omega⟩
  case round =>
    obtain ⟨m, rfl, rfl, hm, hv⟩ := hrel
    by_cases h28 : m < 28
    · have hst := st_ok ⟨m, h28⟩
      have HST : Hid (st (m + 1) = endL (bts repsB) (st m) + 1) := rfl
      have HLB : Hid (v = (m : Int) + 1 → lineB v = repsB.extract (st m) (endL (bts repsB) (st m))) := by
        intro hh
        unfold lineB
        rw [if_pos (by omega), show v.toNat - 1 = m by omega]
      have hle := endL_ge (bts repsB) (st m)
      have c63 := fun S hS => end_at w S hS m h28
      obtain ⟨i, hi⟩ : ∃ i, st m = i := ⟨_, rfl⟩
      obtain ⟨j, hj⟩ : ∃ j, endL (bts repsB) (st m) = j := ⟨_, rfl⟩
      rw [hj] at HST HLB c63 hst hle
      rw [hi] at HLB c63 hst hle ⊢
      clear hi hj
      obtain ⟨hst1, hst2⟩ := hst
      by_cases hvm : v = (m : Int) + 1
      · subst hvm
        go_wp2_with (go_at_call 39; refine (c63 _ (by kernel_rfl)).mono ?_; rintro e w' ⟨rfl, rfl⟩)
        go_ret
        refine ⟨?_, rfl⟩
        rw [HLB.out (by simp)]
        exact congrArg (fun S => Ending.returned (.string (ByteArray.extract S i j))) (by kernel_rfl)
      · have hvm2 : ¬ (m : Int) + 1 = v := fun h => hvm h.symm
        go_wp2_with (go_at_call 39; refine (c63 _ (by kernel_rfl)).mono ?_; rintro e w' ⟨rfl, rfl⟩)
        exact ⟨⟨m + 1, by simp, by rw [HST.out]; simp, by omega, by omega⟩, by simp [intOf]; omega⟩
    · obtain rfl : m = 28 := by omega
      rw [st_end]
      have HLB : Hid (lineB v = ⟨#[]⟩) := by
        show lineB v = _
        unfold lineB
        rw [if_neg (by omega)]
      go_wp2
      go_ret
      rw [HLB.out]
      exact ⟨rfl, rfl⟩

/-- The number that digits are. -/
def decL (l : List Nat) : Nat := l.foldl (fun a b => 10 * a + (b - 48)) 0

theorem decL_snoc (l : List Nat) (k : Nat) (hk : k < l.length) : decL (l.take (k + 1)) = 10 * decL (l.take k) + (l.getD k 0 - 48) := by
  unfold decL
  rw [List.take_add_one, List.foldl_append]
  simp [List.getElem?_eq_getElem hk, List.getD_eq_getElem?_getD]

theorem decL_lt (l : List Nat) (hd : ∀ x ∈ l, x ≤ 57) : ∀ k, k ≤ l.length → decL (l.take k) < 10 ^ k
  | 0, _ => by simp [decL]
  | k + 1, h => by
    rw [decL_snoc l k (by omega)]
    have ih := decL_lt l hd k (by omega)
    have hx : l.getD k 0 ≤ 57 := by
      rw [List.getD_eq_getElem?_getD, List.getElem?_eq_getElem (show k < l.length by omega)]
      exact hd _ (List.getElem_mem _)
    rw [Nat.pow_succ]
    omega

set_option maxRecDepth 100000 in
theorem dec_any (w : World) (S : ByteArray) (hs : S.size ≤ 9) (hd : ∀ x ∈ bts S, 48 ≤ x ∧ x ≤ 57) : Calls Tryz.prog 54 #[.string S] w fun e w' => e = .returned (.int .i64 (decL (bts S) : Nat)) ∧ w = w' := by
  have HD : Hid (∀ x ∈ bts S, 48 ≤ x ∧ x ≤ 57) := hd
  clear hd
  go_enter Tryz.func54, Tryz.ntmps54
  go_wp2
  go_loop [3, 4] (fun x y => ∃ k n : Nat, x = .int .i64 n ∧ y = .int .i64 k ∧ k ≤ S.size ∧ n < 1000000000 ∧ Hid (n = decL ((bts S).take k))) (fun _ y => 100 - (intOf y).toNat)
  case atStart => exact ⟨0, 0, rfl, rfl, by omega, by omega, rfl⟩
  case round =>
    obtain ⟨k, n, rfl, rfl, hk, hn, HN⟩ := hrel
    by_cases hks : k < S.size
    · have hb := bts_get S k hks
      have hm : (bts S).getD k 0 ∈ bts S := by
        rw [List.getD_eq_getElem?_getD, List.getElem?_eq_getElem (show k < (bts S).length by rw [bts_length]; exact hks)]
        exact List.getElem_mem _
      have hr := HD.out _ hm
      have hr1 : 48 ≤ S[k].toNat := by rw [hb]; exact hr.1
      have hr2 : S[k].toNat ≤ 57 := by rw [hb]; exact hr.2
      have HN2 : Hid (10 * n + (S[k].toNat - 48) = decL ((bts S).take (k + 1))) := by
        show _ = _
        rw [decL_snoc _ _ (by rw [bts_length]; exact hks), hb, HN.out]
      have hlt : 10 * n + (S[k].toNat - 48) < 1000000000 := by
        rw [HN2.out]
        refine Nat.lt_of_lt_of_le (decL_lt _ (fun x hx => (HD.out x hx).2) (k + 1) (by rw [bts_length]; omega)) ?_
        exact Nat.pow_le_pow_right (n := 10) (i := k + 1) (j := 9) (by decide) (by omega)
      clear hb hm hr
      go_wp2
      exact ⟨⟨k + 1, 10 * n + (S[k].toNat - 48), by simp; omega, by simp, by omega, hlt, HN2⟩, by simp [intOf]; omega⟩
    · have hke : k = S.size := by omega
      have HN2 : Hid (n = decL (bts S)) := by
        have := HN.out
        rw [hke, List.take_of_length_le (by rw [bts_length]; exact Nat.le_refl _)] at this
        exact this
      clear HN
      go_wp2
      go_ret
      rw [← HN2.out]
      exact ⟨rfl, rfl⟩
end Go.Proofs.YtfoodjhffehgpaaGreatDoor.Tb
end

section
/-
  DERIVED. A VR's letters, read, as the document has them.
-/
namespace Go.Proofs.YtfoodjhffehgpaaGreatDoor.Tb
open Go Go.Proofs Go.RowKit

theorem cell_lt {w : World} {a : Addr} {v : Value} (h : w.cell? a = some v) : a.block < w.heap.size := World.block_lt_of_cell? w a h
theorem cell_set_ne {W : World} {b i j : Nat} {v : Value} (h : i ≠ j) : (W.setCell ⟨b, i, none⟩ v).cell? ⟨b, j, none⟩ = W.cell? ⟨b, j, none⟩ := by
  apply World.cell?_setCell_other; simp
theorem cell_set_eq {W : World} {b i : Nat} {v u : Value} (h : W.cell? ⟨b, i, none⟩ = some u) : (W.setCell ⟨b, i, none⟩ v).cell? ⟨b, i, none⟩ = some v := by
  apply World.cell?_setCell_same; exact h

/-- The two letters of a VR. -/
def vrw (v : Int) : ByteArray := if 1 ≤ v ∧ v ≤ 28 then (lineB v).extract 0 2 else ⟨#[]⟩

theorem line_two : ∀ k : Fin 29, k.val = 0 ∨ 2 ≤ (lineB (k.val : Int)).size := by decide +kernel

set_option maxRecDepth 100000 in
theorem vrw_any (w : World) (v : Int) : Calls Tryz.prog 81 #[.int .i64 v] w fun e w' => e = .returned (.string (vrw v)) ∧ w = w' := by
  have c33 := fun W => rep_any W v
  by_cases hv : 1 ≤ v ∧ v ≤ 28
  · have h2 := (line_two ⟨v.toNat, by omega⟩).resolve_left (by simp only; omega)
    simp only at h2
    rw [show ((v.toNat : Nat) : Int) = v by omega] at h2
    have hr : vrw v = (lineB v).extract 0 2 := by unfold vrw; rw [if_pos hv]
    rw [hr]
    generalize lineB v = S at h2 c33
    have hne : (S.toList == []) = false := by
      rw [ByteArray.toList_eq]
      cases hd : S.data.toList with
      | nil =>
        have : S.size = 0 := by
          show S.data.size = 0
          rw [← Array.length_toList, hd]
          rfl
        omega
      | cons a l => rfl
    have h2i : (2 : Int) ≤ (S.size : Int) := by omega
    clear hr h2
    go_enter Tryz.func81, Tryz.ntmps81
    go_wp2_with (first | (go_at_call 53; refine (c33 _).mono ?_; rintro e w' ⟨rfl, rfl⟩) | fail)
    go_ret
    exact ⟨rfl, rfl⟩
  · have hL : lineB v = ⟨#[]⟩ := by unfold lineB; rw [if_neg hv]
    have hr : vrw v = ⟨#[]⟩ := by unfold vrw; rw [if_neg hv]
    rw [hr]
    rw [hL] at c33
    clear hr hL
    go_enter Tryz.func81, Tryz.ntmps81
    go_wp2_with (first | (go_at_call 53; refine (c33 _).mono ?_; rintro e w' ⟨rfl, rfl⟩) | fail)
    go_ret
    exact ⟨rfl, rfl⟩

/-- The first VR from k on whose letters these are; 0, if there is none. -/
def fndW (s : ByteArray) : Nat → Nat → Nat
  | 0, _ => 0
  | n + 1, k => if (vrw (k : Int)).toList == s.toList then k else fndW s n (k + 1)

theorem none_any (w : World) : Calls Tryz.prog 25 #[] w fun e w' => e = .returned (.agg #[.slice none 0 0, .int .i64 0]) ∧ Below w.heap.size w w' := by
  go_enter Tryz.func25, Tryz.ntmps25
  go_wp2
  exact bodyPost_ret (v := .agg #[.slice none 0 0, .int .i64 0]) (by simp [results, Tryz.results25, go_sem]) rfl ⟨rfl, (Below.refl _ _).alloc (Nat.le_refl _) _⟩

theorem new_any (L : ByteArray) (c at' : Int) (w : World) : Calls Tryz.prog 34 #[.string L, .int .i64 at', .int .i64 c] w fun e w' => e = .returned (.agg #[.slice (some ⟨w.heap.size + 1, 0, none⟩) 1 1, .int .i64 c]) ∧ Below w.heap.size w w' := by
  go_enter Tryz.func34, Tryz.ntmps34
  go_wp2
  exact bodyPost_ret (v := .agg #[.slice (some ⟨w.heap.size + 1, 0, none⟩) 1 1, .int .i64 c]) (by simp [results, Tryz.results34, go_sem]) rfl ⟨rfl, ((Below.refl _ _).alloc (Nat.le_refl _) _).alloc (by simp) _⟩

/-- A fault, still empty, as it lies in memory. -/
structure Fc (W : World) (g : Nat) : Prop where
  c0 : W.cell? ⟨g, 0, none⟩ = some (.slice none 0 0)
  c1 : W.cell? ⟨g, 1, none⟩ = some (.int .i64 0)
  cf : ∀ i, W.frozen? ⟨g, i, none⟩ = false

theorem Fc.next {W W' : World} {g : Nat} (h : Fc W g) (hb : Below W.heap.size W W') : Fc W' g :=
  ⟨(hb.cell (cell_lt h.c0)).trans h.c0, (hb.cell (cell_lt h.c1)).trans h.c1, fun i => (hb.frozen (p := ⟨g, i, none⟩) (show g < _ from cell_lt h.c0)).trans (h.cf i)⟩

theorem Fc.sets {W : World} {g : Nat} (h : Fc W g) (x0 x1 : Value) : ((W.setCell ⟨g, 0, none⟩ x0).setCell ⟨g, 1, none⟩ x1).cell? ⟨g, 0, none⟩ = some x0 ∧ ((W.setCell ⟨g, 0, none⟩ x0).setCell ⟨g, 1, none⟩ x1).cell? ⟨g, 1, none⟩ = some x1 :=
  ⟨(cell_set_ne (by decide)).trans (cell_set_eq h.c0), cell_set_eq ((cell_set_ne (by decide)).trans h.c1)⟩

set_option maxRecDepth 100000 in
set_option maxHeartbeats 1000000 in
theorem vrof_any (w : World) (s : ByteArray) : Calls Tryz.prog 57 #[.string s] w fun e w' => ∃ fa fn fc fe, e = .returned (.tuple #[.int .i64 ((fndW s 28 1 : Nat) : Int), .agg #[.slice fa fn fc, .int .i64 fe]]) ∧ Below w.heap.size w w' := by
  obtain ⟨R, hR⟩ : ∃ R, fndW s 28 1 = R := ⟨_, rfl⟩
  rw [hR]
  have HR : Hid (fndW s 28 1 = R) := hR
  clear hR
  obtain ⟨W1, hW1⟩ : ∃ W1, w.alloc (.cells #[.slice none 0 0, .int .i64 0] 35) = W1 := ⟨_, rfl⟩
  have HB1 : Hid (Below w.heap.size w W1) := hW1 ▸ (Below.refl _ _).alloc (Nat.le_refl _) _
  have HF1 : Hid (Fc W1 w.heap.size) := by
    rw [← hW1]
    exact ⟨by simp, by simp, fun i => by simp⟩
  go_enter Tryz.func57, Tryz.ntmps57
  go_wp2
  clear hW1
  go_loopw [4] (fun x wr => ∃ k : Nat, x = .int .i64 (k : Int) ∧ 1 ≤ k ∧ k ≤ 29 ∧ Hid (fndW s (29 - k) k = R) ∧ Hid (Fc wr w.heap.size) ∧ Hid (Below w.heap.size w wr)) (fun x _ => 100 - (intOf x).toNat)
  case atStart => exact ⟨1, rfl, by omega, by omega, HR, HF1, HB1⟩
  case round =>
    obtain ⟨k, rfl, hk1, hk, HK, HFr, HBr⟩ := hrel
    by_cases hk29 : k < 29
    · have c10 := vrw_any wr (k : Int)
      obtain ⟨h, hh⟩ : ∃ h, ((vrw (k : Int)).toList == s.toList) = h := ⟨_, rfl⟩
      have HN1 : Hid (h = true → R = k) := by
        intro h1
        have := HK.out
        rw [show 29 - k = (28 - k) + 1 by omega, fndW, if_pos (by rw [hh]; exact h1)] at this
        exact this.symm
      have HN2 : Hid (h = false → fndW s (29 - (k + 1)) (k + 1) = R) := by
        intro h1
        have := HK.out
        rw [show 29 - k = (28 - k) + 1 by omega, fndW, if_neg (by rw [hh, h1]; decide)] at this
        rw [show 29 - (k + 1) = 28 - k by omega]
        exact this
      generalize vrw (k : Int) = n at c10 hh
      obtain ⟨f0, f1, ff⟩ := HFr.out
      cases h with
      | true =>
        have HRk : Hid (R = k) := HN1.out rfl
        go_wp2_with (first | (go_at_call 81; refine c10.mono ?_; rintro e w' ⟨rfl, rfl⟩) | (go_at_call 25; refine (none_any _).mono ?_; rintro e W2 ⟨rfl, hb2⟩; obtain ⟨g0, g1, gf⟩ := HFr.out.next hb2))
        obtain ⟨u0, u1⟩ := Fc.sets ⟨g0, g1, gf⟩ (.slice none 0 0) (.int .i64 0)
        exact bodyPost_ret (v := .tuple #[.int .i64 (R : Int), .agg #[.slice none 0 0, .int .i64 0]]) (by simp only [results, Tryz.results57]; simp [go_sem, HRk.out, u0, u1]) rfl ⟨_, _, _, _, rfl, ((HBr.out.trans (hb2.mono HBr.out.size)).setCell (p := ⟨w.heap.size, 0, none⟩) (Nat.le_refl _) _).setCell (p := ⟨w.heap.size, 1, none⟩) (Nat.le_refl _) _⟩
      | false =>
        have HRk : Hid (fndW s (29 - (k + 1)) (k + 1) = R) := HN2.out rfl
        go_wp2_with (first | (go_at_call 81; refine c10.mono ?_; rintro e w' ⟨rfl, rfl⟩) | fail)
        exact ⟨⟨k + 1, by simp, by omega, by omega, HRk.out, HFr, HBr⟩, by simp [intOf]; omega⟩
    · obtain rfl : k = 29 := by omega
      have HR0 : Hid (R = 0) := HK.out.symm
      obtain ⟨f0, f1, ff⟩ := HFr.out
      go_wp2_with (first | (go_at_call 34; refine (new_any _ _ _ _).mono ?_; rintro e W2 ⟨rfl, hb2⟩; obtain ⟨g0, g1, gf⟩ := HFr.out.next hb2) | fail)
      obtain ⟨u0, u1⟩ := Fc.sets ⟨g0, g1, gf⟩ (.slice (some ⟨wr.heap.size + 1, 0, none⟩) 1 1) (.int .i64 62)
      exact bodyPost_ret (v := .tuple #[.int .i64 (R : Int), .agg #[.slice (some ⟨wr.heap.size + 1, 0, none⟩) 1 1, .int .i64 62]]) (by simp only [results, Tryz.results57]; simp [go_sem, HR0.out, u0, u1]) rfl ⟨_, _, _, _, rfl, ((HBr.out.trans (hb2.mono HBr.out.size)).setCell (p := ⟨w.heap.size, 0, none⟩) (Nat.le_refl _) _).setCell (p := ⟨w.heap.size, 1, none⟩) (Nat.le_refl _) _⟩
end Go.Proofs.YtfoodjhffehgpaaGreatDoor.Tb
end

section
/-
  DERIVED. The document's tags and numbers of values, out of a line.
-/
namespace Go.Proofs.YtfoodjhffehgpaaGreatDoor.Tb
open Go Go.Proofs Go.RowKit

/-- What a hexadecimal digit is worth. -/
def hexN (c : Nat) : Nat := if c ≤ 57 then c - 48 else c - 55
def isHex (c : Nat) : Bool := decide (48 ≤ c ∧ c ≤ 57) || decide (65 ≤ c ∧ c ≤ 70)

theorem hexN_lt {c : Nat} (h : isHex c = true) : hexN c < 16 := by
  unfold isHex at h
  simp only [Bool.or_eq_true, decide_eq_true_eq] at h
  unfold hexN
  split <;> omega

set_option maxRecDepth 100000 in
theorem hex_any (w : World) (c : Nat) (h : isHex c = true) : Calls Tryz.prog 56 #[.int .u8 (c : Int)] w fun e w' => e = .returned (.int .i64 (hexN c : Nat)) ∧ w = w' := by
  unfold isHex at h
  simp only [Bool.or_eq_true, decide_eq_true_eq] at h
  rcases h with ⟨h1, h2⟩ | ⟨h1, h2⟩
  · have hx : hexN c = c - 48 := by unfold hexN; rw [if_pos h2]
    rw [hx]
    clear hx
    go_enter Tryz.func56, Tryz.ntmps56
    go_wp2
    go_ret
    exact ⟨by simp; omega, rfl⟩
  · have hx : hexN c = c - 55 := by unfold hexN; rw [if_neg (by omega)]
    rw [hx]
    clear hx
    go_enter Tryz.func56, Tryz.ntmps56
    go_wp2
    go_ret
    exact ⟨by simp; omega, rfl⟩

/-- A line's tag, of so many signs. -/
def tagL (L : List Nat) : Nat → Nat
  | 0 => 0
  | i + 1 => if i = 4 then tagL L i else 16 * tagL L i + (if L.getD i 0 = 120 then 0 else hexN (L.getD i 0))

/-- The signs of a tag are digits, or x. -/
def tagOk (L : List Nat) : Bool := (List.range 9).all fun i => decide (i = 4) || decide (L.getD i 0 = 120) || isHex (L.getD i 0)

theorem tagOk_at {L : List Nat} (h : tagOk L = true) {i : Nat} (hi : i < 9) (h4 : i ≠ 4) (hx : L.getD i 0 ≠ 120) : isHex (L.getD i 0) = true := by
  have := List.all_eq_true.1 h i (List.mem_range.2 hi)
  simp only [Bool.or_eq_true, decide_eq_true_eq] at this
  rcases this with (h1 | h1) | h1
  · exact absurd h1 h4
  · exact absurd h1 hx
  · exact h1

theorem tagL_lt {L : List Nat} (h : tagOk L = true) : ∀ i, i ≤ 9 → tagL L i < 16 ^ (if i ≤ 4 then i else i - 1)
  | 0, _ => by simp [tagL]
  | i + 1, hi => by
    have ih := tagL_lt h i (by omega)
    rw [tagL]
    by_cases h4 : i = 4
    · subst h4
      simpa using ih
    · rw [if_neg h4]
      have hd : (if L.getD i 0 = 120 then 0 else hexN (L.getD i 0)) < 16 := by
        split
        · decide
        · exact hexN_lt (tagOk_at h (by omega) h4 (by assumption))
      have e : (if i + 1 ≤ 4 then i + 1 else i + 1 - 1) = (if i ≤ 4 then i else i - 1) + 1 := by
        split <;> split <;> omega
      rw [e, Nat.pow_succ]
      omega

theorem tagL_small {L : List Nat} (h : tagOk L = true) {i : Nat} (hi : i ≤ 8) : tagL L i < 268435456 := by
  have := tagL_lt h i (by omega)
  refine Nat.lt_of_lt_of_le this ?_
  exact Nat.pow_le_pow_right (n := 16) (i := (if i ≤ 4 then i else i - 1)) (j := 7) (by decide) (by split <;> omega)

theorem or_digit (a d : Nat) (ha : a < 268435456) (hd : d < 16) : bits .or .u32 (((16 * a : Nat) : Int)) (d : Int) = ((16 * a + d : Nat) : Int) := by
  rw [u32_or_nat _ _ (by omega) (by omega), show (16 : Nat) = 2 ^ 4 from rfl, ← Nat.two_pow_add_eq_or_of_lt (by omega)]

/-- A line's tag, and its mask. -/
def maskL (L : List Nat) : Nat := if L.getD 2 0 = 120 then 4293001215 else 4294967295

set_option maxRecDepth 100000 in
set_option maxHeartbeats 1000000 in
theorem tag_any (w : World) (S : ByteArray) (hs : 9 ≤ S.size) (hl : S.size ≤ 1000) (hok : tagOk (bts S) = true) : Calls Tryz.prog 40 #[.string S] w fun e w' => e = .returned (.tuple #[.int .u32 (tagL (bts S) 9 : Nat), .int .u32 (maskL (bts S) : Nat)]) ∧ w = w' := by
  have HOK : Hid (tagOk (bts S) = true) := hok
  clear hok
  go_enter Tryz.func40, Tryz.ntmps40
  go_wp2
  go_loop [4, 5] (fun x y => ∃ i t : Nat, x = .int .u32 (t : Int) ∧ y = .int .i64 (i : Int) ∧ i ≤ 9 ∧ Hid (tagL (bts S) i = t)) (fun _ y => 100 - (intOf y).toNat)
  case atStart => exact ⟨0, 0, rfl, rfl, by omega, rfl⟩
  case round =>
    obtain ⟨i, t, rfl, rfl, hi, HT⟩ := hrel
    by_cases hi9 : i < 9
    · have hsz : i < S.size := by omega
      have hb := bts_get S i hsz
      by_cases h4 : i = 4
      · have HN : Hid (tagL (bts S) (i + 1) = t) := by show _ = _; rw [tagL, if_pos h4]; exact HT.out
        have h4i : ((i : Int) != 4) = false := by rw [h4]; rfl
        have HI : Hid (i = 4) := h4
        clear h4 hb
        go_wp2
        exact ⟨⟨i + 1, t, rfl, by simp, by have := HI.out; omega, HN⟩, by simp [intOf]; have := HI.out; omega⟩
      · have hsm := tagL_small HOK.out (i := i) (by omega)
        rw [HT.out] at hsm
        have h4i : ((i : Int) != 4) = true := by exact bne_iff_ne.2 (by omega)
        have hsh : ((t : Int) * 16) % 4294967296 = ((16 * t : Nat) : Int) := by omega
        by_cases hx : (bts S).getD i 0 = 120
        · have HN : Hid (tagL (bts S) (i + 1) = 16 * t) := by show _ = _; rw [tagL, if_neg h4, if_pos hx, HT.out]; rfl
          have hxi : ((S[i].toNat : Int) != 120) = false := by rw [hb, hx]; rfl
          clear hx hb
          go_wp2
          exact ⟨⟨i + 1, 16 * t, by simp; omega, by simp, by omega, HN⟩, by simp [intOf]; omega⟩
        · have hh := tagOk_at HOK.out hi9 h4 hx
          have HN : Hid (tagL (bts S) (i + 1) = 16 * t + hexN ((bts S).getD i 0)) := by show _ = _; rw [tagL, if_neg h4, if_neg hx, HT.out]
          have hxi : ((S[i].toNat : Int) != 120) = true := by rw [hb]; exact bne_iff_ne.2 (by omega)
          have c42 := hex_any w ((bts S).getD i 0) hh
          have hor := or_digit t (hexN ((bts S).getD i 0)) hsm (hexN_lt hh)
          have hhl := hexN_lt hh
          rw [← hb] at c42 hor hhl HN
          generalize hexN S[i].toNat = d at c42 hor hhl HN
          have HOR : Hid (bits .or .u32 ((t : Int) * 16) (d : Int) = ((16 * t + d : Nat) : Int)) := by show _ = _; rw [show (t : Int) * 16 = ((16 * t : Nat) : Int) by omega]; exact hor
          clear hx hb hh hor
          go_wp2_with (first | (go_at_call 56; refine c42.mono ?_; rintro e w' ⟨rfl, rfl⟩) | fail)
          exact ⟨⟨i + 1, 16 * t + d, by rw [HOR.out], by simp, by omega, HN⟩, by simp [intOf]; omega⟩
    · obtain rfl : i = 9 := by omega
      have hb := bts_get S 2 (by omega)
      have h2 : 2 < S.size := by omega
      by_cases hx : (bts S).getD 2 0 = 120
      · have hxi : ((S[2].toNat : Int) == 120) = true := by rw [hb, hx]; rfl
        have HM : Hid (maskL (bts S) = 4293001215) := by show _ = _; unfold maskL; rw [if_pos hx]
        clear hx hb
        go_wp2
        refine bodyPost_ret (v := .tuple #[.int .u32 (t : Int), .int .u32 4293001215]) (by simp [results, Tryz.results40, go_sem]) rfl ⟨?_, rfl⟩
        rw [HM.out, HT.out]
        rfl
      · have hxi : ((S[2].toNat : Int) == 120) = false := by rw [hb]; exact beq_eq_false_iff_ne.2 (by omega)
        have HM : Hid (maskL (bts S) = 4294967295) := by show _ = _; unfold maskL; rw [if_neg hx]
        clear hx hb
        go_wp2
        refine bodyPost_ret (v := .tuple #[.int .u32 (t : Int), .int .u32 4294967295]) (by simp [results, Tryz.results40, go_sem]) rfl ⟨?_, rfl⟩
        rw [HM.out, HT.out]
        rfl

/-- Digits alone, few of them. -/
def digs (S : ByteArray) : Bool := decide (S.size ≤ 9) && (bts S).all (fun x => decide (48 ≤ x) && decide (x ≤ 57))

theorem digs_any (w : World) (S : ByteArray) (h : digs S = true) : Calls Tryz.prog 54 #[.string S] w fun e w' => e = .returned (.int .i64 (decL (bts S) : Nat)) ∧ w = w' := by
  unfold digs at h
  simp only [Bool.and_eq_true, decide_eq_true_eq, List.all_eq_true] at h
  exact dec_any w S h.1 h.2

/-- How many values: at least, at most. -/
def numL (S : ByteArray) : Nat × Nat := if S.size = 1 then (decL (bts S), decL (bts S)) else if (bts S).getD 2 0 = 110 then (decL (bts (S.extract 0 1)), 0) else (decL (bts (S.extract 0 1)), decL (bts (S.extract 2 S.size)))

def numOk (S : ByteArray) : Bool := (decide (S.size = 1) && digs S) || (decide (S.size = 3) && digs (S.extract 0 1) && (decide ((bts S).getD 2 0 = 110) || digs (S.extract 2 S.size)))

set_option maxRecDepth 100000 in
theorem counts_any (w : World) (S : ByteArray) (h : numOk S = true) : Calls Tryz.prog 58 #[.string S] w fun e w' => e = .returned (.tuple #[.int .i64 ((numL S).1 : Nat), .int .i64 ((numL S).2 : Nat)]) ∧ Below w.heap.size w w' := by
  unfold numOk at h
  simp only [Bool.or_eq_true, Bool.and_eq_true, decide_eq_true_eq] at h
  rcases h with ⟨h1, hd⟩ | ⟨⟨h3, hd⟩, h⟩
  · have hn : numL S = (decL (bts S), decL (bts S)) := by unfold numL; rw [if_pos h1]
    rw [hn]
    have c := fun W => digs_any W S hd
    have h1i : ((S.size : Int) == 1) = true := by rw [h1]; rfl
    clear hn hd h1
    go_enter Tryz.func58, Tryz.ntmps58
    go_wp2_with (first | (go_at_call 54; refine (c _).mono ?_; rintro e w' ⟨rfl, rfl⟩) | fail)
    exact bodyPost_ret (by simp [results, Tryz.results58, go_sem]) rfl ⟨rfl, Below.refl _ _⟩
  · have h1i : ((S.size : Int) == 1) = false := by rw [h3]; rfl
    have h3i : (3 : Int) ≤ (S.size : Int) := by omega
    have hb := bts_get S 2 (by omega)
    have h2 : 2 < S.size := by omega
    have c1 := fun W => digs_any W _ hd
    by_cases hx : (bts S).getD 2 0 = 110
    · have hn : numL S = (decL (bts (S.extract 0 1)), 0) := by unfold numL; rw [if_neg (by omega), if_pos hx]
      rw [hn]
      have hxi : ((S[2].toNat : Int) == 110) = true := by rw [hb, hx]; rfl
      clear hn hd h hx hb
      go_enter Tryz.func58, Tryz.ntmps58
      go_wp2_with (first | (go_at_call 54; refine (c1 _).mono ?_; rintro e w' ⟨rfl, rfl⟩) | fail)
      exact bodyPost_ret (by simp [results, Tryz.results58, go_sem]) rfl ⟨rfl, Below.refl _ _⟩
    · have hn : numL S = (decL (bts (S.extract 0 1)), decL (bts (S.extract 2 S.size))) := by unfold numL; rw [if_neg (by omega), if_neg hx]
      rw [h3] at hn h
      rw [hn]
      have hxi : ((S[2].toNat : Int) == 110) = false := by rw [hb]; exact beq_eq_false_iff_ne.2 (by omega)
      have cd : ∀ (A : ByteArray) (W : World), A = S.extract 0 1 ∨ A = S.extract 2 3 → Calls Tryz.prog 54 #[.string A] W fun e w' => e = .returned (.int .i64 (decL (bts A) : Nat)) ∧ W = w' := by
        intro A W hA
        rcases hA with hA | hA
        · rw [hA]; exact digs_any W _ hd
        · rw [hA]; exact digs_any W _ (h.resolve_left hx)
      have h1l : (1 : Int) ≤ (S.size : Int) := by omega
      have h2l : (2 : Int) ≤ (S.size : Int) := by omega
      clear hn hd h hx hb c1
      go_enter Tryz.func58, Tryz.ntmps58
      go_wp2
      refine wp_region_noPanic ?_
      go_region_held3 (fun _ => True) (trivial) (first | (go_at_call 54; refine (cd _ _ ?_).mono ?_; (focus (first | exact .inl rfl | exact .inr rfl)); rintro e w' ⟨rfl, rfl⟩))
      all_goals refine NoPanic.normal ?_
      all_goals go_wp2
      all_goals exact bodyPost_ret (by simp [results, Tryz.results58, go_sem]) rfl ⟨rfl, (Below.refl _ _).drew⟩
end Go.Proofs.YtfoodjhffehgpaaGreatDoor.Tb
end

section
/-
  DERIVED. A line of the document's dictionary, as an entry.
-/
namespace Go.Proofs.YtfoodjhffehgpaaGreatDoor.Tb
open Go Go.Proofs Go.RowKit

/-- A line's word. -/
def wd (S : ByteArray) (j : Nat) : ByteArray := S.extract (wordL (bts S) (S.size + 2) j 0 0).1 (wordL (bts S) (S.size + 2) j 0 0).2

/-- An entry, still empty, as it lies in memory. -/
structure E6 (W : World) (g : Nat) : Prop where
  c0 : W.cell? ⟨g, 0, none⟩ = some (.int .u32 0)
  c1 : W.cell? ⟨g, 1, none⟩ = some (.int .u32 0)
  c2 : W.cell? ⟨g, 2, none⟩ = some (.int .i64 0)
  c3 : W.cell? ⟨g, 3, none⟩ = some (.string ⟨#[]⟩)
  c4 : W.cell? ⟨g, 4, none⟩ = some (.int .i64 0)
  c5 : W.cell? ⟨g, 5, none⟩ = some (.int .i64 0)
  cf : ∀ i, W.frozen? ⟨g, i, none⟩ = false

theorem E6.next {W W' : World} {g : Nat} (h : E6 W g) (hb : Below W.heap.size W W') : E6 W' g :=
  ⟨(hb.cell (cell_lt h.c0)).trans h.c0, (hb.cell (cell_lt h.c1)).trans h.c1, (hb.cell (cell_lt h.c2)).trans h.c2, (hb.cell (cell_lt h.c3)).trans h.c3, (hb.cell (cell_lt h.c4)).trans h.c4, (hb.cell (cell_lt h.c5)).trans h.c5, fun i => (hb.frozen (p := ⟨g, i, none⟩) (show g < _ from cell_lt h.c0)).trans (h.cf i)⟩

theorem E6.sets {W : World} {g : Nat} (h : E6 W g) (x0 x1 x2 x3 x4 x5 : Value) :
    let U := (((((W.setCell ⟨g, 0, none⟩ x0).setCell ⟨g, 1, none⟩ x1).setCell ⟨g, 2, none⟩ x2).setCell ⟨g, 3, none⟩ x3).setCell ⟨g, 4, none⟩ x4).setCell ⟨g, 5, none⟩ x5
    U.cell? ⟨g, 0, none⟩ = some x0 ∧ U.cell? ⟨g, 1, none⟩ = some x1 ∧ U.cell? ⟨g, 2, none⟩ = some x2 ∧ U.cell? ⟨g, 3, none⟩ = some x3 ∧ U.cell? ⟨g, 4, none⟩ = some x4 ∧ U.cell? ⟨g, 5, none⟩ = some x5 := by
  refine ⟨?_, ?_, ?_, ?_, ?_, ?_⟩
  · exact (cell_set_ne (by decide)).trans ((cell_set_ne (by decide)).trans ((cell_set_ne (by decide)).trans ((cell_set_ne (by decide)).trans ((cell_set_ne (by decide)).trans (cell_set_eq h.c0)))))
  · exact (cell_set_ne (by decide)).trans ((cell_set_ne (by decide)).trans ((cell_set_ne (by decide)).trans ((cell_set_ne (by decide)).trans (cell_set_eq ((cell_set_ne (by decide)).trans h.c1)))))
  · exact (cell_set_ne (by decide)).trans ((cell_set_ne (by decide)).trans ((cell_set_ne (by decide)).trans (cell_set_eq ((cell_set_ne (by decide)).trans ((cell_set_ne (by decide)).trans h.c2)))))
  · exact (cell_set_ne (by decide)).trans ((cell_set_ne (by decide)).trans (cell_set_eq ((cell_set_ne (by decide)).trans ((cell_set_ne (by decide)).trans ((cell_set_ne (by decide)).trans h.c3)))))
  · exact (cell_set_ne (by decide)).trans (cell_set_eq ((cell_set_ne (by decide)).trans ((cell_set_ne (by decide)).trans ((cell_set_ne (by decide)).trans ((cell_set_ne (by decide)).trans h.c4)))))
  · exact cell_set_eq ((cell_set_ne (by decide)).trans ((cell_set_ne (by decide)).trans ((cell_set_ne (by decide)).trans ((cell_set_ne (by decide)).trans ((cell_set_ne (by decide)).trans h.c5)))))

/-- A line's entry, as a value. -/
def entV (S : ByteArray) : Value := .agg #[.int .u32 (tagL (bts S) 9 : Nat), .int .u32 (maskL (bts S) : Nat), .int .i64 (fndW (wd S 1) 28 1 : Nat), .string (wd S 3), .int .i64 ((numL (wd S 2)).1 : Nat), .int .i64 ((numL (wd S 2)).2 : Nat)]

set_option maxRecDepth 100000 in
set_option maxHeartbeats 1000000 in
theorem entry_any (w : World) (S : ByteArray) (hs : 9 ≤ S.size) (hl : S.size ≤ 1000) (h1 : tagOk (bts S) = true) (h2 : numOk (wd S 2) = true) : Calls Tryz.prog 41 #[.string S] w fun e w' => e = .returned (entV S) ∧ Below w.heap.size w w' := by
  have c27 := fun W => tag_any W S hs hl h1
  obtain ⟨WF, hWF⟩ : ∃ WF : Int → ByteArray, ∀ i, WF i = wd S i.toNat := ⟨fun i => wd S i.toNat, fun _ => rfl⟩
  have w1 : WF 1 = wd S 1 := hWF 1
  have w2 : WF 2 = wd S 2 := hWF 2
  have w3 : WF 3 = wd S 3 := hWF 3
  have cw : ∀ (i : Int) W, 0 ≤ i ∧ i ≤ 100 → Calls Tryz.prog 55 #[.string S, .int .i64 i] W fun e w' => e = .returned (.string (WF i)) ∧ W = w' := by
    intro i W hi
    have := word_any W S i.toNat (by omega) (by omega)
    rw [show ((i.toNat : Nat) : Int) = i by omega] at this
    rw [hWF]
    exact this
  have c28 := fun W => vrof_any W (wd S 1)
  have c30 := fun W => counts_any W (wd S 2) h2
  unfold entV
  rw [← w1, ← w2, ← w3]
  rw [← w1] at c28
  rw [← w2] at c30
  generalize tagL (bts S) 9 = T at c27 ⊢
  generalize maskL (bts S) = M at c27 ⊢
  generalize fndW (WF 1) 28 1 = V at c28 ⊢
  generalize (numL (WF 2)).1 = L1 at c30 ⊢
  generalize (numL (WF 2)).2 = L2 at c30 ⊢
  clear hWF w1 w2 w3 h1 h2
  obtain ⟨W1, hW1⟩ : ∃ W1, w.alloc (.cells #[.int .u32 0, .int .u32 0, .int .i64 0, .string ⟨#[]⟩, .int .i64 0, .int .i64 0] 58) = W1 := ⟨_, rfl⟩
  have HB1 : Hid (Below w.heap.size w W1) := hW1 ▸ (Below.refl _ _).alloc (Nat.le_refl _) _
  have HE1 : Hid (E6 W1 w.heap.size) := by
    rw [← hW1]
    exact ⟨by simp, by simp, by simp, by simp, by simp, by simp, fun i => by simp⟩
  go_enter Tryz.func41, Tryz.ntmps41
  go_wp2_with (first | (go_at_call 40; refine (c27 _).mono ?_; rintro e w' ⟨rfl, rfl⟩) | (go_at_call 55; refine (cw _ _ ?_).mono ?_; (focus omega); rintro e w' ⟨rfl, rfl⟩) | (go_at_call 57; fail))
  refine (c28 W1).mono ?_
  rintro e W2 ⟨fa, fn, fc, fe, rfl, hb2⟩
  have HB2 : Hid (Below w.heap.size w W2) := HB1.out.trans (hb2.mono HB1.out.size)
  have HE2 : Hid (E6 W2 w.heap.size) := HE1.out.next hb2
  clear hb2 c28 c27 HE1 HB1 hW1
  go_wp2_with (first | (go_at_call 55; refine (cw _ _ ?_).mono ?_; (focus omega); rintro e w' ⟨rfl, rfl⟩) | (go_at_call 58; fail))
  obtain ⟨W3, hW3⟩ : ∃ W3, W2.alloc (.cells #[.slice fa fn fc, .int .i64 fe] 35) = W3 := ⟨_, rfl⟩
  have hb3 : Below W2.heap.size W2 W3 := hW3 ▸ (Below.refl _ _).alloc (Nat.le_refl _) _
  rw [hW3]
  have HB3 : Hid (Below w.heap.size w W3) := HB2.out.trans (hb3.mono HB2.out.size)
  have HE3 : Hid (E6 W3 w.heap.size) := HE2.out.next hb3
  clear hb3 hW3 HE2 HB2
  refine (c30 W3).mono ?_
  rintro e W4 ⟨rfl, hb4⟩
  have HB4 : Hid (Below w.heap.size w W4) := HB3.out.trans (hb4.mono HB3.out.size)
  have HE4 : Hid (E6 W4 w.heap.size) := HE3.out.next hb4
  obtain ⟨e0, e1, e2, e3, e4, e5, ef⟩ := HE4.out
  clear hb4 c30 HE3 HB3
  go_wp2_with (first | (go_at_call 55; refine (cw _ _ ?_).mono ?_; (focus omega); rintro e w' ⟨rfl, rfl⟩) | fail)
  have hU := HE4.out.sets (.int .u32 (T : Int)) (.int .u32 (M : Int)) (.int .i64 (V : Int)) (.string (WF 3)) (.int .i64 (L1 : Int)) (.int .i64 (L2 : Int))
  simp only at hU
  obtain ⟨u0, u1, u2, u3, u4, u5⟩ := hU
  refine bodyPost_ret (v := .agg #[.int .u32 (T : Int), .int .u32 (M : Int), .int .i64 (V : Int), .string (WF 3), .int .i64 (L1 : Int), .int .i64 (L2 : Int)]) (by simp only [results, Tryz.results41]; simp [go_sem, u0, u1, u2, u3, u4, u5]) rfl ⟨rfl, ?_⟩
  exact (((((HB4.out.setCell (p := ⟨w.heap.size, 0, none⟩) (Nat.le_refl _) _).setCell (p := ⟨w.heap.size, 1, none⟩) (Nat.le_refl _) _).setCell (p := ⟨w.heap.size, 2, none⟩) (Nat.le_refl _) _).setCell (p := ⟨w.heap.size, 3, none⟩) (Nat.le_refl _) _).setCell (p := ⟨w.heap.size, 4, none⟩) (Nat.le_refl _) _).setCell (p := ⟨w.heap.size, 5, none⟩) (Nat.le_refl _) _
end Go.Proofs.YtfoodjhffehgpaaGreatDoor.Tb
end
