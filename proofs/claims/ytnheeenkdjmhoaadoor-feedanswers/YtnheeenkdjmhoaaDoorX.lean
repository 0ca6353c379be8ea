import Derived.Test.YtnheeenkdjmhoaaDoorV
/-
  DERIVED. The acknowledgement's segments and fields: pure.
-/
namespace Go.Proofs.YtnheeenkdjmhoaaDoor
open Go Go.Proofs Go.RowKit

theorem esc1_mem {c b : UInt8} (h : b ∈ esc1 c) : b ≠ 124 ∧ (32 ≤ c.toNat → b ≠ 13) := by
  unfold esc1 at h
  split at h
  · simp only [List.mem_cons, List.not_mem_nil, or_false] at h; rcases h with rfl | rfl | rfl <;> exact ⟨by decide, fun _ => by decide⟩
  · next h1 =>
    split at h
    · simp only [List.mem_cons, List.not_mem_nil, or_false] at h; rcases h with rfl | rfl | rfl <;> exact ⟨by decide, fun _ => by decide⟩
    · split at h
      · simp only [List.mem_cons, List.not_mem_nil, or_false] at h; rcases h with rfl | rfl | rfl <;> exact ⟨by decide, fun _ => by decide⟩
      · split at h
        · simp only [List.mem_cons, List.not_mem_nil, or_false] at h; rcases h with rfl | rfl | rfl <;> exact ⟨by decide, fun _ => by decide⟩
        · split at h
          · simp only [List.mem_cons, List.not_mem_nil, or_false] at h; rcases h with rfl | rfl | rfl <;> exact ⟨by decide, fun _ => by decide⟩
          · simp at h; subst h
            refine ⟨h1, fun h32 he => ?_⟩
            subst he
            revert h32; decide
theorem escL_124 (l : List UInt8) : ∀ b ∈ escL l, b ≠ 124 := by
  intro b hb
  obtain ⟨c, _, hc⟩ := List.mem_flatMap.1 hb
  exact (esc1_mem hc).1
theorem escL_13 {s : ByteArray} (h : okB s) : ∀ b ∈ escL (tl s), b ≠ 13 := by
  intro b hb
  obtain ⟨c, hm, hc⟩ := List.mem_flatMap.1 hb
  refine (esc1_mem hc).2 ?_
  obtain ⟨i, hi, rfl⟩ := List.getElem_of_mem hm
  rw [tl_len] at hi
  rw [tl_get s i hi]
  exact (h i hi).1

def mshA : List UInt8 := [77, 83, 72, 124, 94, 126, 92, 38, 124]
def mshB : List UInt8 := [77, 79, 68, 65, 76, 73, 84, 89]
def ackW : List UInt8 := [65, 67, 75]
def verW : List UInt8 := [50, 46, 51, 46, 49]
def msaW : List UInt8 := [77, 83, 65]
/-- The header, the acknowledgement. -/
def seg0 (c : List UInt8) : List UInt8 := mshA ++ (mshB ++ [124, 124, 124, 124, 124, 124] ++ ackW ++ [124] ++ c ++ [124, 80, 124] ++ verW)
def seg1 (c d x : List UInt8) : List UInt8 := msaW ++ 124 :: (d ++ 124 :: (c ++ 124 :: x))
theorem ackT_segs (c d x : List UInt8) : ackT c d x = seg0 (escL c) ++ 13 :: (seg1 (escL c) d (escL x) ++ 13 :: []) := by
  simp [ackT, seg0, seg1, mshA, mshB, ackW, verW, msaW]
theorem fields1 (c d x : List UInt8) (hc : ∀ b ∈ c, b ≠ 124) (hd : ∀ b ∈ d, b ≠ 124) (hx : ∀ b ∈ x, b ≠ 124) : cutU 124 (seg1 c d x) = [msaW, d, c, x] := by
  unfold seg1
  rw [cutU_at 124 msaW _ (by decide), cutU_at 124 d _ hd, cutU_at 124 c _ hc, cutU_none 124 x hx]
theorem fields0 (c : List UInt8) (hc : ∀ b ∈ c, b ≠ 124) : cutU 124 ((seg0 c).drop 9) = [mshB, [], [], [], [], [], ackW, c, [80], verW] := by
  have e : (seg0 c).drop 9 = mshB ++ 124 :: ([] ++ 124 :: ([] ++ 124 :: ([] ++ 124 :: ([] ++ 124 :: ([] ++ 124 :: (ackW ++ 124 :: (c ++ 124 :: ([80] ++ 124 :: verW)))))))) := by
    unfold seg0
    rw [show (9 : Nat) = mshA.length from rfl, List.drop_left]
    simp
  rw [e, cutU_at 124 mshB _ (by decide), cutU_at 124 [] _ (by simp), cutU_at 124 [] _ (by simp), cutU_at 124 [] _ (by simp), cutU_at 124 [] _ (by simp), cutU_at 124 [] _ (by simp), cutU_at 124 ackW _ (by decide), cutU_at 124 c _ hc, cutU_at 124 [80] _ (by decide), cutU_none 124 verW (by decide)]
/-- The fields of an acknowledgement. -/
def ackL (c d x : List UInt8) : Segs := [[[77, 83, 72], [124], [94, 126, 92, 38], mshB, [], [], [], [], [], ackW, c, [80], verW], [msaW, d, c, x]]

theorem code_mem {d : ByteArray} (h : CodeOK d) : ∀ b ∈ tl d, b ≠ 124 ∧ b ≠ 13 := by
  rcases h with rfl | rfl | rfl
  · show ∀ b ∈ ([65, 65] : List UInt8), _; decide
  · show ∀ b ∈ ([65, 69] : List UInt8), _; decide
  · show ∀ b ∈ ([65, 82] : List UInt8), _; decide
theorem ack_split (c d x t : ByteArray) (h1 : c.size ≤ 20 ∧ okB c) (h2 : CodeOK d) (h4 : okB x) (ht : tl t = ackT (tl c) (tl d) (tl x)) : SplO (tl t) none (ackL (escL (tl c)) (tl d) (escL (tl x))) := by
  have hc124 := escL_124 (tl c)
  have hx124 := escL_124 (tl x)
  have hc13 := escL_13 h1.2
  have hx13 := escL_13 h4
  have hd := code_mem h2
  obtain ⟨C, hC⟩ : ∃ C, escL (tl c) = C := ⟨_, rfl⟩
  obtain ⟨X, hX⟩ : ∃ X, escL (tl x) = X := ⟨_, rfl⟩
  obtain ⟨D, hD⟩ : ∃ D, tl d = D := ⟨_, rfl⟩
  rw [ackT_segs, hC, hX, hD] at ht
  rw [hC] at hc124 hc13
  rw [hX] at hx124 hx13
  rw [hD] at hd
  rw [ht, hC, hX, hD]
  have hs0 : ∀ b ∈ seg0 C, b ≠ 13 := by
    intro b hb
    unfold seg0 at hb
    simp only [List.mem_append] at hb
    rcases hb with hb | (((((hb | hb) | hb) | hb) | hb) | hb) | hb
    · revert b; decide
    · revert b; decide
    · revert b; decide
    · revert b; decide
    · revert b; decide
    · exact hc13 b hb
    · revert b; decide
    · revert b; decide
  have hs1 : ∀ b ∈ seg1 C D X, b ≠ 13 := by
    intro b hb
    unfold seg1 at hb
    simp only [List.mem_append, List.mem_cons] at hb
    rcases hb with hb | hb | hb | hb | hb | hb | hb
    · revert b; decide
    · subst hb; decide
    · exact (hd b hb).2
    · subst hb; decide
    · exact hc13 b hb
    · subst hb; decide
    · exact hx13 b hb
  have htr : trimL (seg0 C ++ 13 :: (seg1 C D X ++ [13])) = seg0 C ++ 13 :: (seg1 C D X ++ [13]) := rfl
  have hf : fOf (seg0 C ++ 13 :: (seg1 C D X ++ [13])) = 124 := rfl
  have hmk : mkOf (seg0 C ++ 13 :: (seg1 C D X ++ [13])) = [124, 94, 126, 92, 38] := rfl
  refine SplO.good _ ?_ ?_
  · rw [htr]
    refine ⟨?_, rfl, ?_, rfl⟩
    · simp [seg0, mshA]
    · exact ourM_ok
  · rw [hf, hmk, cutU_at 13 _ _ hs0, cutU_at 13 _ _ hs1]
    have h0 : trimL (seg0 C) = seg0 C := rfl
    have h1' : trimL (seg1 C D X) = seg1 C D X := rfl
    have g0 : isSegB 124 (seg0 C) = true := by
      have : 3 ≤ (seg0 C).length := by simp [seg0, mshA]
      simp only [isSegB, this, decide_true, Bool.true_and]
      simp [seg0, mshA]
    have g1 : isSegB 124 (seg1 C D X) = true := by
      have : 3 ≤ (seg1 C D X).length := by simp [seg1, msaW]
      simp only [isSegB, this, decide_true, Bool.true_and]
      simp [seg1, msaW]
    rw [segGo_cons, h0, if_neg (by simp [seg0, mshA]), if_neg (by rw [g0]; simp), if_pos rfl]
    rw [segGo_cons, h1', if_neg (by simp [seg1, msaW]), if_neg (by rw [g1]; simp), if_neg (by simp)]
    have e3 : cutU 13 ([] : List UInt8) = [[]] := rfl
    rw [e3, segGo_cons, if_pos (show trimL [] = [] from rfl)]
    unfold headF
    rw [fields0 C hc124, fields1 C D X hc124 (fun b hb => (hd b hb).1) hx124]
    rfl
end Go.Proofs.YtnheeenkdjmhoaaDoor
