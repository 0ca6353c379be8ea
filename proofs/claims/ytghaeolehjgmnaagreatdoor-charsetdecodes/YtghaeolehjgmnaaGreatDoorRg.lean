import Derived.Test.YtghaeolehjgmnaaGreatDoorRf
import Derived.Test.YtghaeolehjgmnaaGreatDoorRh
/-
  DERIVED. The rune that bytes begin with: the program and the document say the same.
-/
namespace Go.Proofs.YtghaeolehjgmnaaGreatDoor
open Go Go.Proofs Go.RowKit

theorem plain_kc : ∀ (j : Fin 3) (b : Fin 256), plainR (kdS (2 * j.val)) (b.val : Int) = (decide (32 ≤ b.val ∧ b.val ≤ 126) || (decide (b.val < 32) && ctlS (j.val : Int) b.val)) := by decide +kernel
theorem ends_ke : ∀ (j : Fin 3) (b : Fin 128), hasR (kdS (2 * j.val + 1)) (b.val : Int) = endS (j.val : Int) b.val := by decide +kernel
theorem ends_far : ∀ (j : Fin 3) (b : Fin 256), 128 ≤ b.val → endS (j.val : Int) b.val = false := by decide +kernel
theorem hasR_far (s : ByteArray) {r : Int} (h : 128 ≤ r) : hasR s r = false := by
  unfold hasR
  rw [decide_eq_false (by omega), Bool.false_and]
theorem enc_low {r : Int} (h0 : 0 ≤ r) (h1 : r ≤ 127) : Lib.encodeRuneZ r = [r] := by
  unfold Lib.encodeRuneZ
  rw [if_pos ⟨h0, h1⟩]
theorem mean_bnd : ∀ (k : Fin 7) (d : Fin 96), mean k.val d.val ≠ 0 → 160 ≤ mean k.val d.val ∧ mean k.val d.val < 55296 := by decide +kernel

/-- The bytes, one by one; nothing beyond. -/
def bsT (T : ByteArray) (i : Nat) : Nat := (T.get! i).toNat
theorem bsT_lt (T : ByteArray) (i : Nat) : bsT T i < 256 := (T.get! i).toNat_lt
theorem bsT_at {T : ByteArray} {i : Nat} (h : i < T.size) : bsT T i = (T[i]'h).toNat := by
  unfold bsT
  congr 1
  show T.data[i]! = T.data[i]
  exact getElem!_pos T.data i h

theorem decGo {T : ByteArray} (hz : 0 < T.size) : Lib.decodeGo T = Lib.decodeN T.size (bsT T 0) (bsT T 1) (bsT T 2) (bsT T 3) := by
  unfold Lib.decodeGo
  rw [if_neg (by omega), Lib.decode_at]
  rfl

theorem dec_bytes (n b0 b1 b2 b3 : Nat) (h2 : 2 ≤ (Lib.decodeN n b0 b1 b2 b3).2) :
    (Lib.decodeN n b0 b1 b2 b3).2 ≤ n ∧ Lib.encodeRuneZ ((Lib.decodeN n b0 b1 b2 b3).1 : Nat) = ([(b0 : Int), b1, b2, b3]).take (Lib.decodeN n b0 b1 b2 b3).2 := by
  unfold Lib.decodeN at h2 ⊢
  by_cases c0 : b0 < 128
  · rw [if_pos c0] at h2; simp at h2
  · rw [if_neg c0] at h2 ⊢
    by_cases c1 : b0 / 32 = 6 ∧ (1 < n ∧ b1 / 64 = 2)
    · rw [if_pos c1] at h2 ⊢
      by_cases d1 : b0 % 32 * 64 + b1 % 64 ≥ 128
      · rw [if_pos d1]
        refine ⟨by show 2 ≤ n; omega, ?_⟩
        show Lib.encodeRuneZ ((b0 % 32 * 64 + b1 % 64 : Nat) : Int) = [(b0 : Int), b1]
        unfold Lib.encodeRuneZ
        rw [if_neg (by omega), if_pos (by omega)]
        congr 1
        · omega
        · congr 1
          omega
      · rw [if_neg d1] at h2; simp at h2
    · rw [if_neg c1] at h2 ⊢
      by_cases c2 : b0 / 16 = 14 ∧ (1 < n ∧ b1 / 64 = 2) ∧ (2 < n ∧ b2 / 64 = 2)
      · rw [if_pos c2] at h2 ⊢
        by_cases d1 : b0 % 16 * 4096 + b1 % 64 * 64 + b2 % 64 ≥ 2048 ∧ (b0 % 16 * 4096 + b1 % 64 * 64 + b2 % 64 < 55296 ∨ (57344 ≤ b0 % 16 * 4096 + b1 % 64 * 64 + b2 % 64 ∧ b0 % 16 * 4096 + b1 % 64 * 64 + b2 % 64 ≤ 1114111))
        · rw [if_pos d1]
          refine ⟨by show 3 ≤ n; omega, ?_⟩
          show Lib.encodeRuneZ ((b0 % 16 * 4096 + b1 % 64 * 64 + b2 % 64 : Nat) : Int) = [(b0 : Int), b1, b2]
          unfold Lib.encodeRuneZ
          rw [if_neg (by omega), if_neg (by omega), if_pos (by omega)]
          congr 1
          · omega
          · congr 1
            · omega
            · congr 1
              omega
        · rw [if_neg d1] at h2; simp at h2
      · rw [if_neg c2] at h2 ⊢
        by_cases c3 : b0 / 8 = 30 ∧ (1 < n ∧ b1 / 64 = 2) ∧ (2 < n ∧ b2 / 64 = 2) ∧ (3 < n ∧ b3 / 64 = 2)
        · rw [if_pos c3] at h2 ⊢
          by_cases d1 : b0 % 8 * 262144 + b1 % 64 * 4096 + b2 % 64 * 64 + b3 % 64 ≥ 65536 ∧ (b0 % 8 * 262144 + b1 % 64 * 4096 + b2 % 64 * 64 + b3 % 64 < 55296 ∨ (57344 ≤ b0 % 8 * 262144 + b1 % 64 * 4096 + b2 % 64 * 64 + b3 % 64 ∧ b0 % 8 * 262144 + b1 % 64 * 4096 + b2 % 64 * 64 + b3 % 64 ≤ 1114111))
          · rw [if_pos d1]
            refine ⟨by show 4 ≤ n; omega, ?_⟩
            show Lib.encodeRuneZ ((b0 % 8 * 262144 + b1 % 64 * 4096 + b2 % 64 * 64 + b3 % 64 : Nat) : Int) = [(b0 : Int), b1, b2, b3]
            unfold Lib.encodeRuneZ
            rw [if_neg (by omega), if_neg (by omega), if_neg (by omega), if_pos (by omega)]
            congr 1
            · omega
            · congr 1
              · omega
              · congr 1
                · omega
                · congr 1
                  omega
          · rw [if_neg d1] at h2; simp at h2
        · rw [if_neg c3] at h2; simp at h2

/-- The rune that the universal set takes of bytes. -/
def r1T (T : ByteArray) : Nat × Nat := r1N T.size (bsT T 0) (bsT T 1) (bsT T 2) (bsT T 3)
theorem uni_no {T : ByteArray} (hz : 0 < T.size) (h : (r1T T).2 = 0 ∨ wid ((r1T T).1 : Nat) = false) : uHead T = (0, 0) := by
  unfold uHead
  rw [decGo hz]
  unfold r1T r1N at h
  by_cases c0 : bsT T 0 < 128
  · have : Lib.decodeN T.size (bsT T 0) (bsT T 1) (bsT T 2) (bsT T 3) = (bsT T 0, 1) := by unfold Lib.decodeN; rw [if_pos c0]
    rw [this]; simp
  · rw [if_neg c0] at h
    by_cases c1 : (Lib.decodeN T.size (bsT T 0) (bsT T 1) (bsT T 2) (bsT T 3)).2 < 2
    · rw [if_pos (by simp [c1])]
    · rw [if_neg c1] at h
      have : wid ((Lib.decodeN T.size (bsT T 0) (bsT T 1) (bsT T 2) (bsT T 3)).1 : Nat) = false := h.resolve_left (by omega)
      rw [if_pos (by rw [this]; simp)]
theorem uni_yes {T : ByteArray} (hz : 0 < T.size) (h : (r1T T).2 ≠ 0) (hw : wid ((r1T T).1 : Nat) = true) :
    uHead T = r1T T ∧ 2 ≤ (r1T T).2 ∧ (r1T T).2 ≤ 4 ∧ (r1T T).2 ≤ T.size ∧ Lib.encodeRuneZ ((r1T T).1 : Nat) = ([(bsT T 0 : Int), bsT T 1, bsT T 2, bsT T 3]).take (r1T T).2 := by
  unfold uHead
  have h4 := Lib.decodeGo_le4 T
  rw [decGo hz] at h4 ⊢
  unfold r1T r1N at h hw ⊢
  by_cases c0 : bsT T 0 < 128
  · rw [if_pos c0] at hw
    exfalso
    unfold wid at hw
    simp at hw
    omega
  · rw [if_neg c0] at h hw ⊢
    by_cases c1 : (Lib.decodeN T.size (bsT T 0) (bsT T 1) (bsT T 2) (bsT T 3)).2 < 2
    · rw [if_pos c1] at h; simp at h
    · rw [if_neg c1] at h hw ⊢
      have := dec_bytes T.size (bsT T 0) (bsT T 1) (bsT T 2) (bsT T 3) (by omega)
      exact ⟨by rw [if_neg (by rw [hw]; simp; omega)], by omega, h4, this.1, this.2⟩
end Go.Proofs.YtghaeolehjgmnaaGreatDoor
