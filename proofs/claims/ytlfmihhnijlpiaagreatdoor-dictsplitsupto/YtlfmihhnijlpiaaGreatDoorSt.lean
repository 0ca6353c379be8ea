import Derived.Test.YtlfmihhnijlpiaaGreatDoorSr
/-
  DERIVED. What the law leans on: three lists that share nothing; sizes.
-/
namespace Go.Proofs.YtlfmihhnijlpiaaGreatDoor.Sp
open Go Go.Proofs Go.RowKit
open Wk (cell_lt own_keep Stop)

theorem bl {a b c : World} (h : Below a.heap.size a b) (h2 : Below b.heap.size b c) : Below a.heap.size a c := h.trans (h2.mono h.size)
theorem own_form {w : World} {B : Nat} {v : Value} {T : List ByteArray} (h : w.ownsRow B 9 1 v T.length (u8s T)) : ∃ a cap, v = .slice a T.length cap ∧ (0 < T.length → ∃ g, a = some ⟨g, 0, none⟩) := by
  by_cases h0 : 0 < T.length
  · obtain ⟨g, cap, rfl, -, -⟩ := h.form h0
    exact ⟨_, cap, rfl, fun _ => ⟨g, rfl⟩⟩
  · rcases h.2 with ⟨h1, h2⟩ | ⟨g, cap, cur, rfl, _⟩
    · refine ⟨none, 0, ?_, fun q => absurd q h0⟩
      rw [h1]; congr 1; omega
    · exact ⟨_, cap, rfl, fun _ => ⟨g, rfl⟩⟩

def u3 (x1 x2 x3 : Value) (i : Nat) : Value := match i with
  | 0 => x1
  | 1 => x2
  | _ => x3
def t3 (T1 T2 T3 : List ByteArray) (i : Nat) : List ByteArray := match i with
  | 0 => T1
  | 1 => T2
  | _ => T3
/-- freeTexts of three lists, each made behind the other. -/
theorem free3 {W w1 w2 w3 w9 : World} {x1 x2 x3 : Value} {T1 T2 T3 : List ByteArray} (h1 : w1.ownsRow W.heap.size 9 1 x1 T1.length (u8s T1)) (h2 : w2.ownsRow w1.heap.size 9 1 x2 T2.length (u8s T2)) (h3 : w3.ownsRow w2.heap.size 9 1 x3 T3.length (u8s T3))
    (r0 : W.heap.size ≤ w1.heap.size) (r1 : Below w1.heap.size w1 w2) (r2 : Below w2.heap.size w2 w3) (r3 : Below w3.heap.size w3 w9) (l1 : T1.length ≤ 4000000) (l2 : T2.length ≤ 4000000) (l3 : T3.length ≤ 4000000) :
    Calls Tryz.prog 7 #[.slice (some ⟨w9.heap.size, 0, none⟩) 3 3] (w9.alloc (.cells #[x1, x2, x3] 23)) fun e w' => e = .returned (.bool true) ∧ Hid (Below W.heap.size (w9.alloc (.cells #[x1, x2, x3] 23)) w') := by
  have s1 := r1.size
  have s2 := r2.size
  have s3 := r3.size
  have hA : Below w9.heap.size w9 (w9.alloc (.cells #[x1, x2, x3] 23)) := (Below.refl _ _).alloc (Nat.le_refl _) _
  have k1 := Wk.ownsRow_below h1 (bl r1 (bl r2 (bl r3 hA))) (Nat.le_refl _)
  have k2 := Wk.ownsRow_below h2 (bl r2 (bl r3 hA)) (Nat.le_refl _)
  have k3 := Wk.ownsRow_below h3 (bl r3 hA) (Nat.le_refl _)
  have b1 : ∀ g, x1.ownBlock = some g → W.heap.size ≤ g ∧ g < w1.heap.size := fun g hg => h1.lt g hg
  have b2 : ∀ g, x2.ownBlock = some g → w1.heap.size ≤ g ∧ g < w2.heap.size := fun g hg => h2.lt g hg
  have b3 : ∀ g, x3.ownBlock = some g → w2.heap.size ≤ g ∧ g < w3.heap.size := fun g hg => h3.lt g hg
  have hblk : ∀ i, i < 3 → ∀ g, (u3 x1 x2 x3 i).ownBlock = some g → W.heap.size ≤ g ∧ g < w9.heap.size := fun i hi g hg => by
    match i, hi with
    | 0, _ => have := b1 g hg; omega
    | 1, _ => have := b2 g hg; omega
    | 2, _ => have := b3 g hg; omega
  have hF : Fam 3 w9.heap.size W.heap.size (u3 x1 x2 x3) (fun i => (t3 T1 T2 T3 i).length) := by
    refine ⟨by decide, fun i hi => ?_, fun i hi => ?_, fun i j hi hj hne g hg hg2 => ?_, fun i hi hg => ?_⟩
    · match i, hi with
      | 0, _ => exact own_form h1
      | 1, _ => exact own_form h2
      | 2, _ => exact own_form h3
    · match i, hi with
      | 0, _ => exact l1
      | 1, _ => exact l2
      | 2, _ => exact l3
    · match i, j, hi, hj with
      | 0, 0, _, _ => exact hne rfl
      | 1, 1, _, _ => exact hne rfl
      | 2, 2, _, _ => exact hne rfl
      | 0, 1, _, _ => have := b1 g hg; have := b2 g hg2; omega
      | 1, 0, _, _ => have := b2 g hg; have := b1 g hg2; omega
      | 0, 2, _, _ => have := b1 g hg; have := b3 g hg2; omega
      | 2, 0, _, _ => have := b3 g hg; have := b1 g hg2; omega
      | 1, 2, _, _ => have := b2 g hg; have := b3 g hg2; omega
      | 2, 1, _, _ => have := b3 g hg; have := b2 g hg2; omega
    · have := hblk i hi _ hg; omega
  have h0 : FA (w9.alloc (.cells #[x1, x2, x3] 23)) 3 w9.heap.size W.heap.size (u3 x1 x2 x3) (t3 T1 T2 T3) (w9.alloc (.cells #[x1, x2, x3] 23)) := by
    refine ⟨fun i hi => ?_, fun i hi => ?_, KR.refl _ _ _⟩
    · match i, hi with
      | 0, _ => simp [u3]
      | 1, _ => simp [u3]
      | 2, _ => simp [u3]
    · match i, hi with
      | 0, _ => exact k1
      | 1, _ => exact Wk.own_base k2 r0
      | 2, _ => exact Wk.own_base k3 (by omega)
  refine (free_any _ 3 w9.heap.size W.heap.size 3 _ _ _ hF h0 (fun _ _ => rfl) (by rw [Wk.size_alloc]; omega)).mono fun e w' ⟨he, hk⟩ => ⟨he, hk.os, hk.tape, hk.output, hk.size, fun k hlt => hk.block k (by rw [Wk.size_alloc]; omega) (fun i hi q => ?_)⟩
  have := hblk i hi k q
  omega

def tot (xs : List ByteArray) : Nat := (xs.map (·.size)).sum
theorem jnL_len (sep : ByteArray) (hs : sep.size ≤ 1) : ∀ xs : List ByteArray, (jnL xs sep).length ≤ tot xs + xs.length
  | [] => by simp [jnL, Lib.join_nil]
  | x :: r => by
      unfold jnL
      rw [List.map_cons, join_head]
      have ht : (Lib.joinTail sep.data.toList (r.map (·.data.toList))).length ≤ tot r + r.length := by
        clear x
        induction r with
        | nil => simp [Lib.joinTail]
        | cons y r ih =>
          have e1 : sep.data.toList.length = sep.size := by rw [Array.length_toList]; rfl
          have e2 : y.data.toList.length = y.size := by rw [Array.length_toList]; rfl
          simp only [Lib.joinTail, List.map_cons, List.flatten_cons, List.length_append, tot, List.sum_cons, List.length_cons] at ih ⊢
          omega
      have e2 : x.data.toList.length = x.size := by rw [Array.length_toList]; rfl
      rw [List.length_append, e2]
      simp only [tot, List.map_cons, List.sum_cons, List.length_cons] at ht ⊢
      omega
theorem tot_mem : ∀ {xs : List ByteArray} {x : ByteArray}, x ∈ xs → x.size ≤ tot xs
  | y :: r, x, h => by
      rcases List.mem_cons.1 h with rfl | h
      · simp only [tot, List.map_cons, List.sum_cons]; omega
      · have := tot_mem h
        simp only [tot, List.map_cons, List.sum_cons] at this ⊢
        omega
theorem Jz.of {xs : List ByteArray} (hn : xs.length ≤ 2000000) (ht : tot xs ≤ 2000000) : Jz xs :=
  ⟨by omega, fun x hx => by have := tot_mem hx; omega, by have := jnL_len bsl (by decide) xs; omega, by have := jnL_len mty (by decide) xs; omega⟩
theorem RErr.shape {w : World} {f : Value} {c p : Int} (h : RErr w f c p) : ∃ a n cap z, f = .agg #[.slice a n cap, .int .i64 z] := by
  by_cases hc : c = 0
  · exact ⟨_, _, _, _, h.zer hc⟩
  · obtain ⟨g, cg, h1, _⟩ := h.non hc
    exact ⟨_, _, _, _, h1⟩
end Go.Proofs.YtlfmihhnijlpiaaGreatDoor.Sp
