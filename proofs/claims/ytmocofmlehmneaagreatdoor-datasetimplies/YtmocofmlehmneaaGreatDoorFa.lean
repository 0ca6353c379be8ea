import Derived.Test.YtmocofmlehmneaaGreatDoorTR
/-
  DERIVED. A tag, looked up in two ways: plain functions.
-/
namespace Go.Proofs.YtmocofmlehmneaaGreatDoor.Tb

/-- The last tag of a part. -/
def lastOf : Nat → Nat
  | 0 => 524287
  | 1 => 528383
  | 2 => 1048575
  | 3 => 1572863
  | 4 => 3276799
  | 5 => 4194303
  | 6 => 4194880
  | 7 => 4198399
  | 8 => 7340031
  | _ => 4294967295
def hit (t : Nat) (r : Row) : Bool := decide (t &&& maskN r.t = r.t)
/-- A tag lies in a part. -/
def InPart (t k : Nat) : Prop := k < 10 ∧ t ≤ lastOf k ∧ (∀ j, j < k → lastOf j < t)
def docF (t : Nat) : List Row → Option Row
  | [] => none
  | r :: rs => if hit t r then some r else if t < r.t then none else docF t rs
theorem hit_le {t : Nat} {r : Row} (h : hit t r = true) : r.t ≤ t := by
  have h1 : t &&& maskN r.t = r.t := by simpa [hit] using h
  rw [← h1]
  exact Nat.and_le_left
theorem hit_eq {t : Nat} {r : Row} (h : hit t r = true) (ht : t < 4294967296) (hm : r.t / 65536 ≠ 24576) : r.t = t := by
  have h1 : t &&& maskN r.t = r.t := by simpa [hit] using h
  rw [← h1]
  unfold maskN
  rw [if_neg hm, show (4294967295 : Nat) = 2 ^ 32 - 1 from rfl, Nat.and_two_pow_sub_one_eq_mod]
  exact Nat.mod_eq_of_lt (by simpa using ht)
theorem docF_find (t : Nat) : ∀ L : List Row, L.Pairwise (fun a b => a.t < b.t) → docF t L = L.find? (hit t)
  | [], _ => rfl
  | r :: rs, h => by
    rw [List.pairwise_cons] at h
    rw [docF, List.find?_cons]
    cases hr : hit t r with
    | true => rfl
    | false =>
      simp only [Bool.false_eq_true, if_false]
      by_cases hlt : t < r.t
      · rw [if_pos hlt]
        symm
        rw [List.find?_eq_none]
        intro x hx hh
        have := hit_le hh
        have := h.1 x hx
        omega
      · rw [if_neg hlt]
        exact docF_find t rs h.2
theorem rises : (upTo 10).Pairwise (fun a b => a.t < b.t) := by decide +kernel
def lowOf : Nat → Nat
  | 0 => 0
  | k + 1 => lastOf k + 1
theorem bounds_all : ∀ j : Fin 10, (partRows j.val).all (fun r => decide (lowOf j.val ≤ r.t) && decide (r.t ≤ lastOf j.val) && (decide (j.val = 9) || decide (r.t / 65536 ≠ 24576))) = true := by decide +kernel
theorem low_last : ∀ j k : Fin 10, j.val < k.val → lastOf j.val < lowOf k.val := by decide
theorem no_other {t k j : Nat} (ht : t < 4294967296) (hk : InPart t k) (hj : j < 10) (hne : j ≠ k) : (partRows j).find? (hit t) = none := by
  obtain ⟨k1, k2, k3⟩ := hk
  have hb := bounds_all ⟨j, hj⟩
  rw [List.find?_eq_none]
  intro r hr hh
  have h1 := List.all_eq_true.1 hb r hr
  simp only [Bool.and_eq_true, Bool.or_eq_true, decide_eq_true_eq] at h1
  obtain ⟨⟨h2, h3⟩, h4⟩ := h1
  have hle := hit_le hh
  by_cases h9 : j = 9
  · have h5 := low_last ⟨k, k1⟩ ⟨j, hj⟩ (by simp only; omega)
    simp only at h5
    omega
  · have he := hit_eq hh ht (h4.resolve_left h9)
    rcases Nat.lt_or_gt_of_ne hne with h | h
    · have := k3 j h
      omega
    · have h5 := low_last ⟨k, k1⟩ ⟨j, hj⟩ h
      simp only at h5
      omega
theorem find_upTo {t k : Nat} (ht : t < 4294967296) (hk : InPart t k) : ∀ n, n ≤ 10 → (upTo n).find? (hit t) = if k < n then (partRows k).find? (hit t) else none
  | 0, _ => by simp [upTo]
  | n + 1, hn => by
    rw [upTo_succ, List.find?_append, find_upTo ht hk n (by omega)]
    by_cases h1 : k < n
    · rw [if_pos h1, if_pos (by omega), no_other (j := n) ht hk (by omega) (by omega)]
      cases (partRows k).find? (hit t) <;> rfl
    · rw [if_neg h1]
      by_cases h2 : k = n
      · subst h2
        rw [if_pos (by omega)]
        rfl
      · rw [if_neg (by omega), no_other (j := n) ht hk (by omega) (by omega)]
        rfl
/-- Both ways to look a tag up find the same. -/
theorem find_both {t k : Nat} (ht : t < 4294967296) (hk : InPart t k) : docF t (upTo 10) = (partRows k).find? (hit t) := by
  rw [docF_find t _ rises, find_upTo ht hk 10 (Nat.le_refl _), if_pos hk.1]
end Go.Proofs.YtmocofmlehmneaaGreatDoor.Tb

/-
  DERIVED. The part of the program's dictionary in which a tag lies.
-/
namespace Go.Proofs.YtmocofmlehmneaaGreatDoor.Tb
open Go Go.Proofs Go.RowKit Go.Shelf

theorem parts_cells : ∀ (k : Fin 10), partsC[2 * k.val]? = some (.int .u32 ((lastOf k.val : Nat) : Int)) ∧ partsC[2 * k.val + 1]? = some (.func (.func (98 + k.val)) #[] #[])
  | ⟨0, _⟩ => ⟨rfl, rfl⟩
  | ⟨1, _⟩ => ⟨rfl, rfl⟩
  | ⟨2, _⟩ => ⟨rfl, rfl⟩
  | ⟨3, _⟩ => ⟨rfl, rfl⟩
  | ⟨4, _⟩ => ⟨rfl, rfl⟩
  | ⟨5, _⟩ => ⟨rfl, rfl⟩
  | ⟨6, _⟩ => ⟨rfl, rfl⟩
  | ⟨7, _⟩ => ⟨rfl, rfl⟩
  | ⟨8, _⟩ => ⟨rfl, rfl⟩
  | ⟨9, _⟩ => ⟨rfl, rfl⟩
  | ⟨n + 10, h⟩ => absurd h (by omega)
theorem part_cell {W : World} {B : Nat} (h : W.heap[B]? = some (.cells partsC 146 (0, 0))) (k : Nat) (hk : k < 10) :
    W.cell? ⟨B, k * 2, none⟩ = some (.int .u32 ((lastOf k : Nat) : Int)) ∧ W.cell? ⟨B, k * 2 + 1, none⟩ = some (.func (.func (98 + k)) #[] #[]) := by
  have h1 := parts_cells ⟨k, hk⟩
  simp only at h1
  rw [Nat.mul_comm] at h1
  exact ⟨(by simp [World.cell?, h, h1.1]), (by simp [World.cell?, h, h1.2])⟩

theorem alloc3 (w : World) (a b c : Obj) : (((w.alloc a).alloc b).alloc c).heap[w.heap.size + 1 + 1]? = some c := by
  have := World.alloc_heap_new ((w.alloc a).alloc b) c
  rwa [World.size_alloc, World.size_alloc] at this
theorem setRow3 (w : World) (a b : Obj) (c c' : Array Value) (t : TypeId) : (((w.alloc a).alloc b).alloc (.cells c t)).setRow (w.heap.size + 1 + 1) c' = ((w.alloc a).alloc b).alloc (.cells c' t) := by
  have := World.setRow_alloc_new ((w.alloc a).alloc b) c c' t
  rwa [World.size_alloc, World.size_alloc] at this

set_option maxRecDepth 100000 in
set_option maxHeartbeats 2000000 in
theorem partOf_any (w : World) (t : Nat) (ht : t < 4294967296) : Calls Tryz.prog 52 #[.int .u32 (t : Int)] w fun e w' => ∃ (k : Nat) (T : Int), e = .returned (.agg #[.int .u32 T, .func (.func (98 + k)) #[] #[]]) ∧ Hid (InPart t k) ∧ Below w.heap.size w w' := by
  have c46 := fun W => parts_any W
  obtain ⟨PC, hPC⟩ : ∃ PC, partsC = PC := ⟨_, rfl⟩
  have hcell : ∀ {W : World} {B : Nat}, W.heap[B]? = some (.cells PC 146 (0, 0)) → ∀ (k : Nat), k < 10 → W.cell? ⟨B, k * 2, none⟩ = some (.int .u32 ((lastOf k : Nat) : Int)) ∧ W.cell? ⟨B, k * 2 + 1, none⟩ = some (.func (.func (98 + k)) #[] #[]) := fun h => part_cell (by rw [hPC]; exact h)
  have HC : Hid _ := @hcell
  have hs1 : (Tryz.prog.info? 146).map (·.size) = some PC.size := by rw [← hPC]; kernel_rfl
  have hs2 : PC.all (·.oneCell') = true := by rw [← hPC]; kernel_rfl
  have hs3 : (20 : Nat) = PC.size := by rw [← hPC]; rfl
  rw [hPC] at c46
  clear hPC hcell
  go_enter Tryz.func52, Tryz.ntmps52
  go_wp2_with (first | (go_at_call 71; refine (c46 _).mono ?_; rintro e W1 ⟨rfl, rfl⟩) | (refine wpList_store_rowTo rfl 146 (.tmp 3) (.tmp 5) rfl rfl (w.heap.size + 1 + 1) PC rfl rfl 146 _ (alloc3 _ _ _ _) hs1 hs3 hs2 ?_))
  rw [setRow3]
  obtain ⟨V, hV⟩ : ∃ V, ((w.alloc (.cells #[.int .u32 0, .nilFunc] 111)).alloc (.cells PC 146)).alloc (.cells PC 146) = V := ⟨_, rfl⟩
  rw [hV]
  have hb1 : Below (w.heap.size + 1) (w.alloc (.cells #[.int .u32 0, .nilFunc] 111)) V := by rw [← hV]; exact ((Below.refl _ _).alloc (by simp) _).alloc (by simp) _
  have HB : Hid (Below w.heap.size w V) := ((Below.refl _ _).alloc (Nat.le_refl _) _).trans (hb1.mono (by omega))
  have hat := HC.out (W := V) (B := w.heap.size + 1 + 1) (by rw [← hV]; exact alloc3 _ _ _ _)
  have r0 : V.cell? ⟨w.heap.size, 0, none⟩ = some (.int .u32 0) := (hb1.cell (p := ⟨w.heap.size, 0, none⟩) (Nat.lt_succ_self _)).trans (by simp)
  have r1 : V.cell? ⟨w.heap.size, 1, none⟩ = some .nilFunc := (hb1.cell (p := ⟨w.heap.size, 1, none⟩) (Nat.lt_succ_self _)).trans (by simp)
  have rf : ∀ i, V.frozen? ⟨w.heap.size, i, none⟩ = false := fun i => (hb1.frozen (p := ⟨w.heap.size, i, none⟩) (Nat.lt_succ_self _)).trans (by simp)
  clear hV hs1 hs2 hs3 HC c46 hb1
  have HA : Hid _ := hat
  clear hat
  go_wp2
  go_loop [4] (fun x => ∃ k : Nat, x = .int .i64 (k : Int) ∧ k < 10 ∧ Hid (∀ j, j < k → lastOf j < t)) (fun x => 100 - (intOf x).toNat)
  case atStart => exact ⟨0, rfl, by omega, fun j hj => absurd hj (by omega)⟩
  case round =>
    obtain ⟨k, rfl, hk, HK⟩ := hrel
    obtain ⟨c0, c1⟩ := HA.out k hk
    by_cases hlt : lastOf k < t
    · have hkI : decide (((lastOf k : Nat) : Int) < (t : Int)) = true := by simp; omega
      have hk9 : k < 9 := by
        by_cases h9 : k < 9
        · exact h9
        · obtain rfl : k = 9 := by omega
          have : (4294967295 : Nat) < t := hlt
          omega
      have HK2 : Hid (∀ j, j < k + 1 → lastOf j < t) := by
        intro j hj
        by_cases h : j = k
        · rw [h]; exact hlt
        · exact HK.out j (by omega)
      generalize lastOf k = X at c0 hkI hlt
      go_wp2
      exact ⟨⟨k + 1, by simp, by omega, HK2⟩, by simp [intOf]; omega⟩
    · have hkI : decide (((lastOf k : Nat) : Int) < (t : Int)) = false := by simp; omega
      have HI : Hid (InPart t k) := ⟨hk, by omega, HK.out⟩
      generalize lastOf k = X at c0 hkI hlt
      go_wp2
      refine bodyPost_ret (v := .agg #[.int .u32 (X : Int), .func (.func (98 + k)) #[] #[]]) ?_ rfl ⟨k, ⟨X, rfl⟩, HI, (HB.out.setCell (p := ⟨w.heap.size, 0, none⟩) (Nat.le_refl _) _).setCell (p := ⟨w.heap.size, 1, none⟩) (Nat.le_refl _) _⟩
      have u0 : ((V.setCell ⟨w.heap.size, 0, none⟩ (.int .u32 (X : Int))).setCell ⟨w.heap.size, 1, none⟩ (.func (.func (98 + k)) #[] #[])).cell? ⟨w.heap.size, 0, none⟩ = some (.int .u32 (X : Int)) := (cell_set_ne (by decide)).trans (cell_set_eq r0)
      have u1 : ((V.setCell ⟨w.heap.size, 0, none⟩ (.int .u32 (X : Int))).setCell ⟨w.heap.size, 1, none⟩ (.func (.func (98 + k)) #[] #[])).cell? ⟨w.heap.size, 1, none⟩ = some (.func (.func (98 + k)) #[] #[]) := cell_set_eq ((cell_set_ne (by decide)).trans r1)
      simp only [results, Tryz.results52]
      simp [go_sem, u0, u1]
end Go.Proofs.YtmocofmlehmneaaGreatDoor.Tb
