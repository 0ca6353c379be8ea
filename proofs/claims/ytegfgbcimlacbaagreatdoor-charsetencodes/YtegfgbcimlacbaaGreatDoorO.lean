
import Derived.Test.YtegfgbcimlacbaaGreatDoorM
/-
  DERIVED. The document's reading of a term.
-/
namespace Go.Proofs.YtegfgbcimlacbaaGreatDoor
open Go Go.Proofs Go.RowKit

/-- A repertoire's number in its terms. -/
def repN (k : Nat) : Nat := [6, 100, 101, 126, 144, 148, 192].getD k 0
theorem repN_inj : ∀ a b : Fin 7, repN a.val = repN b.val → a = b := by decide
theorem repN_pos : ∀ a : Fin 7, repN a.val ≠ 0 := by decide

def nm50 (u : ByteArray) : Nat :=
  if u.toList == [54] then 6 else if u.toList == [49, 48, 48] then 100 else if u.toList == [49, 48, 49] then 101 else if u.toList == [49, 50, 54] then 126 else if u.toList == [49, 52, 52] then 144 else if u.toList == [49, 52, 56] then 148 else 0

set_option maxRecDepth 100000 in
theorem named50_any (w : World) (u : ByteArray) : Calls Tryz.prog 46 #[.string u] w fun e w' => e = .returned (.int .i64 (nm50 u : Nat)) ∧ w = w' := by
  unfold nm50
  cases h1 : (u.toList == [54]) with
  | true => go_enter Tryz.func46, Tryz.ntmps46; go_wp2; go_ret; exact ⟨rfl, rfl⟩
  | false =>
    cases h2 : (u.toList == [49, 48, 48]) with
    | true => go_enter Tryz.func46, Tryz.ntmps46; go_wp2; go_ret; exact ⟨rfl, rfl⟩
    | false =>
      cases h3 : (u.toList == [49, 48, 49]) with
      | true => go_enter Tryz.func46, Tryz.ntmps46; go_wp2; go_ret; exact ⟨rfl, rfl⟩
      | false =>
        cases h4 : (u.toList == [49, 50, 54]) with
        | true => go_enter Tryz.func46, Tryz.ntmps46; go_wp2; go_ret; exact ⟨rfl, rfl⟩
        | false =>
          cases h5 : (u.toList == [49, 52, 52]) with
          | true => go_enter Tryz.func46, Tryz.ntmps46; go_wp2; go_ret; exact ⟨rfl, rfl⟩
          | false =>
            cases h6 : (u.toList == [49, 52, 56]) with
            | true => go_enter Tryz.func46, Tryz.ntmps46; go_wp2; go_ret; exact ⟨rfl, rfl⟩
            | false => go_enter Tryz.func46, Tryz.ntmps46; go_wp2; go_ret; exact ⟨rfl, rfl⟩

def readS (t : ByteArray) : Nat × Bool :=
  if t.toList == [73, 83, 79, 95, 73, 82, 32, 49, 57, 50] then (192, false)
  else if 7 < t.size ∧ ((t.extract 0 7).toList == [73, 83, 79, 95, 73, 82, 32]) = true then (nm50 (t.extract 7 t.size), false)
  else if 12 < t.size ∧ ((t.extract 0 12).toList == [73, 83, 79, 32, 50, 48, 50, 50, 32, 73, 82, 32]) = true then (nm50 (t.extract 12 t.size), true)
  else (0, false)

set_option maxRecDepth 100000 in
theorem read_any (w : World) (t : ByteArray) : Calls Tryz.prog 31 #[.string t] w fun e w' => e = .returned (.tuple #[.int .i64 ((readS t).1 : Nat), .bool (readS t).2]) ∧ w = w' := by
  have c50 := fun W u => named50_any W u
  unfold readS
  cases h1 : (t.toList == [73, 83, 79, 95, 73, 82, 32, 49, 57, 50]) with
  | true =>
    rw [if_pos rfl]
    clear c50
    go_enter Tryz.func31, Tryz.ntmps31
    go_wp2
    exact bodyPost_ret (v := .tuple #[.int .i64 192, .bool false]) (by simp [results, Tryz.results31, go_sem]) rfl ⟨rfl, rfl⟩
  | false =>
    rw [if_neg (by decide)]
    by_cases h2 : 7 < t.size ∧ ((t.extract 0 7).toList == [73, 83, 79, 95, 73, 82, 32]) = true
    · rw [if_pos h2]
      obtain ⟨h2a, h2b⟩ := h2
      have i7 : (7 : Int) < (t.size : Int) := by omega
      have i7' : (7 : Int) ≤ (t.size : Int) := by omega
      go_enter Tryz.func31, Tryz.ntmps31
      go_wp2_with (go_at_call 46; refine (c50 _ _).mono ?_; rintro e W1 ⟨rfl, rfl⟩)
      exact bodyPost_ret (v := .tuple #[.int .i64 (nm50 (t.extract 7 t.size) : Nat), .bool false]) (by simp [results, Tryz.results31, go_sem]) rfl ⟨rfl, rfl⟩
    · rw [if_neg h2]
      have o2 : (t.size : Int) ≤ 7 ∨ ((7 : Int) < (t.size : Int) ∧ ((t.extract 0 7).toList == [73, 83, 79, 95, 73, 82, 32]) = false) := by
        by_cases h : 7 < t.size
        · exact .inr ⟨by omega, by simpa using fun h3 => h2 ⟨h, by simpa using h3⟩⟩
        · exact .inl (by omega)
      by_cases h3 : 12 < t.size ∧ ((t.extract 0 12).toList == [73, 83, 79, 32, 50, 48, 50, 50, 32, 73, 82, 32]) = true
      · rw [if_pos h3]
        obtain ⟨h3a, h3b⟩ := h3
        have i7 : (7 : Int) < (t.size : Int) := by omega
        have i7' : (7 : Int) ≤ (t.size : Int) := by omega
        have i12 : (12 : Int) < (t.size : Int) := by omega
        have i12' : (12 : Int) ≤ (t.size : Int) := by omega
        have h2c := (o2.resolve_left (by omega)).2
        clear h2 o2
        go_enter Tryz.func31, Tryz.ntmps31
        go_wp2_with (go_at_call 46; refine (c50 _ _).mono ?_; rintro e W1 ⟨rfl, rfl⟩)
        exact bodyPost_ret (v := .tuple #[.int .i64 (nm50 (t.extract 12 t.size) : Nat), .bool true]) (by simp [results, Tryz.results31, go_sem]) rfl ⟨rfl, rfl⟩
      · rw [if_neg h3]
        have o3 : (t.size : Int) ≤ 12 ∨ ((12 : Int) < (t.size : Int) ∧ ((t.extract 0 12).toList == [73, 83, 79, 32, 50, 48, 50, 50, 32, 73, 82, 32]) = false) := by
          by_cases h : 12 < t.size
          · exact .inr ⟨by omega, by simpa using fun h4 => h3 ⟨h, by simpa using h4⟩⟩
          · exact .inl (by omega)
        have i7x : (7 : Int) < (t.size : Int) → (7 : Int) ≤ (t.size : Int) := by omega
        clear h2 h3 c50
        rcases o2 with a2 | ⟨a2, b2⟩ <;> rcases o3 with a3 | ⟨a3, b3⟩
        · go_enter Tryz.func31, Tryz.ntmps31
          go_wp2
          exact bodyPost_ret (v := .tuple #[.int .i64 0, .bool false]) (by simp [results, Tryz.results31, go_sem]) rfl ⟨rfl, rfl⟩
        · omega
        · have a2' := i7x a2
          go_enter Tryz.func31, Tryz.ntmps31
          go_wp2
          exact bodyPost_ret (v := .tuple #[.int .i64 0, .bool false]) (by simp [results, Tryz.results31, go_sem]) rfl ⟨rfl, rfl⟩
        · have a2' := i7x a2
          have a3' : (12 : Int) ≤ (t.size : Int) := by omega
          go_enter Tryz.func31, Tryz.ntmps31
          go_wp2
          exact bodyPost_ret (v := .tuple #[.int .i64 0, .bool false]) (by simp [results, Tryz.results31, go_sem]) rfl ⟨rfl, rfl⟩

theorem nmd_hit' {t : ByteArray} {k : Nat} (h : (hitA t k || hitE t k) = true) : ∀ n j, j ≤ k → k < j + n → nmd t n j ≠ none
  | 0, j, h1, h2 => by omega
  | n + 1, j, h1, h2 => by
    rw [nmd]
    split
    · simp
    · split
      · simp
      · rename_i ha he
        refine nmd_hit' h n (j + 1) ?_ (by omega)
        rcases Nat.lt_or_ge j k with h3 | h3
        · omega
        · obtain rfl : j = k := by omega
          rw [Bool.or_eq_true] at h
          rcases h with h | h
          · exact absurd h ha
          · exact absurd h he
theorem nmd_hit {t : ByteArray} (k : Nat) (hk : k < 7) (h : (hitA t k || hitE t k) = true) : nmd t 7 0 ≠ none := nmd_hit' h 7 0 (by omega) (by omega)

theorem toList_extract (t : ByteArray) (a b : Nat) : (t.extract a b).toList = (t.toList.take b).drop a := by
  rw [ByteArray.toList_eq, ByteArray.toList_eq, ByteArray.data_extract]
  simp [List.drop_take]

theorem cut_at {t : ByteArray} {n : Nat} {A B : List UInt8} (h1 : (t.extract 0 n).toList = A) (h2 : (t.extract n t.size).toList = B) : t.toList = A ++ B := by
  rw [toList_extract] at h1 h2
  have hl : t.toList.length = t.size := by rw [ByteArray.toList_eq]; simp
  rw [List.take_of_length_le (by omega)] at h2
  rw [← h1, ← h2]
  simp

theorem nm50_some {u : ByteArray} (h : nm50 u ≠ 0) : ∃ k, k < 6 ∧ u.toList = [[54], [49, 48, 48], [49, 48, 49], [49, 50, 54], [49, 52, 52], [49, 52, 56]].getD k [] := by
  unfold nm50 at h
  split at h
  · exact ⟨0, by omega, by simp_all⟩
  · split at h
    · exact ⟨1, by omega, by simp_all⟩
    · split at h
      · exact ⟨2, by omega, by simp_all⟩
      · split at h
        · exact ⟨3, by omega, by simp_all⟩
        · split at h
          · exact ⟨4, by omega, by simp_all⟩
          · split at h
            · exact ⟨5, by omega, by simp_all⟩
            · exact absurd rfl h

theorem sp_list (k : Nat) : (sp k).toList = spL.getD k [] := by rw [ByteArray.toList_eq]; rfl

theorem readS_none {t : ByteArray} (h : nmd t 7 0 = none) : (readS t).1 = 0 := by
  have hA : ∀ k, k < 7 → hitA t k = false := fun k hk => by
    cases h1 : hitA t k with
    | false => rfl
    | true => exact absurd h (nmd_hit k hk (by rw [h1]; rfl))
  have hE : ∀ k, k < 7 → hitE t k = false := fun k hk => by
    cases h1 : hitE t k with
    | false => rfl
    | true => exact absurd h (nmd_hit k hk (by rw [h1]; simp))
  unfold readS
  split
  · rename_i h1
    have := hA 6 (by omega)
    unfold hitA at this
    rw [sp_list] at this
    simp [spL] at this h1
    exact absurd h1 this
  · split
    · rename_i h1 h2
      by_cases h3 : nm50 (t.extract 7 t.size) = 0
      · exact h3
      · obtain ⟨k, hk, hu⟩ := nm50_some h3
        have ht := cut_at (by simpa using h2.2) hu
        have := hA k (by omega)
        unfold hitA at this
        rw [sp_list, ht] at this
        rcases (by omega : k = 0 ∨ k = 1 ∨ k = 2 ∨ k = 3 ∨ k = 4 ∨ k = 5) with rfl | rfl | rfl | rfl | rfl | rfl <;> simp [spL] at this
    · split
      · rename_i h1 h2 h2'
        by_cases h3 : nm50 (t.extract 12 t.size) = 0
        · exact h3
        · obtain ⟨k, hk, hu⟩ := nm50_some h3
          have ht := cut_at (by simpa using h2'.2) hu
          have := hE k (by omega)
          unfold hitE at this
          rw [sp_list, ht] at this
          rcases (by omega : k = 0 ∨ k = 1 ∨ k = 2 ∨ k = 3 ∨ k = 4 ∨ k = 5) with rfl | rfl | rfl | rfl | rfl | rfl <;> simp [spL] at this
      · rfl

theorem nmd_is : ∀ (n k : Nat) (s : ByteArray) (m : Nat) (x : Bool), nmd s n k = some (m, x) → s = sp (if x then 3 * m + 1 else 3 * m) ∧ (x = true → ((sp (3 * m + 1)).toList == []) = false)
  | 0, _, _, _, _, h => by simp [nmd] at h
  | n + 1, k, s, m, x, h => by
    have ext : ∀ j, (s.toList == (sp j).toList) = true → s = sp j := fun j hj => by
      have := beq_iff_eq.1 hj
      rw [ByteArray.toList_eq, ByteArray.toList_eq] at this
      exact ByteArray.ext (Array.ext' this)
    rw [nmd] at h
    split at h
    · rename_i h1
      simp at h
      obtain ⟨rfl, rfl⟩ := h
      exact ⟨ext _ h1, fun h => by cases h⟩
    · split at h
      · rename_i h1 h2
        simp at h
        obtain ⟨rfl, rfl⟩ := h
        unfold hitE at h2
        simp only [Bool.and_eq_true, Bool.not_eq_true'] at h2
        exact ⟨ext _ h2.1, fun _ => h2.2⟩
      · exact nmd_is n (k + 1) s m x h

theorem readS_all : ((List.range 7).all fun k => readS (sp (3 * k)) == (repN k, false)) = true ∧ ((List.range 6).all fun k => readS (sp (3 * k + 1)) == (repN k, true)) = true := by
  constructor <;> decide +kernel

theorem readS_some {t : ByteArray} {k : Nat} {x : Bool} (h : nmd t 7 0 = some (k, x)) : readS t = (repN k, x) := by
  have hk := nmd_lt 7 0 t k x h
  obtain ⟨h1, h2⟩ := nmd_is 7 0 t k x h
  cases x with
  | false =>
    simp only [Bool.false_eq_true, if_false] at h1
    rw [h1]
    have := List.all_eq_true.1 readS_all.1 k (by simp; omega)
    simpa using this
  | true =>
    simp only [if_true] at h1
    have h6 : k ≠ 6 := by
      rintro rfl
      have := h2 rfl
      rw [sp_list] at this
      simp [spL] at this
    rw [h1]
    have := List.all_eq_true.1 readS_all.2 k (by simp; omega)
    simpa using this
end Go.Proofs.YtegfgbcimlacbaaGreatDoor
