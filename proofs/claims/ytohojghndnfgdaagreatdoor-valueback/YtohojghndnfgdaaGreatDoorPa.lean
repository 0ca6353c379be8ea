import Derived.Test.YtohojghndnfgdaaGreatDoorF
import Derived.Lib.Bytealg
import Derived.Lib.IndexLaws
import Derived.Deep.Cut
/-
  DERIVED. What may not stand in a name; a text cut at a byte.
-/
namespace Go.Proofs.YtohojghndnfgdaaGreatDoor
open Go Go.Proofs Go.RowKit

def barI (r : Int) : Bool := decide (r < 32) || (decide (r = 127) || decide (r = 92))

theorem isBarred_any (w : World) (r : Int) : Calls Tryz.prog 43 #[.int .i32 r] w fun e w' => e = .returned (.bool (barI r)) ∧ w = w' := by
  unfold barI
  by_cases h1 : r < 32
  · have a1 : decide (r < 32) = true := decide_eq_true h1
    rw [a1]
    go_enter Tryz.func43, Tryz.ntmps43
    go_wp2
    go_ret
    exact ⟨by first | rfl | simp, rfl⟩
  · have a1 : decide (r < 32) = false := decide_eq_false h1
    rw [a1]
    by_cases h2 : r = 127
    · have a2 : (r == 127) = true := by simpa using h2
      rw [decide_eq_true h2]
      clear h2 h1
      go_enter Tryz.func43, Tryz.ntmps43
      go_wp2
      go_ret
      exact ⟨by first | rfl | simp, rfl⟩
    · have a2 : (r == 127) = false := by simpa using h2
      rw [decide_eq_false h2]
      by_cases h3 : r = 92
      · have a3 : (r == 92) = true := by simpa using h3
        rw [decide_eq_true h3]
        clear h3 h2 h1
        go_enter Tryz.func43, Tryz.ntmps43
        go_wp2
        go_ret
        exact ⟨by first | rfl | simp, rfl⟩
      · have a3 : (r == 92) = false := by simpa using h3
        rw [decide_eq_false h3]
        clear h3 h2 h1
        go_enter Tryz.func43, Tryz.ntmps43
        go_wp2
        go_ret
        exact ⟨by first | rfl | simp, rfl⟩

/-- The first place from here on at which this byte stands, or the end. -/
def fe (s : ByteArray) (c : Nat) : Nat → Nat → Nat
  | 0, p => p
  | f + 1, p => if p < s.size then (if (s.get! p).toNat = c then p else fe s c f (p + 1)) else p
theorem fe_ge (s : ByteArray) (c : Nat) : ∀ f p, p ≤ fe s c f p
  | 0, p => Nat.le_refl _
  | f + 1, p => by
    rw [fe]
    split
    · split
      · exact Nat.le_refl _
      · have := fe_ge s c f (p + 1); omega
    · exact Nat.le_refl _
theorem fe_le (s : ByteArray) (c : Nat) : ∀ f p, p ≤ s.size → fe s c f p ≤ s.size
  | 0, p, h => h
  | f + 1, p, h => by
    rw [fe]
    split
    · split
      · exact h
      · exact fe_le s c f (p + 1) (by omega)
    · exact h
/-- With fuel enough it does not matter how much. -/
theorem fe_fuel (s : ByteArray) (c : Nat) : ∀ f g p, s.size ≤ p + f → s.size ≤ p + g → fe s c f p = fe s c g p
  | 0, g, p, h, _ => by
    cases g with
    | zero => rfl
    | succ g => rw [fe, fe, if_neg (by omega)]
  | f + 1, 0, p, _, h => by rw [fe, fe, if_neg (by omega)]
  | f + 1, g + 1, p, h1, h2 => by
    rw [fe, fe]
    split
    · split
      · rfl
      · exact fe_fuel s c f g (p + 1) (by omega) (by omega)
    · rfl
def fx (s : ByteArray) (c p : Nat) : Nat := fe s c (s.size - p) p
theorem fx_ge (s : ByteArray) (c p : Nat) : p ≤ fx s c p := fe_ge _ _ _ _
theorem fx_le (s : ByteArray) (c p : Nat) (h : p ≤ s.size) : fx s c p ≤ s.size := fe_le _ _ _ _ h
theorem fx_step (s : ByteArray) (c p : Nat) : fx s c p = if p < s.size then (if (s.get! p).toNat = c then p else fx s c (p + 1)) else p := by
  unfold fx
  by_cases h : p < s.size
  · rw [if_pos h, show s.size - p = (s.size - (p + 1)) + 1 by omega, fe, if_pos h]
  · rw [if_neg h, show s.size - p = 0 by omega, fe]
/-- It is the first one. -/
theorem fx_is (s : ByteArray) (c : Nat) : ∀ (n p k : Nat), n = k - p → p ≤ k → k ≤ s.size → (∀ j, p ≤ j → j < k → (s.get! j).toNat ≠ c) → (k < s.size → (s.get! k).toNat = c) → fx s c p = k
  | 0, p, k, hn, hp, hk, _, hc => by
    obtain rfl : p = k := by omega
    rw [fx_step]
    split
    · rename_i h; rw [if_pos (hc h)]
    · rfl
  | n + 1, p, k, hn, hp, hk, hj, hc => by
    rw [fx_step, if_pos (by omega), if_neg (hj p (Nat.le_refl _) (by omega))]
    exact fx_is s c n (p + 1) k (by omega) (by omega) hk (fun j h1 h2 => hj j (by omega) h2) hc
theorem fx_no (s : ByteArray) (c : Nat) : ∀ (n p : Nat), n = s.size - p → ∀ j, p ≤ j → j < fx s c p → (s.get! j).toNat ≠ c
  | 0, p, hn, j, h1, h2 => by
    rw [fx_step, if_neg (by omega)] at h2
    omega
  | n + 1, p, hn, j, h1, h2 => by
    rw [fx_step, if_pos (by omega)] at h2
    split at h2
    · omega
    · rename_i hc
      by_cases hj : j = p
      · subst hj; exact hc
      · exact fx_no s c n (p + 1) (by omega) j (by omega) h2

/-- The pieces from here on. -/
def cuts (s : ByteArray) (c : Nat) : Nat → Nat → List ByteArray
  | 0, p => [s.extract p s.size]
  | f + 1, p => if fx s c p < s.size then s.extract p (fx s c p) :: cuts s c f (fx s c p + 1) else [s.extract p s.size]
theorem cuts_fuel (s : ByteArray) (c : Nat) : ∀ f g p, s.size ≤ p + f → s.size ≤ p + g → cuts s c f p = cuts s c g p
  | 0, 0, p, _, _ => rfl
  | 0, g + 1, p, h, _ => by
    have := fx_ge s c p
    rw [cuts, cuts, if_neg (by omega)]
  | f + 1, 0, p, _, h => by
    have := fx_ge s c p
    rw [cuts, cuts, if_neg (by omega)]
  | f + 1, g + 1, p, h1, h2 => by
    have := fx_ge s c p
    rw [cuts, cuts]
    split
    · rw [cuts_fuel s c f g _ (by omega) (by omega)]
    · rfl
def cx (s : ByteArray) (c p : Nat) : List ByteArray := cuts s c (s.size - p) p
theorem cx_more (s : ByteArray) (c p : Nat) (h : fx s c p < s.size) : cx s c p = s.extract p (fx s c p) :: cx s c (fx s c p + 1) := by
  have hg := fx_ge s c p
  unfold cx
  rw [show s.size - p = (s.size - (p + 1)) + 1 by omega, cuts, if_pos h, cuts_fuel s c (s.size - (p + 1)) (s.size - (fx s c p + 1)) _ (by omega) (by omega)]
theorem cx_last (s : ByteArray) (c p : Nat) (h : ¬ fx s c p < s.size) : cx s c p = [s.extract p s.size] := by
  unfold cx
  cases hn : s.size - p with
  | zero => rfl
  | succ n => rw [cuts, if_neg h]
theorem cx_len (s : ByteArray) (c : Nat) : ∀ (n p : Nat), n = s.size - p → (cx s c p).length ≤ s.size - p + 1
  | 0, p, hn => by
    have := fx_ge s c p
    rw [cx_last s c p (by omega)]; simp
  | n + 1, p, hn => by
    by_cases h : fx s c p < s.size
    · have hg := fx_ge s c p
      rw [cx_more s c p h, List.length_cons]
      obtain ⟨m, hm⟩ : ∃ m, m = s.size - (fx s c p + 1) := ⟨_, rfl⟩
      have : (cx s c (fx s c p + 1)).length ≤ s.size - (fx s c p + 1) + 1 := by
        have hlt : m ≤ n := by omega
        exact cx_len' s c m (fx s c p + 1) hm
      omega
    · rw [cx_last s c p h]; simp
where
  cx_len' (s : ByteArray) (c : Nat) : ∀ (n p : Nat), n = s.size - p → (cx s c p).length ≤ s.size - p + 1 := fun n => by
    induction n using Nat.strongRecOn with
    | ind n ih =>
      intro p hn
      by_cases h : fx s c p < s.size
      · have hg := fx_ge s c p
        rw [cx_more s c p h, List.length_cons]
        have := ih (s.size - (fx s c p + 1)) (by omega) (fx s c p + 1) rfl
        omega
      · rw [cx_last s c p h]; simp

set_option maxRecDepth 100000 in
theorem idx41_any (w : World) (s : ByteArray) (c : Int) : Calls Tryz.prog 81 #[.string s, .int .u8 c] w fun e w' => e = .returned (.int .i64 (Lib.indexByte s.data.toList c.toNat.toUInt8)) ∧ w = w' := by
  go_enter Tryz.func81, Tryz.ntmps81
  go_wp2
  rw [run_callFunc_extern Tryz.func98 (by kernel_rfl) (by kernel_rfl) (by kernel_rfl) (e := Extern.BytealgIndexByte.indexByte) (by kernel_rfl), Lib.run_indexByteString]
  simp only [Result.andThen]
  rw [Oper.upon_value]
  go_wp2
  go_ret
  exact ⟨rfl, rfl⟩
/-- The place told by IndexByte is the first. -/
theorem idx_fx (u : ByteArray) (c : UInt8) : (Lib.indexByte u.data.toList c = -1 ∧ fx u c.toNat 0 = u.size) ∨ (∃ k : Nat, Lib.indexByte u.data.toList c = (k : Int) ∧ k < u.size ∧ fx u c.toNat 0 = k) := by
  have get : ∀ j, j < u.size → u.data.toList[j]? = some (u.get! j) := fun j hj => by
    have hj2 : j < u.data.size := hj
    rw [Array.getElem?_toList, Array.getElem?_eq_getElem hj2, ← get_get! u j hj]
    rfl
  have hge := Lib.indexByte_ge u.data.toList c
  by_cases h : Lib.indexByte u.data.toList c = -1
  · refine .inl ⟨h, fx_is u c.toNat _ 0 u.size rfl (Nat.zero_le _) (Nat.le_refl _) (fun j _ hj hc => ?_) (fun hh => absurd hh (Nat.lt_irrefl _))⟩
    exact Lib.indexByte_none h j ((get j hj).trans (congrArg some (UInt8.toNat_inj.1 hc)))
  · obtain ⟨k, hk⟩ : ∃ k : Nat, Lib.indexByte u.data.toList c = (k : Int) := ⟨(Lib.indexByte u.data.toList c).toNat, by omega⟩
    obtain ⟨h1, h2⟩ := Lib.indexByte_some hk
    have hks : k < u.size := by
      obtain ⟨hh, _⟩ := List.getElem?_eq_some_iff.1 h1
      rw [Array.length_toList] at hh
      exact hh
    refine .inr ⟨k, hk, hks, fx_is u c.toNat _ 0 k rfl (Nat.zero_le _) (Nat.le_of_lt hks) (fun j _ hj hc => ?_) (fun _ => ?_)⟩
    · exact h2 j hj ((get j (by omega)).trans (congrArg some (UInt8.toNat_inj.1 hc)))
    · have := (get k hks).symm.trans h1
      exact congrArg UInt8.toNat (Option.some.inj this)
end Go.Proofs.YtohojghndnfgdaaGreatDoor
