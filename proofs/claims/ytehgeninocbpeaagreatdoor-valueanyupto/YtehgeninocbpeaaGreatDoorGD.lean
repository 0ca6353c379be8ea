import Derived.Test.YtehgeninocbpeaaGreatDoorGC
/-
  DERIVED. The law's own looks at texts.
-/
namespace Go.Proofs.YtehgeninocbpeaaGreatDoor.Gl
open Go Go.Proofs Go.RowKit

theorem drop_byte {s : ByteArray} {k : Nat} (h : k < s.size) : s.data.toList.drop k = s[k] :: s.data.toList.drop (k + 1) := by
  have h2 : k < s.data.toList.length := by rw [Array.length_toList]; exact h
  rw [List.drop_eq_getElem_cons h2]
  rfl
theorem drop_end {s : ByteArray} : s.data.toList.drop s.size = [] := List.drop_eq_nil_of_le (by rw [Array.length_toList]; exact Nat.le_refl _)

def tameB (x : ByteArray) : Bool := x.data.toList.all (fun b => decide (b.toNat ≠ 42 ∧ b.toNat ≠ 63)) && decide (x.size ≤ 40)
def asciiB (x : ByteArray) : Bool := x.data.toList.all (fun b => decide (b.toNat ≤ 127))

set_option maxRecDepth 100000 in
set_option maxHeartbeats 1000000 in
theorem tame_any (w : World) (s : ByteArray) (hs : s.size ≤ 2097152) : Calls Tryz.prog 7 #[.string s] w fun e w' => e = .returned (.bool (tameB s)) ∧ w = w' := by
  unfold tameB
  obtain ⟨A, hA⟩ : ∃ A, s.data.toList.all (fun b => decide (b.toNat ≠ 42 ∧ b.toNat ≠ 63)) = A := ⟨_, rfl⟩
  rw [hA]
  have HA : Hid ((s.data.toList.drop 0).all (fun b => decide (b.toNat ≠ 42 ∧ b.toNat ≠ 63)) = A) := hA
  clear hA
  go_enter Tryz.func7, Tryz.ntmps7
  go_wp2
  go_loopg [3] s.size (fun g y wr => ∃ k : Nat, y = .int .i64 (k : Int) ∧ g + k = s.size ∧ Hid ((s.data.toList.drop k).all (fun b => decide (b.toNat ≠ 42 ∧ b.toNat ≠ 63)) = A) ∧ w = wr)
  case atStart => exact ⟨0, rfl, by omega, HA, rfl⟩
  case round =>
    clear HA
    obtain ⟨k, rfl, hk, HK, rfl⟩ := hrel
    by_cases hkn : k < s.size
    · have h1 := HK.out
      rw [drop_byte hkn, List.all_cons] at h1
      have hki : (k : Int) < (s.size : Int) := by omega
      obtain ⟨b, hb⟩ : ∃ b, s[k].toNat = b := ⟨_, rfl⟩
      rw [hb] at h1
      by_cases hbad : b ≠ 42 ∧ b ≠ 63
      · have HK2 : Hid ((s.data.toList.drop (k + 1)).all (fun b => decide (b.toNat ≠ 42 ∧ b.toNat ≠ 63)) = A) := by show _ = _; rw [← h1]; simp [hbad]
        have e1 : ((b : Int) == 42) = false := by simp; omega
        have e2 : ((b : Int) == 63) = false := by simp; omega
        clear h1 hbad HK
        go_wp2
        go_roundg (s.size - (k + 1))
        case measure => omega
        case rel => exact ⟨k + 1, by simp, by omega, HK2, rfl⟩
      · have hAf : A = false := by rw [← h1]; simp only [hbad]; rfl
        subst hAf
        clear HK h1
        rcases (by omega : b = 42 ∨ b = 63) with rfl | rfl
        · go_wp2
          go_ret
          exact ⟨rfl, rfl⟩
        · go_wp2
          go_ret
          exact ⟨rfl, rfl⟩
    · obtain rfl : k = s.size := by omega
      have h1 := HK.out
      rw [drop_end] at h1
      have hAt : A = true := h1.symm
      subst hAt
      clear h1 HK
      by_cases h40 : s.size ≤ 40
      · have e : decide (s.size ≤ 40) = true := by simp; omega
        have e2 : decide ((s.size : Int) ≤ 40) = true := by simp; omega
        go_wp2
        go_ret
        exact ⟨by rw [e]; rfl, rfl⟩
      · have e : decide (s.size ≤ 40) = false := by simp; omega
        have e2 : decide ((s.size : Int) ≤ 40) = false := by simp; omega
        go_wp2
        go_ret
        exact ⟨by rw [e]; rfl, rfl⟩

set_option maxRecDepth 100000 in
set_option maxHeartbeats 1000000 in
theorem ascii_any (w : World) (s : ByteArray) (hs : s.size ≤ 2097152) : Calls Tryz.prog 8 #[.string s] w fun e w' => e = .returned (.bool (asciiB s)) ∧ w = w' := by
  unfold asciiB
  obtain ⟨A, hA⟩ : ∃ A, s.data.toList.all (fun b => decide (b.toNat ≤ 127)) = A := ⟨_, rfl⟩
  rw [hA]
  have HA : Hid ((s.data.toList.drop 0).all (fun b => decide (b.toNat ≤ 127)) = A) := hA
  clear hA
  go_enter Tryz.func8, Tryz.ntmps8
  go_wp2
  go_loopg [3] s.size (fun g y wr => ∃ k : Nat, y = .int .i64 (k : Int) ∧ g + k = s.size ∧ Hid ((s.data.toList.drop k).all (fun b => decide (b.toNat ≤ 127)) = A) ∧ w = wr)
  case atStart => exact ⟨0, rfl, by omega, HA, rfl⟩
  case round =>
    clear HA
    obtain ⟨k, rfl, hk, HK, rfl⟩ := hrel
    by_cases hkn : k < s.size
    · have h1 := HK.out
      rw [drop_byte hkn, List.all_cons] at h1
      have hki : (k : Int) < (s.size : Int) := by omega
      obtain ⟨b, hb⟩ : ∃ b, s[k].toNat = b := ⟨_, rfl⟩
      rw [hb] at h1
      by_cases hbad : b ≤ 127
      · have HK2 : Hid ((s.data.toList.drop (k + 1)).all (fun b => decide (b.toNat ≤ 127)) = A) := by show _ = _; rw [← h1]; simp [hbad]
        have e1 : decide ((127 : Int) < (b : Int)) = false := by simp; omega
        have e2 : (b : Int) ≤ 127 := by omega
        clear h1 hbad HK
        go_wp2
        go_roundg (s.size - (k + 1))
        case measure => omega
        case rel => exact ⟨k + 1, by simp, by omega, HK2, rfl⟩
      · have hAf : A = false := by rw [← h1]; simp only [hbad]; rfl
        subst hAf
        have e1 : (127 : Int) < (b : Int) := by omega
        clear HK h1 hbad
        go_wp2
        go_ret
        exact ⟨rfl, rfl⟩
    · obtain rfl : k = s.size := by omega
      have h1 := HK.out
      rw [drop_end] at h1
      have hAt : A = true := h1.symm
      subst hAt
      clear h1 HK
      go_wp2
      go_ret
      exact ⟨rfl, rfl⟩

def bnd (v lo hi : Int) : Int := if v < lo then lo else if hi < v then hi else v
theorem bound_any (w : World) (v lo hi : Int) : Calls Tryz.prog 24 #[.int .i64 v, .int .i64 lo, .int .i64 hi] w fun e w' => e = .returned (.int .i64 (bnd v lo hi)) ∧ w = w' := by
  unfold bnd
  by_cases h1 : v < lo
  · rw [if_pos h1]
    go_enter Tryz.func24, Tryz.ntmps24
    go_wp2
    go_ret
    exact ⟨rfl, rfl⟩
  · rw [if_neg h1]
    by_cases h2 : hi < v
    · rw [if_pos h2]
      go_enter Tryz.func24, Tryz.ntmps24
      go_wp2
      go_ret
      exact ⟨rfl, rfl⟩
    · rw [if_neg h2]
      go_enter Tryz.func24, Tryz.ntmps24
      go_wp2
      go_ret
      exact ⟨rfl, rfl⟩

set_option maxRecDepth 100000 in
set_option maxHeartbeats 1000000 in
theorem inside_any (w : World) (s x : ByteArray) (hs : s.size ≤ 2097152) (hx : x.size ≤ 2097152) : Calls Tryz.prog 9 #[.string s, .string x] w fun e w' => ∃ b, e = .returned (.bool b) ∧ (b = true ↔ ∃ k, k + x.size ≤ s.size ∧ ((s.extract k (k + x.size)).toList == x.toList) = true) ∧ w = w' := by
  go_enter Tryz.func9, Tryz.ntmps9
  go_wp2
  go_loopg [5] (s.size + 1) (fun g y wr => ∃ k : Nat, y = .int .i64 (k : Int) ∧ g + k = s.size + 1 ∧ Hid (∀ j, j < k → j + x.size ≤ s.size → ((s.extract j (j + x.size)).toList == x.toList) = false) ∧ w = wr)
  case atStart => exact ⟨0, rfl, by omega, fun j hj => by omega, rfl⟩
  case round =>
    obtain ⟨k, rfl, hk, HK, rfl⟩ := hrel
    by_cases hkn : k + x.size ≤ s.size
    · have hki : (k : Int) + (x.size : Int) ≤ (s.size : Int) := by omega
      have hki2 : (k : Int) ≤ (k : Int) + (x.size : Int) := by omega
      cases hE : ((s.extract k (k + x.size)).toList == x.toList) with
      | true =>
        have HE : Hid (((s.extract k (k + x.size)).toList == x.toList) = true) := hE
        go_wp2
        go_ret
        exact ⟨true, rfl, ⟨fun _ => ⟨k, hkn, HE.out⟩, fun _ => rfl⟩, rfl⟩
      | false =>
        have HE : Hid (((s.extract k (k + x.size)).toList == x.toList) = false) := hE
        go_wp2
        go_roundg (s.size - k)
        case measure => omega
        case rel =>
          refine ⟨k + 1, by simp, by omega, fun j hj hj2 => ?_, rfl⟩
          rcases Nat.lt_or_ge j k with h | h
          · exact HK.out j h hj2
          · obtain rfl : j = k := by omega
            exact HE.out
    · have hki : decide ((k : Int) + (x.size : Int) ≤ (s.size : Int)) = false := by simp; omega
      go_wp2
      go_ret
      refine ⟨false, rfl, ⟨fun h => Bool.noConfusion h, ?_⟩, rfl⟩
      rintro ⟨j, h1, h2⟩
      rw [HK.out j (by omega) h1] at h2
      cases h2

end Go.Proofs.YtehgeninocbpeaaGreatDoor.Gl
