import Derived.Test.YtlfmihhnijlpiaaGreatDoorSj
import Derived.Test.YtlfmihhnijlpiaaGreatDoorSi
/-
  DERIVED. strings.Join; the first text that is not fit.
-/
namespace Go.Proofs.YtlfmihhnijlpiaaGreatDoor.Sp
open Go Go.Proofs Go.RowKit
open Wk (cell_lt own_keep Stop)

def jnL (xs : List ByteArray) (sep : ByteArray) : List UInt8 := Lib.join (xs.map (·.data.toList)) sep.data.toList
def jnB (xs : List ByteArray) (sep : ByteArray) : ByteArray := ⟨(jnL xs sep).toArray⟩
theorem join_str (W : World) (v : Value) (xs : List ByteArray) (sep : ByteArray) (h : TxAt W v xs) (hn : xs.length ≤ 9000000) (hl : (jnL xs sep).length ≤ 90000000) :
    Calls Tryz.prog 18 #[v, .string sep] W fun e w' => e = .returned (.string (jnB xs sep)) ∧ Hid (Below W.heap.size W w') := by
  obtain ⟨a, cap, rfl, hc, h3⟩ := h.form
  by_cases h0 : 0 < xs.length
  · obtain ⟨b, o, rfl, h4⟩ := h3 h0
    refine (Any.strings_Join jnLays156 jnExtra b o cap xs sep W (fun j x hj => ?_) (cell_lt (h4 0 h0)) (by omega) hc (by unfold jnL at hl; omega)).mono fun e w' ⟨he, hw⟩ => ⟨he, hw⟩
    obtain ⟨hj1, hj2⟩ := List.getElem?_eq_some_iff.1 hj
    rw [← hj2]
    exact h4 j hj1
  · have hx : xs = [] := List.length_eq_zero_iff.1 (by omega)
    subst hx
    exact (Any.strings_Join_none jnLays156 jnExtra a cap sep W).mono fun e w' ⟨he, hw⟩ => ⟨he, hw ▸ Below.refl _ _⟩

/-- The place of the first text that is told, or -1. -/
def fiR (f : ByteArray → Bool) : List ByteArray → Int
  | [] => -1
  | x :: r => if f x = true then 0 else if fiR f r = -1 then -1 else fiR f r + 1
theorem fiR_none {f : ByteArray → Bool} : ∀ {xs : List ByteArray}, (∀ (j : Nat) x, xs[j]? = some x → f x = false) → fiR f xs = -1
  | [], _ => rfl
  | x :: r, h => by
      have h0 := h 0 x rfl
      have := fiR_none (f := f) (xs := r) (fun j y hy => h (j + 1) y (by simpa using hy))
      unfold fiR
      rw [if_neg (by rw [h0]; simp), if_pos this]
theorem fiR_at {f : ByteArray → Bool} : ∀ {xs : List ByteArray} {i : Nat} {x : ByteArray}, xs[i]? = some x → f x = true → (∀ (j : Nat) y, j < i → xs[j]? = some y → f y = false) → fiR f xs = (i : Int)
  | [], _, _, h, _, _ => by simp at h
  | y :: r, 0, x, h, hf, _ => by
      simp at h
      subst h
      unfold fiR
      rw [if_pos hf]
      rfl
  | y :: r, i + 1, x, h, hf, hk => by
      have h0 := hk 0 y (by omega) rfl
      have := fiR_at (f := f) (xs := r) (i := i) (by simpa using h) hf (fun j z hj hz => hk (j + 1) z (by omega) (by simpa using hz))
      unfold fiR
      rw [if_neg (by rw [h0]; simp), this, if_neg (by omega)]
      omega
def hasS (x : ByteArray) : Bool := decide ((92 : UInt8) ∈ x.data.toList)
def offU (u : Nat) (x : ByteArray) : Bool := decide (x.size ≠ u)

theorem has_ix (x : ByteArray) : decide (0 ≤ Lib.indexByte x.data.toList 92) = hasS x := by
  unfold hasS
  congr 1
  apply propext
  constructor
  · intro h
    obtain ⟨o, ho⟩ : ∃ o : Nat, Lib.indexByte x.data.toList 92 = o := ⟨(Lib.indexByte x.data.toList 92).toNat, by omega⟩
    exact List.mem_of_getElem? (Lib.indexByte_some ho).1
  · intro h
    have hge := Lib.indexByte_ge x.data.toList 92
    by_cases hm : Lib.indexByte x.data.toList 92 = -1
    · obtain ⟨k, hk⟩ := List.getElem?_of_mem h
      exact absurd hk (Lib.indexByte_none hm k)
    · omega
set_option maxHeartbeats 2000000 in
theorem has_any (W : World) (x : ByteArray) : Calls Tryz.prog 33 #[.string x] W fun e w' => e = .returned (.bool (hasS x)) ∧ w' = W := by
  have c : ∀ w, Calls Tryz.prog 34 #[.string x, .string { data := #[92] }] w fun e w' => e = .returned (.bool (hasS x)) ∧ w' = w := fun w => (Any.strings_Contains_one splLays144 x 92 w).mono fun e w' ⟨he, hw⟩ => ⟨by rw [he, has_ix], hw⟩
  generalize hasS x = b at *
  go_enter Tryz.func33, Tryz.ntmps33
  go_wp2_with (go_at_call 34; refine (c _).mono ?_; rintro e w' ⟨rfl, rfl⟩)
  go_ret
  exact ⟨rfl, rfl⟩
set_option maxHeartbeats 2000000 in
theorem off_any (W : World) (x : ByteArray) (u q : Nat) (_hx : x.size ≤ 90000000) (_hu : u ≤ 1000) (hc : W.cell? ⟨q, 0, none⟩ = some (.int .i64 (u : Int))) : Calls Tryz.prog 36 #[.string x, .pointer (some ⟨q, 0, none⟩)] W fun e w' => e = .returned (.bool (offU u x)) ∧ w' = W := by
  unfold offU
  by_cases h : x.size = u
  · have hI : (x.size : Int) = (u : Int) := by omega
    rw [decide_eq_false (by simpa using h)]
    go_enter Tryz.func36, Tryz.ntmps36
    go_wp2
    go_ret
    exact ⟨rfl, rfl⟩
  · have hI : ¬ (x.size : Int) = (u : Int) := by omega
    have hb : ((x.size : Int) != (u : Int)) = true := by simpa using hI
    rw [decide_eq_true h]
    go_enter Tryz.func36, Tryz.ntmps36
    go_wp2
    go_ret
    exact ⟨rfl, rfl⟩

set_option maxRecDepth 100000 in
set_option maxHeartbeats 4000000 in
theorem idx_has (W : World) (v : Value) (xs : List ByteArray) (hn : xs.length ≤ 9000000) (ha : TxAt W v xs) :
    Calls Tryz.prog 35 #[v, .func (.func 33) #[] #[]] W fun e w' => e = .returned (.int .i64 (fiR hasS xs)) ∧ Hid (Below W.heap.size W w') := by
  obtain ⟨aa, ca, rfl, hca, h3⟩ := ha.form
  obtain ⟨n, hn'⟩ : ∃ n, xs.length = n := ⟨_, rfl⟩
  have HA : Hid _ := h3
  rw [hn'] at hca hn ⊢
  have HN : Hid _ := hn'
  clear h3 ha hn'
  go_enter Tryz.func35, Tryz.ntmps35
  go_wp2
  go_loopg [8] n (fun g s8 wx => ∃ i : Nat, s8 = .int .i64 (i : Int) ∧ g + i = n ∧ Hid ((∀ j x, j < i → xs[j]? = some x → hasS x = false) ∧ Below W.heap.size W wx))
  case atStart => exact ⟨0, rfl, by omega, fun j x hj => by omega, Below.refl _ _⟩
  case round =>
    obtain ⟨i, rfl, hgi, HW⟩ := hrel
    by_cases hin : i < n
    · have hI : (i : Int) < (n : Int) := by omega
      obtain ⟨ba, oa, rfl, ka⟩ := HA.out (by rw [HN.out]; omega)
      have ka := ka i (by rw [HN.out]; exact hin)
      replace ka := (World.cell?_of_block (HW.out.2.block ba (cell_lt ka))).trans ka
      have hxi : xs[i]? = some (xs[i]'(by rw [HN.out]; exact hin)) := List.getElem?_eq_getElem _
      obtain ⟨x, hx⟩ : ∃ x, xs[i]'(by rw [HN.out]; exact hin) = x := ⟨_, rfl⟩
      rw [hx] at ka hxi
      clear hx
      have cc := fun w => has_any w x
      obtain ⟨y, hy⟩ : ∃ y, hasS x = y := ⟨_, rfl⟩
      rw [hy] at cc
      cases y with
      | true =>
        have HY : Hid (fiR hasS xs = (i : Int)) := fiR_at hxi hy HW.out.1
        clear hy hxi
        go_wp2_with (go_at_call 33; refine (cc _).mono ?_; rintro e w' ⟨rfl, rfl⟩)
        go_ret
        exact ⟨by rw [HY.out]; rfl, HW.out.2⟩
      | false =>
        have HY : Hid (∀ j z, j < i + 1 → xs[j]? = some z → hasS z = false) := fun j z hj hz => by
          by_cases q : j = i
          · subst q; rw [hxi] at hz; cases hz; exact hy
          · exact HW.out.1 j z (by omega) hz
        clear hy hxi
        go_wp2_with (go_at_call 33; refine (cc _).mono ?_; rintro e w' ⟨rfl, rfl⟩)
        go_roundg (n - (i + 1))
        case measure => omega
        case rel => exact ⟨i + 1, by simp, by omega, HY.out, HW.out.2⟩
    · obtain rfl : i = n := by omega
      have hI : ¬ (i : Int) < (i : Int) := by omega
      have HY : Hid (fiR hasS xs = -1) := fiR_none (fun j x hx => HW.out.1 j x (by have := (List.getElem?_eq_some_iff.1 hx).1; rw [HN.out] at this; exact this) hx)
      go_wp2
      go_ret
      exact ⟨by rw [HY.out]; rfl, HW.out.2⟩

set_option maxRecDepth 100000 in
set_option maxHeartbeats 4000000 in
theorem idx_off (W : World) (v : Value) (xs : List ByteArray) (u q : Nat) (hu : u ≤ 1000) (hxs : ∀ x ∈ xs, x.size ≤ 90000000) (hc : W.cell? ⟨q, 0, none⟩ = some (.int .i64 (u : Int))) (hn : xs.length ≤ 9000000) (ha : TxAt W v xs) :
    Calls Tryz.prog 35 #[v, .func (.func 36) #[] #[.pointer (some ⟨q, 0, none⟩)]] W fun e w' => e = .returned (.int .i64 (fiR (offU u) xs)) ∧ Hid (Below W.heap.size W w') := by
  obtain ⟨aa, ca, rfl, hca, h3⟩ := ha.form
  obtain ⟨n, hn'⟩ : ∃ n, xs.length = n := ⟨_, rfl⟩
  have HA : Hid _ := h3
  rw [hn'] at hca hn ⊢
  have HN : Hid _ := hn'
  clear h3 ha hn'
  go_enter Tryz.func35, Tryz.ntmps35
  go_wp2
  go_loopg [8] n (fun g s8 wx => ∃ i : Nat, s8 = .int .i64 (i : Int) ∧ g + i = n ∧ Hid ((∀ j x, j < i → xs[j]? = some x → (offU u) x = false) ∧ Below W.heap.size W wx))
  case atStart => exact ⟨0, rfl, by omega, fun j x hj => by omega, Below.refl _ _⟩
  case round =>
    obtain ⟨i, rfl, hgi, HW⟩ := hrel
    by_cases hin : i < n
    · have hI : (i : Int) < (n : Int) := by omega
      obtain ⟨ba, oa, rfl, ka⟩ := HA.out (by rw [HN.out]; omega)
      have ka := ka i (by rw [HN.out]; exact hin)
      replace ka := (World.cell?_of_block (HW.out.2.block ba (cell_lt ka))).trans ka
      have hxi : xs[i]? = some (xs[i]'(by rw [HN.out]; exact hin)) := List.getElem?_eq_getElem _
      obtain ⟨x, hx⟩ : ∃ x, xs[i]'(by rw [HN.out]; exact hin) = x := ⟨_, rfl⟩
      rw [hx] at ka hxi
      clear hx
      have cc := off_any wr x u q (hxs x (List.mem_of_getElem? hxi)) hu ((World.cell?_of_block (HW.out.2.block q (cell_lt hc))).trans hc)
      obtain ⟨y, hy⟩ : ∃ y, (offU u) x = y := ⟨_, rfl⟩
      rw [hy] at cc
      cases y with
      | true =>
        have HY : Hid (fiR (offU u) xs = (i : Int)) := fiR_at hxi hy HW.out.1
        clear hy hxi
        go_wp2_with (go_at_call 36; refine cc.mono ?_; rintro e w' ⟨rfl, rfl⟩)
        go_ret
        exact ⟨by rw [HY.out]; rfl, HW.out.2⟩
      | false =>
        have HY : Hid (∀ j z, j < i + 1 → xs[j]? = some z → (offU u) z = false) := fun j z hj hz => by
          by_cases q : j = i
          · subst q; rw [hxi] at hz; cases hz; exact hy
          · exact HW.out.1 j z (by omega) hz
        clear hy hxi
        go_wp2_with (go_at_call 36; refine cc.mono ?_; rintro e w' ⟨rfl, rfl⟩)
        go_roundg (n - (i + 1))
        case measure => omega
        case rel => exact ⟨i + 1, by simp, by omega, HY.out, HW.out.2⟩
    · obtain rfl : i = n := by omega
      have hI : ¬ (i : Int) < (i : Int) := by omega
      have HY : Hid (fiR (offU u) xs = -1) := fiR_none (fun j x hx => HW.out.1 j x (by have := (List.getElem?_eq_some_iff.1 hx).1; rw [HN.out] at this; exact this) hx)
      go_wp2
      go_ret
      exact ⟨by rw [HY.out]; rfl, HW.out.2⟩
end Go.Proofs.YtlfmihhnijlpiaaGreatDoor.Sp
