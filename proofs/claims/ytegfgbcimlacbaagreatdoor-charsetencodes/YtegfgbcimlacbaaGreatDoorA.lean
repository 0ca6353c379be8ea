
import Derived.Test.YtegfgbcimlacbaaGreatDoorProg
import Derived.WalkKit
import Derived.WalkSpells
import Derived.WalkLawsBesides
import Derived.Deep.QuietTactic
import Derived.BigQuiet
import Derived.BigRegion
import Derived.KernelRfl
import Derived.Deep.RegionWith
/-
  DERIVED. Spaces at the ends of a text, cut off by the program and by the document.
-/
namespace Go.Proofs.YtegfgbcimlacbaaGreatDoor
open Go Go.Proofs Go.RowKit

/-- Without the spaces at the beginning; at the end. -/
def tl : List UInt8 → List UInt8
  | [] => []
  | x :: xs => if x = 32 then tl xs else x :: xs
def tr : List UInt8 → List UInt8
  | [] => []
  | x :: xs => if x = 32 ∧ tr xs = [] then [] else x :: tr xs

theorem tr_snoc_space : ∀ l : List UInt8, tr (l ++ [32]) = tr l
  | [] => by simp [tr]
  | x :: xs => by rw [List.cons_append, tr, tr, tr_snoc_space xs]
theorem tr_snoc_ne {y : UInt8} (hy : y ≠ 32) : ∀ l : List UInt8, tr (l ++ [y]) = l ++ [y]
  | [] => by simp [tr, hy]
  | x :: xs => by
    rw [List.cons_append, tr, tr_snoc_ne hy xs, if_neg (by simp)]

theorem tl_tr : ∀ l : List UInt8, tl (tr l) = tr (tl l)
  | [] => rfl
  | x :: xs => by
    have ih := tl_tr xs
    by_cases h : x = 32
    · subst h
      by_cases h2 : tr xs = []
      · rw [tr, if_pos ⟨rfl, h2⟩, tl, tl, if_pos rfl, ← ih, h2, tl]
      · rw [tr, if_neg (fun h => h2 h.2), tl, if_pos rfl, tl, if_pos rfl, ih]
    · rw [tr, if_neg (fun h2 => h h2.1), tl, if_neg h, tl, if_neg h, tr, if_neg (fun h2 => h h2.1)]

/-- A text by its bytes. -/
theorem snoc_of (s : ByteArray) (n : Nat) (h : s.size = n + 1) (hn : n < s.size) : s.data.toList = (s.extract 0 n).data.toList ++ [s[n]] := by
  have hd : n < s.data.size := hn
  show _ = _ ++ [s.data[n]]
  have hl : s.data.toList.length = n + 1 := by rw [Array.length_toList]; exact h
  have e : (s.extract 0 n).data.toList = s.data.toList.take n := by
    rw [ByteArray.data_extract]
    simp
  rw [e]
  conv => lhs; rw [← List.take_append_drop n s.data.toList]
  congr 1
  rw [List.drop_eq_getElem_cons (by omega), List.drop_eq_nil_of_le (by omega)]
  simp
theorem cons_of (s : ByteArray) (n : Nat) (h : s.size = n + 1) (hn : 0 < s.size) : s.data.toList = s[0] :: (s.extract 1 s.size).data.toList := by
  have hd : 0 < s.data.size := hn
  show _ = s.data[0] :: _
  have hl : s.data.toList.length = n + 1 := by rw [Array.length_toList]; exact h
  have e : (s.extract 1 s.size).data.toList = s.data.toList.drop 1 := by
    rw [ByteArray.data_extract]
    simp
    exact List.take_of_length_le (by simp)
  rw [e]
  conv => lhs; rw [← List.drop_zero (l := s.data.toList)]
  rw [List.drop_eq_getElem_cons (by omega)]
  simp

def trB (s : ByteArray) : ByteArray := ⟨(tr s.data.toList).toArray⟩
def tlB (s : ByteArray) : ByteArray := ⟨(tl s.data.toList).toArray⟩

theorem trB_empty {s : ByteArray} (h : s.size = 0) : trB s = s := by
  have : s.data.toList = [] := by rw [← List.length_eq_zero_iff, Array.length_toList]; exact h
  refine ByteArray.ext (Array.ext' ?_)
  show tr s.data.toList = _
  rw [this]
  rfl
theorem tlB_empty {s : ByteArray} (h : s.size = 0) : tlB s = s := by
  have : s.data.toList = [] := by rw [← List.length_eq_zero_iff, Array.length_toList]; exact h
  refine ByteArray.ext (Array.ext' ?_)
  show tl s.data.toList = _
  rw [this]
  rfl
theorem trB_space {s : ByteArray} {n : Nat} (h : s.size = n + 1) (hn : n < s.size) (h32 : s[n] = 32) : trB (s.extract 0 n) = trB s := by
  unfold trB
  rw [snoc_of s n h hn, h32, tr_snoc_space]
theorem trB_ne {s : ByteArray} {n : Nat} (h : s.size = n + 1) (hn : n < s.size) (h32 : s[n] ≠ 32) : trB s = s := by
  refine ByteArray.ext (Array.ext' ?_)
  show tr s.data.toList = _
  rw [snoc_of s n h hn, tr_snoc_ne h32]
theorem tlB_space {s : ByteArray} {n : Nat} (h : s.size = n + 1) (hn : 0 < s.size) (h32 : s[0] = 32) : tlB (s.extract 1 s.size) = tlB s := by
  unfold tlB
  rw [cons_of s n h hn, h32, tl, if_pos rfl]
theorem tlB_ne {s : ByteArray} {n : Nat} (h : s.size = n + 1) (hn : 0 < s.size) (h32 : s[0] ≠ 32) : tlB s = s := by
  refine ByteArray.ext (Array.ext' ?_)
  show tl s.data.toList = _
  rw [cons_of s n h hn, tl, if_neg h32]
theorem trB_size (s : ByteArray) : (trB s).size ≤ s.size := by
  show (tr s.data.toList).toArray.size ≤ s.data.size
  rw [List.size_toArray, ← Array.length_toList]
  generalize s.data.toList = l
  induction l with
  | nil => exact Nat.le_refl _
  | cons x xs ih => rw [tr]; split <;> simp <;> omega
theorem tlB_size (s : ByteArray) : (tlB s).size ≤ s.size := by
  show (tl s.data.toList).toArray.size ≤ s.data.size
  rw [List.size_toArray, ← Array.length_toList]
  generalize s.data.toList = l
  induction l with
  | nil => exact Nat.le_refl _
  | cons x xs ih => rw [tl]; split <;> simp <;> omega

theorem is32 {x : UInt8} (h : x = 32) : ((x.toNat : Int) == 32) = true := by rw [h]; rfl
theorem isnt32 {x : UInt8} (h : x ≠ 32) : ((x.toNat : Int) == 32) = false := by
  refine beq_eq_false_iff_ne.2 (fun h2 => h ?_)
  apply UInt8.toNat_inj.1
  simpa using Int.ofNat.inj h2

set_option maxRecDepth 100000 in
theorem trimRight_any (w : World) (s : ByteArray) (hs : s.size ≤ 140737488351232) : Calls Tryz.prog 57 #[.string s, .int .u8 32] w fun e w' => e = .returned (.string (trB s)) ∧ w = w' := by
  obtain ⟨R, hR⟩ : ∃ R, trB s = R := ⟨_, rfl⟩
  have HR : Hid (trB s = R) := hR
  rw [hR]
  clear hR
  go_enter Tryz.func57, Tryz.ntmps57
  go_wp2
  go_loop [0] (fun x => ∃ t : ByteArray, x = .string t ∧ t.size ≤ 140737488351232 ∧ Hid (trB t = R)) (fun x => match x with | .string t => t.size | _ => 0)
  case atStart => exact ⟨s, rfl, hs, HR⟩
  case round =>
    obtain ⟨t, rfl, ht, HK⟩ := hrel
    by_cases h0 : t.size = 0
    · have e : t = R := by rw [← HK.out, trB_empty h0]
      subst e
      have hz : (t.size : Int) = 0 := by omega
      go_wp2
      go_ret
      exact ⟨rfl, rfl⟩
    · obtain ⟨n, hn⟩ : ∃ n, t.size = n + 1 := ⟨t.size - 1, by omega⟩
      have hlt : n < t.size := by omega
      have hi : (t.size : Int) - 1 = (n : Int) := by omega
      have hpos : (0 : Int) < (t.size : Int) := by omega
      have hni : (n : Int) < (t.size : Int) := by omega
      by_cases h32 : t[n] = 32
      · have HN : Hid (trB (t.extract 0 n) = R) := (trB_space hn hlt h32).trans HK.out
        have b32 := is32 h32
        have HS : Hid ((t.extract 0 n).size = n) := by show _ = _; simp; omega
        have HT : Hid (t.size = n + 1) := hn
        clear h32 hn h0
        go_wp2
        exact ⟨⟨t.extract 0 n, rfl, by rw [HS.out]; omega, HN⟩, by show (t.extract 0 n).size < t.size; rw [HS.out]; omega⟩
      · have e : t = R := by rw [← HK.out, trB_ne hn hlt h32]
        have b32 := isnt32 h32
        clear h32 hn h0 HK
        subst e
        go_wp2
        go_ret
        exact ⟨rfl, rfl⟩

set_option maxRecDepth 100000 in
theorem trimLeft_any (w : World) (s : ByteArray) (hs : s.size ≤ 140737488351232) : Calls Tryz.prog 56 #[.string s, .int .u8 32] w fun e w' => e = .returned (.string (tlB s)) ∧ w = w' := by
  obtain ⟨R, hR⟩ : ∃ R, tlB s = R := ⟨_, rfl⟩
  have HR : Hid (tlB s = R) := hR
  rw [hR]
  clear hR
  go_enter Tryz.func56, Tryz.ntmps56
  go_wp2
  go_loop [0] (fun x => ∃ t : ByteArray, x = .string t ∧ t.size ≤ 140737488351232 ∧ Hid (tlB t = R)) (fun x => match x with | .string t => t.size | _ => 0)
  case atStart => exact ⟨s, rfl, hs, HR⟩
  case round =>
    obtain ⟨t, rfl, ht, HK⟩ := hrel
    by_cases h0 : t.size = 0
    · have e : t = R := by rw [← HK.out, tlB_empty h0]
      subst e
      have hz : (t.size : Int) = 0 := by omega
      go_wp2
      go_ret
      exact ⟨rfl, rfl⟩
    · obtain ⟨n, hn⟩ : ∃ n, t.size = n + 1 := ⟨t.size - 1, by omega⟩
      have hlt : 0 < t.size := by omega
      have hpos : (0 : Int) < (t.size : Int) := by omega
      have hone : (1 : Int) ≤ (t.size : Int) := by omega
      by_cases h32 : t[0] = 32
      · have HN : Hid (tlB (t.extract 1 t.size) = R) := (tlB_space hn hlt h32).trans HK.out
        have b32 := is32 h32
        have HS : Hid ((t.extract 1 t.size).size = n) := by show _ = _; simp; omega
        have HT : Hid (t.size = n + 1) := hn
        clear h32 hn h0
        go_wp2
        exact ⟨⟨t.extract 1 t.size, rfl, by rw [HS.out]; have := HT.out; omega, HN⟩, by show (t.extract 1 t.size).size < t.size; rw [HS.out, HT.out]; omega⟩
      · have e : t = R := by rw [← HK.out, tlB_ne hn hlt h32]
        have b32 := isnt32 h32
        clear h32 hn h0 HK
        subst e
        go_wp2
        go_ret
        exact ⟨rfl, rfl⟩

/-- A text without the spaces around it. -/
def trim (s : ByteArray) : ByteArray := tlB (trB s)

theorem trim_nil {s : ByteArray} (h : s.size = 0) : trim s = s := by unfold trim; rw [trB_empty h, tlB_empty h]
theorem trim_size (s : ByteArray) : (trim s).size ≤ s.size := Nat.le_trans (tlB_size _) (trB_size _)
theorem trim_other (s : ByteArray) : trB (tlB s) = trim s := by
  unfold trim trB tlB
  simp only
  rw [← tl_tr]

theorem nil_beq {s : ByteArray} (h : s.size = 0) : (s.toList == []) = true := by
  rw [ByteArray.toList_eq]
  have : s.data.toList = [] := by rw [← List.length_eq_zero_iff, Array.length_toList]; exact h
  rw [this]; rfl
theorem nil_beq_ne {s : ByteArray} (h : s.size ≠ 0) : (s.toList == []) = false := by
  rw [ByteArray.toList_eq]
  cases hd : s.data.toList with
  | nil =>
    have : s.data.toList.length = 0 := by rw [hd]; rfl
    rw [Array.length_toList] at this
    exact absurd this h
  | cons a l => rfl

set_option maxRecDepth 100000 in
theorem trim_any (w : World) (s : ByteArray) (hs : s.size ≤ 140737488351232) : Calls Tryz.prog 45 #[.string s, .string ⟨#[32]⟩] w fun e w' => e = .returned (.string (trim s)) ∧ Below w.heap.size w w' := by
  by_cases h0 : s.size = 0
  · rw [trim_nil h0]
    have hb := nil_beq h0
    clear h0
    go_enter Tryz.func45, Tryz.ntmps45
    go_wp2
    go_ret
    exact ⟨rfl, Below.refl _ _⟩
  · have hb := nil_beq_ne h0
    have h1 := fun W => trimRight_any W s hs
    have h2 := fun W => trimLeft_any W (trB s) (Nat.le_trans (trB_size s) hs)
    unfold trim
    generalize tlB (trB s) = R at h2 ⊢
    generalize trB s = Q at h1 h2
    clear h0
    go_enter Tryz.func45, Tryz.ntmps45
    go_wp2
    go_region_with (first | (go_at_call 57; refine (h1 _).mono ?_; rintro e w' ⟨rfl, rfl⟩) | (go_at_call 56; refine (h2 _).mono ?_; rintro e w' ⟨rfl, rfl⟩))
    all_goals go_wp2
    all_goals go_ret
    all_goals exact ⟨rfl, (Below.refl _ _).drew⟩

set_option maxRecDepth 100000 in
theorem bare_any (w : World) (s : ByteArray) (hs : s.size ≤ 140737488351232) : Calls Tryz.prog 30 #[.string s] w fun e w' => e = .returned (.string (trim s)) ∧ w = w' := by
  obtain ⟨R, hR⟩ : ∃ R, tlB s = R := ⟨_, rfl⟩
  have HR : Hid (tlB s = R) := hR
  have hRs : R.size ≤ 140737488351232 := by rw [← hR]; exact Nat.le_trans (tlB_size s) hs
  rw [← trim_other, hR]
  clear hR
  obtain ⟨Q, hQ⟩ : ∃ Q, trB R = Q := ⟨_, rfl⟩
  have HQ : Hid (trB R = Q) := hQ
  rw [hQ]
  clear hQ
  go_enter Tryz.func30, Tryz.ntmps30
  go_wp2
  go_loop [0] (fun x => ∃ t : ByteArray, x = .string t ∧ t.size ≤ 140737488351232 ∧ Hid (tlB t = R)) (fun x => match x with | .string t => t.size | _ => 0)
  case atStart => exact ⟨s, rfl, hs, HR⟩
  case round =>
    obtain ⟨t, rfl, ht, HK⟩ := hrel
    by_cases hin : ∃ h : 0 < t.size, t[0] = 32
    · obtain ⟨hlt, h32⟩ := hin
      obtain ⟨n, hn⟩ : ∃ n, t.size = n + 1 := ⟨t.size - 1, by omega⟩
      have hpos : (0 : Int) < (t.size : Int) := by omega
      have hone : (1 : Int) ≤ (t.size : Int) := by omega
      have HN : Hid (tlB (t.extract 1 t.size) = R) := (tlB_space hn hlt h32).trans HK.out
      have b32 := is32 h32
      have HS : Hid ((t.extract 1 t.size).size = n) := by show _ = _; simp; omega
      have HT : Hid (t.size = n + 1) := hn
      clear h32 hn
      go_wp2
      exact ⟨⟨t.extract 1 t.size, rfl, by rw [HS.out]; have := HT.out; omega, HN⟩, by show (t.extract 1 t.size).size < t.size; rw [HS.out, HT.out]; omega⟩
    · have e : t = R := by
        by_cases h0 : t.size = 0
        · rw [← HK.out, tlB_empty h0]
        · obtain ⟨n, hn⟩ : ∃ n, t.size = n + 1 := ⟨t.size - 1, by omega⟩
          rw [← HK.out, tlB_ne hn (by omega) (fun h => hin ⟨by omega, h⟩)]
      have hout : (t.size : Int) = 0 ∨ (0 : Int) < (t.size : Int) ∧ ∃ h : 0 < t.size, ((t[0].toNat : Int) == 32) = false := by
        by_cases h0 : t.size = 0
        · exact .inl (by omega)
        · exact .inr ⟨by omega, by omega, isnt32 (fun h => hin ⟨by omega, h⟩)⟩
      clear hin HK HR hs ht
      subst e
      rcases hout with hz | ⟨hz, hlt, hb⟩
      all_goals go_wp2
      all_goals (
        go_loop [0] (fun x => ∃ u : ByteArray, x = .string u ∧ u.size ≤ 140737488351232 ∧ Hid (trB u = Q)) (fun x => match x with | .string u => u.size | _ => 0)
        case atStart => exact ⟨t, rfl, hRs, HQ⟩
        case round =>
          obtain ⟨u, rfl, hu, HU⟩ := hrel
          by_cases h0 : u.size = 0
          · have e : u = Q := by rw [← HU.out, trB_empty h0]
            subst e
            have hz : (u.size : Int) = 0 := by omega
            go_wp2
            go_ret
            exact ⟨rfl, rfl⟩
          · obtain ⟨n, hn⟩ : ∃ n, u.size = n + 1 := ⟨u.size - 1, by omega⟩
            have hlt : n < u.size := by omega
            have hi : (u.size : Int) - 1 = (n : Int) := by omega
            have hpos : (0 : Int) < (u.size : Int) := by omega
            have hni : (n : Int) < (u.size : Int) := by omega
            by_cases h32 : u[n] = 32
            · have HN : Hid (trB (u.extract 0 n) = Q) := (trB_space hn hlt h32).trans HU.out
              have b32 := is32 h32
              have HS : Hid ((u.extract 0 n).size = n) := by show _ = _; simp; omega
              have HT : Hid (u.size = n + 1) := hn
              clear h32 hn h0
              go_wp2
              exact ⟨⟨u.extract 0 n, rfl, by rw [HS.out]; omega, HN⟩, by show (u.extract 0 n).size < u.size; rw [HS.out]; omega⟩
            · have e : u = Q := by rw [← HU.out, trB_ne hn hlt h32]
              have b32 := isnt32 h32
              clear h32 hn h0 HU
              subst e
              go_wp2
              go_ret
              exact ⟨rfl, rfl⟩)
end Go.Proofs.YtegfgbcimlacbaaGreatDoor
