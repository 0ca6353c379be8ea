import Derived.Test.YtnamkcfmbefkfaaDoorNa
import Derived.Test.YtnamkcfmbefkfaaDoorQ
import Derived.Lib.TrimByte
/-
  DERIVED. Texts without the spaces around them; classes, syntaxes.
-/
namespace Go.Proofs.YtnamkcfmbefkfaaDoor
open Go Go.Proofs Go.RowKit

/-- A text without the spaces around it. -/
def tmT (s : ByteArray) : ByteArray := ⟨(Lib.trimB s.data.toList 32).toArray⟩
theorem trim_sp (w : World) (s : ByteArray) (hs : s.size ≤ 140737488351232) : Calls Tryd.prog 34 #[.string s, .string { data := #[32] }] w fun e w' => e = .returned (.string (tmT s)) ∧ ∃ m, w' = w.drewN m :=
  (Go.Proofs.Any.strings_Trim_one Ng.tmLays160 s 32 (by decide) w (by omega)).mono fun _ _ h => ⟨h.1, by rcases h.2 with h | h <;> rw [h]; exact ⟨0, rfl⟩; exact ⟨1, rfl⟩⟩
theorem trimR_cons (x : UInt8) (t : List UInt8) (c : UInt8) : Lib.trimRightB (x :: t) c = if Lib.trimRightB t c = [] then (if x == c then [] else [x]) else x :: Lib.trimRightB t c := by
  unfold Lib.trimRightB
  rw [List.reverse_cons, List.dropWhile_append]
  by_cases h : (t.reverse.dropWhile (· == c)).isEmpty = true
  · have h' : t.reverse.dropWhile (· == c) = [] := List.isEmpty_iff.1 h
    rw [if_pos h, h', if_pos (by simp)]
    by_cases hx : (x == c) = true
    · rw [if_pos hx]; simp [hx]
    · rw [if_neg hx]; simp [hx]
  · rw [if_neg h, if_neg (by simpa using h)]
    simp
/-- First the left end, then the right one, or the other way. -/
theorem trim_comm (c : UInt8) : ∀ l : List UInt8, Lib.trimRightB (Lib.trimLeftB l c) c = Lib.trimB l c
  | [] => rfl
  | x :: t => by
    have ih := trim_comm c t
    unfold Lib.trimB at ih ⊢
    have hl : ∀ l : List UInt8, Lib.trimLeftB (x :: l) c = if x == c then Lib.trimLeftB l c else x :: l := fun l => by
      unfold Lib.trimLeftB
      by_cases h : (x == c) = true
      · rw [if_pos h, List.dropWhile_cons_of_pos (by simpa using h)]
      · rw [if_neg h, List.dropWhile_cons_of_neg (by simpa using h)]
    rw [hl, trimR_cons]
    by_cases hx : (x == c) = true
    · rw [if_pos hx, if_pos hx, ih]
      split
      · rename_i h; rw [h]
      · rw [hl, if_pos hx]
    · rw [if_neg hx, if_neg hx, trimR_cons, if_neg hx]
      split
      · rw [hl, if_neg hx]
      · rw [hl, if_neg hx]
/-- What the right end's cut makes of it. -/
def tmF (T : ByteArray) (M : List UInt8) : Prop := T = ⟨(Lib.trimRightB M 32).toArray⟩
def isS : Value → Nat
  | .string t => t.size
  | _ => 0
set_option maxRecDepth 100000 in
set_option maxHeartbeats 4000000 in
theorem bare_any (w : World) (s : ByteArray) (hs : s.size ≤ 140737488351232) : Calls Tryd.prog 33 #[.string s] w fun e w' => e = .returned (.string (tmT s)) ∧ ∃ m, w' = w.drewN m := by
  obtain ⟨L, hL⟩ : ∃ L, s.data.toList = L := ⟨_, rfl⟩
  have hsL : s = ⟨L.toArray⟩ := by rw [← hL]
  have hz : L.length ≤ 140737488351232 := by rw [← hL, Array.length_toList]; exact hs
  have HT : Hid (tmT s = ⟨(Lib.trimB L 32).toArray⟩) := by show _ = _; rw [tmT, hL]
  subst hsL
  clear hL hs
  generalize tmT ⟨L.toArray⟩ = T at HT ⊢
  go_enter Tryd.func33, Tryd.ntmps33
  go_wp2
  have e0 : (⟨L.toArray⟩ : ByteArray) = ⟨(L.drop 0).toArray⟩ := by rw [List.drop_zero]
  go_loop [0] (fun x => ∃ k : Nat, x = .string ⟨(L.drop k).toArray⟩ ∧ k ≤ L.length ∧ Hid (∀ (j : Nat) b, j < k → L[j]? = some b → b = 32)) (fun x => isS x)
  case atStart => exact ⟨0, rfl, Nat.zero_le _, fun j b h => absurd h (Nat.not_lt_zero _)⟩
  case round =>
    obtain ⟨k, rfl, hk, HK⟩ := hrel
    clear e0
    have hsz : (⟨(L.drop k).toArray⟩ : ByteArray).size = L.length - k := by rw [Lib.size_mk, List.length_drop]
    obtain ⟨m, hm⟩ : ∃ m, L.length - k = m := ⟨_, rfl⟩
    rw [hm] at hsz
    by_cases h0 : 0 < m
    · have i0 : (m : Int) > 0 := by omega
      obtain ⟨x, hx⟩ : ∃ x, L[k]? = some x := ⟨L[k]'(by omega), List.getElem?_eq_getElem _⟩
      have hg : ∀ h, (⟨(L.drop k).toArray⟩ : ByteArray)[0]'h = x := fun h => by
        have := Lib.getElem_mk (L.drop k) 0 h
        rw [List.getElem?_drop, Nat.add_zero, hx] at this
        exact (Option.some.inj this).symm
      have hx2 : (x.toNat : Int) = 32 ∨ ¬ (x.toNat : Int) = 32 := by omega
      rcases hx2 with hx2 | hx2
      · go_wp2
        refine ⟨⟨k + 1, ?_, by omega, ?_⟩, ?_⟩
        · rw [Lib.extract_mk, List.drop_drop, List.take_of_length_le (by rw [List.length_drop]; omega)]
        · show ∀ (j : Nat) b, j < k + 1 → L[j]? = some b → b = 32
          intro j b hj hb
          by_cases hjk : j < k
          · exact HK.out j b hjk hb
          · obtain rfl : j = k := by omega
            rw [hx] at hb
            obtain rfl := Option.some.inj hb
            have hx3 : x.toNat = 32 := by omega
            exact UInt8.toNat_inj.1 (hx3.trans rfl)
        · rw [Lib.extract_mk, isS, isS, Lib.size_mk, hsz, List.length_take, List.length_drop, List.length_drop]
          omega
      · have HX : Hid (∀ b, L[k]? = some b → b ≠ 32) := by
          show ∀ b, L[k]? = some b → b ≠ 32
          intro b hb
          rw [hx] at hb
          obtain rfl := Option.some.inj hb
          rintro rfl
          exact hx2 rfl
        have HD : Hid (Lib.trimLeftB L 32 = L.drop k) := Lib.trimLeftB_drop L 32 k hk HK.out HX.out
        clear HK
        go_wp2
        obtain ⟨M, hM⟩ : ∃ M, L.drop k = M := ⟨_, rfl⟩
        rw [hM] at hsz ⊢
        have HM : Hid (tmF T M) := by
          show T = _
          rw [HT.out, ← trim_comm, HD.out, hM]
        have hMl : M.length = m := by rw [← Lib.size_mk]; exact hsz
        obtain ⟨y, hy⟩ : ∃ y, (⟨M.toArray⟩ : ByteArray) = y := ⟨_, rfl⟩
        have e1 : y = ⟨(M.take m).toArray⟩ := by rw [← hy, ← hMl, List.take_length]
        rw [hy]
        clear hg hx hx2 HX hsz hy
        go_loop [0] (fun x => ∃ j : Nat, x = .string ⟨(M.take j).toArray⟩ ∧ j ≤ M.length ∧ Hid (∀ (i : Nat) b, j ≤ i → M[i]? = some b → b = 32)) (fun x => isS x)
        case atStart => exact ⟨m, by rw [e1], by omega, fun i b h hb => by have := (List.getElem?_eq_some_iff.1 hb).1; omega⟩
        case round =>
          obtain ⟨j, rfl, hj, HJ⟩ := hrel
          have hs2 : (⟨(M.take j).toArray⟩ : ByteArray).size = j := by rw [Lib.size_mk, List.length_take]; omega
          by_cases h2 : 0 < j
          · obtain ⟨i, rfl⟩ : ∃ i, j = i + 1 := ⟨j - 1, by omega⟩
            have i1 : ((i + 1 : Nat) : Int) > 0 := by omega
            have i2 : ((i + 1 : Nat) : Int) - 1 = (i : Int) := by omega
            obtain ⟨z, hz2⟩ : ∃ z, M[i]? = some z := ⟨M[i]'(by omega), List.getElem?_eq_getElem _⟩
            have hg2 : ∀ h, (⟨(M.take (i + 1)).toArray⟩ : ByteArray)[i]'h = z := fun h => by
              have := Lib.getElem_mk (M.take (i + 1)) i h
              rw [List.getElem?_take, if_pos (by omega), hz2] at this
              exact (Option.some.inj this).symm
            have hz3 : (z.toNat : Int) = 32 ∨ ¬ (z.toNat : Int) = 32 := by omega
            rcases hz3 with hz3 | hz3
            · go_wp2
              all_goals refine ⟨⟨i, ?_, by omega, ?_⟩, ?_⟩
              · rw [Lib.extract_mk, List.drop_zero, List.take_take]
                rw [Nat.min_eq_left (by omega)]
                rfl
              · show ∀ (r : Nat) b, i ≤ r → M[r]? = some b → b = 32
                intro r b hr hb
                by_cases hri : i + 1 ≤ r
                · exact HJ.out r b hri hb
                · obtain rfl : r = i := by omega
                  rw [hz2] at hb
                  obtain rfl := Option.some.inj hb
                  have hz4 : z.toNat = 32 := by omega
                  exact UInt8.toNat_inj.1 (hz4.trans rfl)
              · rw [Lib.extract_mk, isS, isS, hs2, Lib.size_mk, List.drop_zero, List.length_take, List.length_take]
                omega
            · have HR : Hid (T = ⟨(M.take (i + 1)).toArray⟩) := by
                show T = _
                rw [show T = _ from HM.out, Lib.trimRightB_take M 32 (i + 1) hj HJ.out (fun b _ hb => by
                  rw [show i + 1 - 1 = i by omega, hz2] at hb
                  obtain rfl := Option.some.inj hb
                  rintro rfl
                  exact hz3 rfl)]
              go_wp2
              all_goals (go_ret; exact ⟨by rw [HR.out]; rfl, 0, rfl⟩)
          · have i1 : ¬ (j : Int) > 0 := by omega
            have HR : Hid (T = ⟨(M.take j).toArray⟩) := by
              show T = _
              rw [show T = _ from HM.out, Lib.trimRightB_take M 32 j hj HJ.out (fun b h _ => absurd h h2)]
            go_wp2
            go_ret
            exact ⟨by rw [HR.out]; rfl, 0, rfl⟩
    · have i0 : ¬ (m : Int) > 0 := by omega
      have HD : Hid (Lib.trimLeftB L 32 = L.drop k) := Lib.trimLeftB_drop L 32 k hk HK.out (fun b hb => by have := (List.getElem?_eq_some_iff.1 hb).1; omega)
      clear HK
      go_wp2
      obtain ⟨M, hM⟩ : ∃ M, L.drop k = M := ⟨_, rfl⟩
      rw [hM] at hsz ⊢
      have HM : Hid (tmF T M) := by
        show T = _
        rw [HT.out, ← trim_comm, HD.out, hM]
      have hMl : M.length = m := by rw [← Lib.size_mk]; exact hsz
      obtain ⟨y, hy⟩ : ∃ y, (⟨M.toArray⟩ : ByteArray) = y := ⟨_, rfl⟩
      have e1 : y = ⟨(M.take m).toArray⟩ := by rw [← hy, ← hMl, List.take_length]
      rw [hy]
      clear hsz hy
      go_loop [0] (fun x => ∃ j : Nat, x = .string ⟨(M.take j).toArray⟩ ∧ j ≤ M.length ∧ Hid (∀ (i : Nat) b, j ≤ i → M[i]? = some b → b = 32)) (fun x => isS x)
      case atStart => exact ⟨m, by rw [e1], by omega, fun i b h hb => by have := (List.getElem?_eq_some_iff.1 hb).1; omega⟩
      case round =>
        obtain ⟨j, rfl, hj, HJ⟩ := hrel
        have hs2 : (⟨(M.take j).toArray⟩ : ByteArray).size = j := by rw [Lib.size_mk, List.length_take]; omega
        by_cases h2 : 0 < j
        · obtain ⟨i, rfl⟩ : ∃ i, j = i + 1 := ⟨j - 1, by omega⟩
          have i1 : ((i + 1 : Nat) : Int) > 0 := by omega
          have i2 : ((i + 1 : Nat) : Int) - 1 = (i : Int) := by omega
          obtain ⟨z, hz2⟩ : ∃ z, M[i]? = some z := ⟨M[i]'(by omega), List.getElem?_eq_getElem _⟩
          have hg2 : ∀ h, (⟨(M.take (i + 1)).toArray⟩ : ByteArray)[i]'h = z := fun h => by
            have := Lib.getElem_mk (M.take (i + 1)) i h
            rw [List.getElem?_take, if_pos (by omega), hz2] at this
            exact (Option.some.inj this).symm
          have hz3 : (z.toNat : Int) = 32 ∨ ¬ (z.toNat : Int) = 32 := by omega
          rcases hz3 with hz3 | hz3
          · go_wp2
            all_goals refine ⟨⟨i, ?_, by omega, ?_⟩, ?_⟩
            · rw [Lib.extract_mk, List.drop_zero, List.take_take]
              rw [Nat.min_eq_left (by omega)]
              rfl
            · show ∀ (r : Nat) b, i ≤ r → M[r]? = some b → b = 32
              intro r b hr hb
              by_cases hri : i + 1 ≤ r
              · exact HJ.out r b hri hb
              · obtain rfl : r = i := by omega
                rw [hz2] at hb
                obtain rfl := Option.some.inj hb
                have hz4 : z.toNat = 32 := by omega
                exact UInt8.toNat_inj.1 (hz4.trans rfl)
            · rw [Lib.extract_mk, isS, isS, hs2, Lib.size_mk, List.drop_zero, List.length_take, List.length_take]
              omega
          · have HR : Hid (T = ⟨(M.take (i + 1)).toArray⟩) := by
              show T = _
              rw [show T = _ from HM.out, Lib.trimRightB_take M 32 (i + 1) hj HJ.out (fun b _ hb => by
                rw [show i + 1 - 1 = i by omega, hz2] at hb
                obtain rfl := Option.some.inj hb
                rintro rfl
                exact hz3 rfl)]
            go_wp2
            all_goals (go_ret; exact ⟨by rw [HR.out]; rfl, 0, rfl⟩)
        · have i1 : ¬ (j : Int) > 0 := by omega
          have HR : Hid (T = ⟨(M.take j).toArray⟩) := by
            show T = _
            rw [show T = _ from HM.out, Lib.trimRightB_take M 32 j hj HJ.out (fun b h _ => absurd h h2)]
          go_wp2
          go_ret
          exact ⟨by rw [HR.out]; rfl, 0, rfl⟩
end Go.Proofs.YtnamkcfmbefkfaaDoor
