import Derived.Test.YtohojghndnfgdaaDoorPn
/-
  DERIVED. The document's group.
-/
namespace Go.Proofs.YtohojghndnfgdaaDoor
open Go Go.Proofs Go.RowKit

theorem dropE_snoc (ys : List (List UInt8)) (y : List UInt8) : dropE (ys ++ [y]) = if y.isEmpty = true then dropE ys else ys ++ [y] := by
  unfold dropE
  rw [List.reverse_append, List.reverse_singleton, List.singleton_append, List.dropWhile_cons]
  split
  · rfl
  · rw [List.reverse_cons, List.reverse_reverse]
theorem dropE_take (xs : List (List UInt8)) : ∀ (n m : Nat), m ≤ n → n ≤ xs.length → (∀ j, m ≤ j → j < n → xs[j]? = some []) → (m = 0 ∨ ∃ x, xs[m - 1]? = some x ∧ x ≠ []) → dropE (xs.take n) = xs.take m
  | 0, m, h, _, _, _ => by
    obtain rfl : m = 0 := by omega
    rfl
  | n + 1, m, h, hl, hj, hm => by
    have hn : n < xs.length := by omega
    have e : xs.take (n + 1) = xs.take n ++ [xs[n]] := by rw [List.take_add_one, List.getElem?_eq_getElem hn]; rfl
    rw [e, dropE_snoc]
    by_cases hmn : m = n + 1
    · subst hmn
      rcases hm with hm | ⟨x, hx, hne⟩
      · omega
      · rw [Nat.add_sub_cancel, List.getElem?_eq_getElem hn] at hx
        obtain rfl := Option.some.inj hx
        rw [if_neg (by cases hh : xs[n] with | nil => exact absurd hh hne | cons a l => simp), ← e]
    · have h0 := hj n (by omega) (by omega)
      rw [List.getElem?_eq_getElem hn] at h0
      rw [Option.some.inj h0, if_pos (show ([] : List UInt8).isEmpty = true from rfl)]
      exact dropE_take xs n m (by omega) (by omega) (fun j a b => hj j a (by omega)) hm
theorem l5_at (L : List ByteArray) (j : Nat) (h : j < 5) : (l5 L)[j]? = some (t5 L j).data.toList := by
  rcases (by omega : j = 0 ∨ j = 1 ∨ j = 2 ∨ j = 3 ∨ j = 4) with rfl | rfl | rfl | rfl | rfl <;> rfl
theorem empty_list {x : ByteArray} : x.data.toList = [] ↔ x.toList.isEmpty = true := by
  rw [ByteArray.toList_eq, List.isEmpty_iff]
/-- The first so many, joined. -/
def jt (L : List ByteArray) (c : Nat) : ByteArray := ⟨(Lib.join ((l5 L).take c) [94]).toArray⟩
theorem ba_cat (l m : List UInt8) : (⟨l.toArray⟩ : ByteArray) ++ ⟨m.toArray⟩ = ⟨(l ++ m).toArray⟩ := by
  apply ByteArray.ext
  simp
theorem jt_one (L : List ByteArray) : jt L 1 = t5 L 0 := by
  unfold jt
  show (⟨(Lib.join [(t5 L 0).data.toList] [94]).toArray⟩ : ByteArray) = _
  rw [Lib.join_one]
theorem jt_next (L : List ByteArray) (c : Nat) (h0 : 0 < c) (hc : c < 5) : (jt L c ++ ⟨#[94]⟩) ++ t5 L c = jt L (c + 1) := by
  have e : (l5 L).take (c + 1) = (l5 L).take c ++ [(t5 L c).data.toList] := by rw [List.take_add_one, l5_at L c hc]; rfl
  unfold jt
  rw [e, join_snoc _ _ _ (by rcases (by omega : c = 1 ∨ c = 2 ∨ c = 3 ∨ c = 4) with rfl | rfl | rfl | rfl <;> simp [l5])]
  have e2 : t5 L c = ⟨(t5 L c).data.toList.toArray⟩ := by cases t5 L c; simp
  rw [e2]
  show ((⟨(Lib.join ((l5 L).take c) [94]).toArray⟩ : ByteArray) ++ ⟨([94] : List UInt8).toArray⟩) ++ ⟨(t5 L c).data.toList.toArray⟩ = _
  rw [ba_cat, ba_cat, List.append_assoc]
theorem jt_size (L : List ByteArray) (h : ∀ j, j < 5 → (t5 L j).size ≤ 1048576) (c : Nat) (hc : c ≤ 5) : (jt L c).size ≤ 5242885 := by
  show (Lib.join ((l5 L).take c) [94]).toArray.size ≤ _
  rw [List.size_toArray]
  have h1 := join_len [94] ((l5 L).take c)
  have h4 : (((l5 L).take c).map List.length).sum ≤ 5242880 := by
    have e0 := h 0 (by omega); have e1 := h 1 (by omega); have e2 := h 2 (by omega); have e3 := h 3 (by omega); have e4 := h 4 (by omega)
    have q : ∀ x : ByteArray, x.data.toList.length = x.size := fun x => by rw [Array.length_toList]; rfl
    rcases (by omega : c = 0 ∨ c = 1 ∨ c = 2 ∨ c = 3 ∨ c = 4 ∨ c = 5) with rfl | rfl | rfl | rfl | rfl | rfl <;> simp only [l5, List.take_succ_cons, List.take_zero, List.map_cons, List.map_nil, List.sum_cons, List.sum_nil, q] <;> omega
  have h5 : ((l5 L).take c).length ≤ 5 := by rw [List.length_take]; show min c 5 ≤ 5; omega
  have h6 : ([94] : List UInt8).length = 1 := rfl
  rw [h6] at h1
  omega

set_option maxRecDepth 100000 in
set_option maxHeartbeats 4000000 in
theorem group20_any (w : World) (L : List ByteArray) (hL : ∀ j, j < 5 → (t5 L j).size ≤ 1048576) : Calls Tryd.prog 20 #[.agg (a5 L)] w fun e w' => e = .returned (.string (gB L)) ∧ Below w.heap.size w w' := by
  obtain ⟨B, hB⟩ : ∃ B, w.heap.size = B := ⟨_, rfl⟩
  obtain ⟨R, hR⟩ : ∃ R, gB L = R := ⟨_, rfl⟩
  have HR : Hid (gB L = R) := hR
  rw [hR]
  clear hR
  have HX0 : Hid (BX w (w.alloc (.cells (a5 L) 22)) B L) := by
    have := row5_of w L
    rw [hB] at this
    exact ⟨this, (Below.refl _ w).alloc (by omega) _⟩
  have HLL : Hid (∀ j, j < 5 → (t5 L j).size ≤ 1048576) := hL
  clear hL
  rw [drop5] at HX0 ⊢
  obtain ⟨W0, hW0⟩ : ∃ W0, w.alloc (.cells #[.string (t5 L 0), .string (t5 L 1), .string (t5 L 2), .string (t5 L 3), .string (t5 L 4)] 22) = W0 := ⟨_, rfl⟩
  rw [hW0] at HX0
  go_enter Tryd.func20, Tryd.ntmps20
  go_wp2
  go_loopg [4, 5] 5 (fun g s4 s5 wx => ∃ (c m : Nat), s4 = .int .i64 ((m : Int) - 1) ∧ s5 = .int .i64 (c : Int) ∧ g + c = 5 ∧ m ≤ c ∧ Hid (∀ j, m ≤ j → j < c → (l5 L)[j]? = some []) ∧ Hid (m = 0 ∨ ∃ x, (l5 L)[m - 1]? = some x ∧ x ≠ []) ∧ W0 = wx)
  case atStart => exact ⟨0, 0, rfl, rfl, rfl, by omega, (fun j _ h => absurd h (Nat.not_lt_zero _)), Or.inl rfl, rfl⟩
  case round =>
    obtain ⟨c, m, rfl, rfl, hg, hmc, HJ, HM, rfl⟩ := hrel
    by_cases hc : c < 5
    · have hcI : (c : Int) < 5 := by omega
      have kc : W0.cell? ⟨B, c, none⟩ = some (.string (t5 L c)) := HX0.out.row.cell (i := c) hc
      have hl := l5_at L c hc
      obtain ⟨x, hx⟩ : ∃ x, t5 L c = x := ⟨_, rfl⟩
      rw [hx] at kc hl
      cases hem : x.toList.isEmpty with
      | true =>
        have hem2 : (x.toList == []) = true := by rw [List.isEmpty_iff] at hem; rw [hem]; rfl
        have HJ2 : Hid (∀ j, m ≤ j → j < c + 1 → (l5 L)[j]? = some []) := fun j h1 h2 => by
          by_cases hj : j = c
          · subst hj; rw [hl, empty_list.2 hem]
          · exact HJ.out j h1 (by omega)
        clear HJ hl
        go_wp2
        go_roundg (5 - (c + 1))
        case measure => omega
        case rel => exact ⟨c + 1, m, rfl, by first | rfl | simp, by omega, by omega, HJ2, HM, rfl⟩
      | false =>
        have hem2 : (x.toList == []) = false := by
          rw [beq_eq_false_iff_ne]
          intro h
          rw [h] at hem
          cases hem
        have HM2 : Hid (c + 1 = 0 ∨ ∃ x, (l5 L)[c + 1 - 1]? = some x ∧ x ≠ []) := Or.inr ⟨_, hl, fun h => by rw [empty_list] at h; rw [hem] at h; cases h⟩
        clear HJ HM hl
        go_wp2
        go_roundg (5 - (c + 1))
        case measure => omega
        case rel => exact ⟨c + 1, c + 1, by first | rfl | (simp; omega) | (congr 1; omega), by first | rfl | simp, by omega, by omega, (fun j h1 h2 => absurd h2 (by omega)), HM2, rfl⟩
    · obtain rfl : c = 5 := by omega
      have hdt := dropE_take (l5 L) 5 m hmc (Nat.le_refl _) HJ.out HM.out
      have hRj : R = jt L m := by
        rw [← HR.out]
        unfold gB jt
        rw [show dropE (l5 L) = dropE ((l5 L).take 5) from rfl, hdt]
      have HRJ : Hid (R = jt L m) := hRj
      have hmI : (m : Int) ≤ 5 := by omega
      clear hdt hRj HJ HM HR hg
      go_wp2
      go_loopg [3, 6] m (fun g s3 s6 wx => ∃ (c : Nat) (u : ByteArray), s3 = .string u ∧ s6 = .int .i64 (c : Int) ∧ g + c = m ∧ u.size ≤ 5242885 ∧ Hid (u = jt L c) ∧ W0 = wx)
      case atStart => exact ⟨0, ⟨#[]⟩, rfl, rfl, by omega, by show 0 ≤ _; omega, rfl, rfl⟩
      case round =>
        obtain ⟨c, u, rfl, rfl, hg2, hus, HU, rfl⟩ := hrel
        by_cases hc : c < m
        · have hcI : (c : Int) ≤ (m : Int) - 1 := by omega
          have kc : W0.cell? ⟨B, c, none⟩ = some (.string (t5 L c)) := HX0.out.row.cell (i := c) (by omega)
          have hxs := HLL.out c (by omega)
          have hc5I : (c : Int) < 5 := by omega
          obtain ⟨x, hx⟩ : ∃ x, t5 L c = x := ⟨_, rfl⟩
          rw [hx] at kc hxs
          by_cases h0 : c = 0
          · have hu0 : u = ⟨#[]⟩ := by rw [HU.out, h0]; rfl
            have HU2 : Hid (x = jt L (c + 1)) := by show _ = _; rw [h0, jt_one, ← hx, h0]
            have hc0 : ¬ ((0 : Int) < (c : Int)) := by omega
            subst hu0
            have hee : (⟨#[]⟩ : ByteArray) ++ x = x := ByteArray.empty_append
            clear h0 HU hx
            go_wp2
            go_roundg (m - (c + 1))
            case measure => omega
            case rel => exact ⟨c + 1, x, by first | rfl | (rw [hee]), by first | rfl | simp, by omega, by omega, HU2, rfl⟩
          · have hc0 : (0 : Int) < (c : Int) := by omega
            have hn := jt_next L c (by omega) (by omega)
            rw [← HU.out, hx] at hn
            obtain ⟨u1, hu1⟩ : ∃ u1, u ++ (⟨#[94]⟩ : ByteArray) = u1 := ⟨_, rfl⟩
            rw [hu1] at hn
            have hu1s : u1.size ≤ 5242886 := by rw [← hu1, ByteArray.size_append]; show u.size + 1 ≤ _; omega
            obtain ⟨u2, hu2⟩ : ∃ u2, u1 ++ x = u2 := ⟨_, rfl⟩
            have HU2 : Hid (u2 = jt L (c + 1)) := hu2.symm.trans hn
            have hu2s : u2.size ≤ 5242885 := by rw [HU2.out]; exact jt_size L HLL.out (c + 1) (by omega)
            clear h0 HU hx hn
            go_wp2
            go_roundg (m - (c + 1))
            case measure => omega
            case rel => exact ⟨c + 1, u2, by first | rfl | (rw [hu2]), by first | rfl | simp, by omega, hu2s, HU2, rfl⟩
        · have hcI : ¬ ((c : Int) ≤ (m : Int) - 1) := by omega
          have huR : u = R := by rw [HU.out, HRJ.out, show c = m by omega]
          subst huR
          clear HU HRJ
          go_wp2
          go_ret
          exact ⟨rfl, by first | exact HX0.out.bel | (rw [hB]; exact HX0.out.bel)⟩
end Go.Proofs.YtohojghndnfgdaaDoor
