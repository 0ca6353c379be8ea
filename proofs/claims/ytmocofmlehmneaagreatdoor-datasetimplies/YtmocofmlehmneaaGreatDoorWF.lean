import Derived.Test.YtmocofmlehmneaaGreatDoorWD
/-
  DERIVED. Lists of lists of nodes, each in memory of its own.
-/
namespace Go.Proofs.YtmocofmlehmneaaGreatDoor.Wk
open Go Go.Proofs Go.RowKit

theorem app22 {w : World} {ops : Array Oper} {rest : List Oper} {o : Oper} {a : Act} {Q : Exit → Act → World → Prop} (hgd : o.guard = none) (s x : Operand)
    (ho : o.op = .call { callee := .builtin .append, args := #[s, x], argTypes := #[22, 22] }) (base : Nat) (v : Value) (n : Nat) (xs : List Value) (hs : a.eval s = v) (hown : w.ownsRow base 42 4 v n xs)
    (ad : Addr) (m c : Nat) (news : List Value) (hx : a.eval x = .slice (some ad) m c) (hl : news.length = m * 4) (hnews : ∀ j u, news[j]? = some u → w.cell? (ad.add j) = some u) (h1 : ∀ u ∈ news, u.oneCell' = true) (hm : 0 < m) (hsm : n + m ≤ 3518437208883) (hbase : base ≤ w.heap.size)
    (h : ∀ g cap w', w'.ownsRow base 42 4 (.slice (some ⟨g, 0, none⟩) (n + m) cap) (n + m) (xs ++ news) → w.grownBy w' v.ownBlock → (v.ownBlock = some g ∨ g = w.heap.size) → g < w'.heap.size → wpList Tryz.prog ops Q rest (a.put o.dst (.slice (some ⟨g, 0, none⟩) (n + m) cap)) w') : wpList Tryz.prog ops Q (o :: rest) a w := by
  obtain ⟨i0, hi, hz0, hz1, hz2⟩ := info_parts info34
  exact wpList_append_lies w hgd s x 22 ho base 42 i0 _ 4 40 Tryz.underlying22 hi hz0 hz1 hz2 rfl (by decide) v n xs hs hown ad m c news hx hl hnews h1 hm (by unfold maxLen; omega) (by omega) hbase _ rfl h
theorem app29 {w : World} {ops : Array Oper} {rest : List Oper} {o : Oper} {a : Act} {Q : Exit → Act → World → Prop} (hgd : o.guard = none) (s x : Operand)
    (ho : o.op = .call { callee := .builtin .append, args := #[s, x], argTypes := #[36, 36] }) (base : Nat) (v : Value) (n : Nat) (xs : List Value) (hs : a.eval s = v) (hown : w.ownsRow base 22 1 v n xs)
    (ad : Addr) (m c : Nat) (news : List Value) (hx : a.eval x = .slice (some ad) m c) (hl : news.length = m * 1) (hnews : ∀ j u, news[j]? = some u → w.cell? (ad.add j) = some u) (h1 : ∀ u ∈ news, u.oneCell' = true) (hm : 0 < m) (hsm : n + m ≤ 100000000) (hbase : base ≤ w.heap.size)
    (h : ∀ g cap w', w'.ownsRow base 22 1 (.slice (some ⟨g, 0, none⟩) (n + m) cap) (n + m) (xs ++ news) → w.grownBy w' v.ownBlock → (v.ownBlock = some g ∨ g = w.heap.size) → g < w'.heap.size → wpList Tryz.prog ops Q rest (a.put o.dst (.slice (some ⟨g, 0, none⟩) (n + m) cap)) w') : wpList Tryz.prog ops Q (o :: rest) a w := by
  obtain ⟨i0, hi, hz0, hz1, hz2⟩ := info_parts info22
  exact wpList_append_lies w hgd s x 36 ho base 22 i0 _ 1 24 Tryz.underlying36 hi hz0 hz1 hz2 rfl (by decide) v n xs hs hown ad m c news hx hl hnews h1 hm (by unfold maxLen; omega) (by omega) hbase _ rfl h

/-- A copy of nodes, perhaps of none. -/
theorem copy22 {w : World} {ops : Array Oper} {rest : List Oper} {o : Oper} {a : Act} {Q : Exit → Act → World → Prop} (hgd : o.guard = none) (s x : Operand)
    (ho : o.op = .call { callee := .builtin .append, args := #[s, x], argTypes := #[22, 22] }) (hs : a.eval s = .slice none 0 0)
    (ad : Addr) (c : Nat) (M : List Nd) (hx : a.eval x = .slice (some ad) M.length c) (hnews : ∀ j u, (nds M)[j]? = some u → w.cell? (ad.add j) = some u) (hsm : M.length ≤ 10000000)
    (h : ∀ u w', w'.ownsRow w.heap.size 42 4 u M.length (nds M) → Below w.heap.size w w' → (M = [] → u = .slice none 0 0) → (M ≠ [] → ∃ g cap, u = .slice (some ⟨g, 0, none⟩) M.length cap) → wpList Tryz.prog ops Q rest (a.put o.dst u) w') : wpList Tryz.prog ops Q (o :: rest) a w := by
  obtain ⟨i0, hi, hz0, hz1, hz2⟩ := info_parts info34
  refine wpList_append_own w hgd s x 22 ho w.heap.size 42 i0 _ 4 40 Tryz.underlying22 hi hz0 hz1 hz2 rfl (by decide) (.slice none 0 0) 0 [] hs (World.ownsRow_nil _ _ _ _) ad M.length c (nds M) hx (nds_len M) hnews (nds_one M) (by unfold maxLen; omega) (by omega) (Nat.le_refl _) ?_
  intro v' w' ho' hg' hn'
  rw [Nat.zero_add] at ho'
  refine h v' w' ho' ((Below.refl _ _).grown hg' (Nat.le_refl _) (fun k hk => by cases hk)) (fun e => hn'.2 ⟨rfl, by rw [e]; rfl⟩) (fun e => ?_)
  rcases ho'.2 with ⟨hv, -⟩ | ⟨g, cap, cur, hv, -⟩
  · exact absurd (List.length_eq_zero_iff.1 (hn'.1 hv).2) e
  · exact ⟨g, cap, hv⟩

/-- Lists of nodes, told in a list. -/
structure LSt (base : Nat) (w : World) (v : Value) (us : List Value) (LL : List (List Nd)) : Prop where
  row : w.ownsRow base 22 1 v us.length us
  len : us.length = LL.length
  each : ∀ (k : Nat) (u : Value) (M : List Nd), us[k]? = some u → LL[k]? = some M → w.ownsRow base 42 4 u M.length (nds M)
  nil : ∀ (k : Nat) (u : Value), us[k]? = some u → LL[k]? = some [] → u = .slice none 0 0
  apart : ∀ (i j : Nat) (u x : Value), us[i]? = some u → us[j]? = some x → i ≠ j → ∀ g, u.ownBlock = some g → x.ownBlock ≠ some g
  void : LL = [] → v = .slice none 0 0
theorem LSt.empty (base : Nat) (w : World) : LSt base w (.slice none 0 0) [] [] :=
  ⟨World.ownsRow_nil _ _ _ _, rfl, fun k u M h => by simp at h, fun k u h => by simp at h, fun i j u x h => by simp at h, fun _ => rfl⟩
theorem LSt.on {base : Nat} {w w' : World} {v : Value} {us : List Value} {LL : List (List Nd)} (h : LSt base w v us LL) (hb : Below w.heap.size w w') : LSt base w' v us LL :=
  ⟨ownsRow_below h.row hb (Nat.le_refl _), h.len, fun k u M hu hM => ownsRow_below (h.each k u M hu hM) hb (Nat.le_refl _), h.nil, h.apart, h.void⟩
/-- One more. -/
theorem LSt.app {base : Nat} {w W' : World} {v v' u : Value} {us : List Value} {LL : List (List Nd)} {M : List Nd} (h : LSt base w v us LL) (hu : w.ownsRow base 42 4 u M.length (nds M)) (hn : M = [] → u = .slice none 0 0) (ha : ∀ (k : Nat) (x : Value), us[k]? = some x → ∀ g, x.ownBlock = some g → u.ownBlock ≠ some g)
    (ho : W'.ownsRow base 22 1 v' (us.length + 1) (us ++ [u])) (hg : w.grownBy W' v.ownBlock) : LSt base W' v' (us ++ [u]) (LL ++ [M]) := by
  have hkeep : ∀ (x : Value) (M' : List Nd), w.ownsRow base 42 4 x M'.length (nds M') → W'.ownsRow base 42 4 x M'.length (nds M') := fun x M' hx => own_grown hx hg (fun k hk => own_apart hx h.row (by decide) k hk)
  have hl := h.len
  refine ⟨by simpa using ho, by simp [hl], fun k x N hx hN => ?_, fun k x hx hN => ?_, fun i j x y hx hy hij => ?_, fun e => by simp at e⟩
  · by_cases e : k < us.length
    · rw [List.getElem?_append_left e] at hx
      rw [List.getElem?_append_left (by omega)] at hN
      exact hkeep x N (h.each k x N hx hN)
    · rw [List.getElem?_append_right (by omega)] at hx
      rw [List.getElem?_append_right (by omega)] at hN
      rw [← hl] at hN
      obtain ⟨hk, rfl⟩ : k - us.length = 0 ∧ x = u := by
        rcases hq : k - us.length with _ | q
        · rw [hq] at hx; exact ⟨rfl, by simpa using hx.symm⟩
        · rw [hq] at hx; simp at hx
      rw [hk] at hN
      simp at hN
      subst hN
      exact hkeep x M hu
  · by_cases e : k < us.length
    · rw [List.getElem?_append_left e] at hx
      rw [List.getElem?_append_left (by omega)] at hN
      exact h.nil k x hx hN
    · rw [List.getElem?_append_right (by omega)] at hx
      rw [List.getElem?_append_right (by omega), ← hl] at hN
      rcases hq : k - us.length with _ | q
      · rw [hq] at hx hN
        simp at hx hN
        rw [← hx]
        exact hn hN
      · rw [hq] at hx; simp at hx
  · by_cases ei : i < us.length
    · rw [List.getElem?_append_left ei] at hx
      by_cases ej : j < us.length
      · rw [List.getElem?_append_left ej] at hy
        exact h.apart i j x y hx hy hij
      · rw [List.getElem?_append_right (by omega)] at hy
        rcases hq : j - us.length with _ | q
        · rw [hq] at hy
          simp at hy
          subst hy
          exact ha i x hx
        · rw [hq] at hy; simp at hy
    · rw [List.getElem?_append_right (by omega)] at hx
      rcases hq : i - us.length with _ | q
      · rw [hq] at hx
        simp at hx
        subst hx
        by_cases ej : j < us.length
        · rw [List.getElem?_append_left ej] at hy
          intro g e1 e2
          exact ha j y hy g e2 e1
        · rw [List.getElem?_append_right (by omega)] at hy
          rcases hq2 : j - us.length with _ | q
          · omega
          · rw [hq2] at hy; simp at hy
      · rw [hq] at hx; simp at hx
end Go.Proofs.YtmocofmlehmneaaGreatDoor.Wk
