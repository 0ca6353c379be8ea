import Derived.Test.YtcnogjmhbkbklaaO
import Derived.Laws.AppendOwnNone
/-
  DERIVED. Lists that are gathered in one list, to be written over.
-/
namespace Go.Proofs.Ytcnogjmhbkbklaa
open Go Go.Proofs Go.RowKit

/-- Lists gathered: each in memory of its own, from H on; the list of them from bR on. -/
structure ALs (H bR : Nat) (w : World) (v : Value) (zs : List Value) : Prop where
  row : w.ownsRow bR 22 1 v zs.length zs
  each : ∀ (k : Nat) (z : Value), zs[k]? = some z → ∃ M : List Nd, M.length ≤ 1048576 ∧ w.ownsRow H 34 4 z M.length (nds M)
  apart : ∀ (i j : Nat) (u x : Value), zs[i]? = some u → zs[j]? = some x → i ≠ j → ∀ g, u.ownBlock = some g → x.ownBlock ≠ some g
  nil : zs = [] → v = .slice none 0 0
theorem ALs.empty (H bR : Nat) (w : World) : ALs H bR w (.slice none 0 0) [] :=
  ⟨World.ownsRow_nil _ _ _ _, fun k z h => by simp at h, fun i j u x h => by simp at h, fun _ => rfl⟩
theorem ALs.on {H bR : Nat} {w w' : World} {v : Value} {zs : List Value} (h : ALs H bR w v zs) (hb : Below w.heap.size w w') : ALs H bR w' v zs :=
  ⟨ownsRow_below h.row hb (Nat.le_refl _), fun k z hz => by obtain ⟨M, h1, h2⟩ := h.each k z hz; exact ⟨M, h1, ownsRow_below h2 hb (Nat.le_refl _)⟩, h.apart, h.nil⟩

theorem grown_refl (w : World) (row : Option Nat) : w.grownBy w row := by
  constructor
  all_goals first | rfl | exact Nat.le_refl _ | exact fun _ _ _ => rfl

theorem ALs.add {H bR b2 : Nat} {w W' : World} {v v' v2 : Value} {zs us : List Value} {LL : List (List Nd)} (h : ALs H bR w v zs) (hL : LSt b2 w v2 us LL) (hH : H ≤ b2) (hM : ∀ M ∈ LL, M.length ≤ 1048576)
    (hap : ∀ (i j : Nat) (u x : Value), zs[i]? = some u → us[j]? = some x → ∀ g, u.ownBlock = some g → x.ownBlock ≠ some g) (ho : W'.ownsRow bR 22 1 v' (zs.length + us.length) (zs ++ us)) (hg : w.grownBy W' v.ownBlock) (hn : zs ++ us = [] → v' = .slice none 0 0) : ALs H bR W' v' (zs ++ us) := by
  have hkeep : ∀ (x : Value) (M' : List Nd), w.ownsRow H 34 4 x M'.length (nds M') → W'.ownsRow H 34 4 x M'.length (nds M') := fun x M' hx => own_grown hx hg (fun k hk => own_apart hx h.row (by decide) k hk)
  refine ⟨by rw [List.length_append]; exact ho, fun k z hz => ?_, fun i j u x hu hx hij => ?_, hn⟩
  · by_cases e : k < zs.length
    · rw [List.getElem?_append_left e] at hz
      obtain ⟨M, h1, h2⟩ := h.each k z hz
      exact ⟨M, h1, hkeep z M h2⟩
    · rw [List.getElem?_append_right (by omega)] at hz
      have hk := (List.getElem?_eq_some_iff.1 hz).1
      rw [hL.len] at hk
      have hq := List.getElem?_eq_getElem hk
      exact ⟨_, hM _ (List.getElem_mem hk), hkeep z _ (own_base (hL.each _ z _ hz hq) hH)⟩
  · by_cases ei : i < zs.length
    · rw [List.getElem?_append_left ei] at hu
      by_cases ej : j < zs.length
      · rw [List.getElem?_append_left ej] at hx
        exact h.apart i j u x hu hx hij
      · rw [List.getElem?_append_right (by omega)] at hx
        exact hap i _ u x hu hx
    · rw [List.getElem?_append_right (by omega)] at hu
      by_cases ej : j < zs.length
      · rw [List.getElem?_append_left ej] at hx
        intro g e1 e2
        exact hap j _ x u hx hu g e2 e1
      · rw [List.getElem?_append_right (by omega)] at hx
        exact hL.apart _ _ u x hu hx (by omega)

/-- Lists are put behind those that were gathered. -/
theorem gather29 {H bR b2 : Nat} {w : World} {ops : Array Oper} {rest : List Oper} {o : Oper} {a : Act} {Q : Exit → Act → World → Prop} (hgd : o.guard = none) (s x : Operand)
    (ho : o.op = .call { callee := .builtin .append, args := #[s, x], argTypes := #[29, 29] }) {v v2 : Value} {zs us : List Value} {LL : List (List Nd)} (hs : a.eval s = v) (hx : a.eval x = v2) (h : ALs H bR w v zs) (hL : LSt b2 w v2 us LL) (hH : H ≤ b2) (hM : ∀ M ∈ LL, M.length ≤ 1048576)
    (hap : ∀ (i j : Nat) (u y : Value), zs[i]? = some u → us[j]? = some y → ∀ g, u.ownBlock = some g → y.ownBlock ≠ some g) (hsm : zs.length + us.length ≤ 10000000) (hb : bR ≤ w.heap.size)
    (hk : ∀ v' w', ALs H bR w' v' (zs ++ us) → w.grownBy w' v.ownBlock → (v'.ownBlock = v.ownBlock ∨ ∃ g, v'.ownBlock = some g ∧ w.heap.size ≤ g) → wpList Try.prog ops Q rest (a.put o.dst v') w') : wpList Try.prog ops Q (o :: rest) a w := by
  obtain ⟨i1, hi1, hy0, hy1, hy2⟩ := info_parts info22
  by_cases h0 : us = []
  · subst h0
    have hv2 : v2 = .slice none 0 0 := hL.void (List.length_eq_zero_iff.1 (by rw [← hL.len]; rfl))
    subst hv2
    refine wpList_append_own_none hgd s x 29 ho bR 22 i1 1 Try.underlying29 hi1 v zs.length zs hs h.row hx ?_
    refine hk v w ?_ (grown_refl w _) (.inl rfl)
    rw [List.append_nil]
    exact h
  · have hp : 0 < us.length := List.length_pos_iff.2 h0
    obtain ⟨g, c, rfl, -, -⟩ := hL.row.form hp
    refine wpList_append_lies w hgd s x 29 ho bR 22 i1 _ 1 24 Try.underlying29 hi1 hy0 hy1 hy2 rfl (by decide) v zs.length zs hs h.row ⟨g, 0, none⟩ us.length c us hx (by rw [Nat.mul_one]) (World.ownsRow.cells hL.row rfl) (fun u hu => ?_) hp (by unfold maxLen; omega) (by omega) hb _ rfl ?_
    · obtain ⟨k, hk1, rfl⟩ := List.mem_iff_getElem.1 hu
      have hkl : k < LL.length := by rw [← hL.len]; exact hk1
      have ho2 := hL.each k _ _ (List.getElem?_eq_getElem hk1) (List.getElem?_eq_getElem hkl)
      rcases ho2.2 with ⟨hv, -⟩ | ⟨g', c', cur, hv, -⟩ <;> rw [hv] <;> rfl
    · intro g9 c9 W9 ho9 hg9 hd9 _
      exact hk _ W9 (h.add hL hH hM hap ho9 hg9 (fun e => by simp [h0] at e)) hg9 (hd9.elim (fun e => .inl (by rw [e]; rfl)) (fun e => .inr ⟨g9, rfl, by omega⟩))

theorem LSt.keep {base : Nat} {w w' : World} {v : Value} {us : List Value} {LL : List (List Nd)} (h : LSt base w v us LL) (hv : ∀ g, v.ownBlock = some g → w'.heap[g]? = w.heap[g]?) (hu : ∀ (k : Nat) (u : Value), us[k]? = some u → ∀ g, u.ownBlock = some g → w'.heap[g]? = w.heap[g]?) : LSt base w' v us LL :=
  ⟨own_keep h.row hv, h.len, fun k u M hk hM => own_keep (h.each k u M hk hM) (hu k u hk), h.nil, h.apart, h.void⟩
theorem LSt.lt {base : Nat} {w : World} {v : Value} {us : List Value} {LL : List (List Nd)} (h : LSt base w v us LL) {k : Nat} {u : Value} (hu : us[k]? = some u) {g : Nat} (hg : u.ownBlock = some g) : base ≤ g ∧ g < w.heap.size := by
  have hk := (List.getElem?_eq_some_iff.1 hu).1
  have hkl : k < LL.length := by rw [← h.len]; exact hk
  exact (h.each k u _ hu (List.getElem?_eq_getElem hkl)).lt g hg
theorem ALs.lt {H bR : Nat} {w : World} {v : Value} {zs : List Value} (h : ALs H bR w v zs) {k : Nat} {z : Value} (hz : zs[k]? = some z) {g : Nat} (hg : z.ownBlock = some g) : H ≤ g ∧ g < w.heap.size := by
  obtain ⟨M, -, ho⟩ := h.each k z hz
  exact ho.lt g hg
/-- The list that gathers is grown: other lists are as they were. -/
theorem LSt.grown {base H bR : Nat} {w w' : World} {v v0 : Value} {us zs : List Value} {LL : List (List Nd)} (h : LSt base w v us LL) (hA : ALs H bR w v0 zs) (hg : w.grownBy w' v0.ownBlock) (hne : ∀ g, v.ownBlock = some g → v0.ownBlock ≠ some g) : LSt base w' v us LL := by
  refine h.keep (fun g e => hg.block g (h.row.lt g e).2 (fun q => hne g e q.symm)) (fun k u hu g e => hg.block g (h.lt hu e).2 (fun q => ?_))
  have hk := (List.getElem?_eq_some_iff.1 hu).1
  have hkl : k < LL.length := by rw [← h.len]; exact hk
  exact own_apart (h.each k u _ hu (List.getElem?_eq_getElem hkl)) hA.row (by decide) g e q.symm
theorem ALs.low {H H' bR : Nat} {w : World} {v : Value} {zs : List Value} (h : ALs H bR w v zs) (hH : H' ≤ H) : ALs H' bR w v zs :=
  ⟨h.row, fun k z hz => by obtain ⟨M, h1, h2⟩ := h.each k z hz; exact ⟨M, h1, own_base h2 hH⟩, h.apart, h.nil⟩
/-- A row of another kind is not among the gathered. -/
theorem ALs.other {H bR b2 n : Nat} {w : World} {v v2 : Value} {zs xs : List Value} (h : ALs H bR w v zs) (h2 : w.ownsRow b2 22 1 v2 n xs) : ∀ g, v2.ownBlock = some g → ∀ i, i < zs.length → (zs.getD i (.slice none 0 0)).ownBlock ≠ some g := by
  intro g hg i hi e
  have hz : zs[i]? = some (zs.getD i (.slice none 0 0)) := by rw [List.getD_eq_getElem?_getD, List.getElem?_eq_getElem hi]; rfl
  obtain ⟨M, -, ho⟩ := h.each i _ hz
  exact own_apart ho h2 (by decide) g e hg

set_option maxRecDepth 100000 in
theorem free_nil (w : World) : Calls Try.prog 12 #[.slice none 0 0] w fun e w' => e = .returned (.bool true) ∧ w = w' := by
  go_enter Try.func12, Try.ntmps12
  go_wp2
  refine wp_loop_rounds 1 ?_
  rw [rounds_succ]
  go_wp2
  refine wp_loop_rounds 1 ?_
  rw [rounds_succ]
  go_wp2
  refine wp_loop_rounds 1 ?_
  rw [rounds_succ]
  go_wp2
  go_ret
  exact ⟨rfl, rfl⟩

/-- Gathered lists are written over: nothing else minds. -/
theorem free_all {H bR : Nat} {w : World} {v : Value} {zs : List Value} (h : ALs H bR w v zs) (hsm : zs.length ≤ 10000000) (hH : H ≤ w.heap.size) : Calls Try.prog 12 #[v] w fun e w' => e = .returned (.bool true) ∧ KR zs.length (fun i => zs.getD i (.slice none 0 0)) w w' := by
  by_cases h0 : zs = []
  · subst h0
    rw [h.nil rfl]
    refine (free_nil w).mono ?_
    rintro e w' ⟨rfl, rfl⟩
    exact ⟨rfl, KR.refl _ _ _⟩
  · have hp : 0 < zs.length := List.length_pos_iff.2 h0
    obtain ⟨G, cap, rfl, -, hGl⟩ := h.row.form hp
    have hget : ∀ i, i < zs.length → zs[i]? = some (zs.getD i (.slice none 0 0)) := fun i hi => by rw [List.getD_eq_getElem?_getD, List.getElem?_eq_getElem hi]; rfl
    have hM : ∀ i, ∃ M : List Nd, i < zs.length → M.length ≤ 1048576 ∧ w.ownsRow H 34 4 (zs.getD i (.slice none 0 0)) M.length (nds M) := fun i => by
      by_cases hi : i < zs.length
      · obtain ⟨M, h1, h2⟩ := h.each i _ (hget i hi)
        exact ⟨M, fun _ => ⟨h1, h2⟩⟩
      · exact ⟨[], fun q => absurd q hi⟩
    obtain ⟨F, hFs⟩ := Classical.axiomOfChoice hM
    have hF : Fam zs.length G H (fun i => zs.getD i (.slice none 0 0)) (fun i => (F i).length) := by
      refine ⟨hsm, fun i hi => ?_, fun i hi => (hFs i hi).1, fun i j hi hj hij g e => h.apart i j _ _ (hget i hi) (hget j hj) hij g e, fun i hi e => ?_⟩
      · have ho := (hFs i hi).2
        rcases ho.2 with ⟨hv, hn⟩ | ⟨g, c, cur, hv, -⟩
        · exact ⟨none, 0, by rw [hv, hn], fun q => by omega⟩
        · exact ⟨_, c, hv, fun _ => ⟨g, rfl⟩⟩
      · exact own_apart (hFs i hi).2 h.row (by decide) G e rfl
    have hA : FA w zs.length G H (fun i => zs.getD i (.slice none 0 0)) (fun i => (F i).length) (fun i => nds (F i)) w :=
      ⟨fun i hi => by rw [h.row.cellAt i (by omega), hget i hi], fun i hi => (hFs i hi).2, KR.refl _ _ _⟩
    exact free_any w zs.length G H cap _ _ _ hF hA (fun j _ => nds_len _) hH
end Go.Proofs.Ytcnogjmhbkbklaa
