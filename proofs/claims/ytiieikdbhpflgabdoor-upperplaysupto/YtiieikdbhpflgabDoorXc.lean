import Derived.Test.YtiieikdbhpflgabDoorQ
import Derived.Test.YtiieikdbhpflgabDoorXb
/-
  DERIVED. lend: the event in new memory says the same.
-/
namespace Go.Proofs.YtiieikdbhpflgabDoor
open Go Go.Proofs Go.RowKit

theorem setCells_rowx {g : Nat} {t : TypeId} : ∀ (vs : List Value) (o : Nat) (W : World) (Q : Array Value), W.heap[g]? = some (.cells Q t (0, 0)) → o + vs.length ≤ Q.size → ∀ Q', (W.setCells g o vs).heap[g]? = some (.cells Q' t (0, 0)) →
    (∀ j, (j < o ∨ o + vs.length ≤ j) → Q'[j]? = Q[j]?) ∧ (∀ j v, vs[j]? = some v → Q'[o + j]? = some v)
  | [], o, W, Q, h, _, Q', h' => by
    have e : (W.setCells g o []).heap[g]? = W.heap[g]? := rfl
    rw [e, h] at h'
    obtain rfl : Q = Q' := by simpa using h'
    exact ⟨fun _ _ => rfl, fun j v hv => by simp at hv⟩
  | v :: vs, o, W, Q, h, hl, Q', h' => by
    have he := setCell_eq_setRow W g o Q t (0, 0) v h
    have h1 : (W.setCell ⟨g, o, none⟩ v).heap[g]? = some (.cells (Q.setIfInBounds o v) t (0, 0)) := by rw [he]; exact setRow_heap W g Q _ t _ h
    obtain ⟨a1, a2⟩ := setCells_rowx vs (o + 1) _ _ h1 (by simp at hl ⊢; omega) Q' h'
    refine ⟨fun j hj => ?_, fun j u hu => ?_⟩
    · rw [a1 j (by simp at hj; omega), Array.getElem?_setIfInBounds_ne (by simp at hj; omega)]
    · cases j with
      | zero =>
        simp at hu
        subst hu
        rw [Nat.add_zero, a1 o (by omega), Array.getElem?_setIfInBounds_self_of_lt (by simp at hl; omega)]
      | succ j =>
        simp at hu
        rw [show o + (j + 1) = o + 1 + j by omega]
        exact a2 j u hu
/-- An event, as it lies there and says this. -/
structure EvX (w : World) (EV : Array Value) (kd : Int) (k1 : Int) (c1 : Fin 18 → Value) (D1 : PdD) (k2 : Int) (c2 : Fin 18 → Value) (D2 : PdD) : Prop where
  sz : EV.size = 41
  kd : EV[0]? = some (.int .i64 kd)
  one : EV.all (·.oneCell') = true
  pdu : ∀ j v, (Pd k1 c1).toList[j]? = some v → EV[1 + j]? = some v
  ans : ∀ j v, (Pd k2 c2).toList[j]? = some v → EV[21 + j]? = some v
  r1 : RX w c1 D1
  r2 : RX w c2 D2
/-- A row of other things is not touched by a write into rows of values. -/
theorem owns_105 {W : World} {B s n g i : Nat} {e : TypeId} {v u : Value} {xs : List Value} {cur : Array Value} {fr : Nat × Nat} (h : W.ownsRow B e s v n xs) (he : e ≠ 78) (hg : W.heap[g]? = some (.cells cur 78 fr)) : (W.setCell ⟨g, i, none⟩ u).ownsRow B e s v n xs := by
  refine owns_same h fun b hb => Below.heap_setCell _ _ _ b fun hbg => ?_
  simp at hbg
  subst hbg
  rcases h.2 with ⟨rfl, _⟩ | ⟨g', cap, cur', rfl, _, hh, _⟩
  · cases hb
  · obtain rfl : g' = b := by simpa [Value.ownBlock] using hb
    rw [hg] at hh
    simp at hh
    exact he hh.2.1.symm
theorem InnO.set105 {base : Nat} {W : World} {rv : Value} {i : Inn} {vs : List Value} (h : InnO base W rv i vs) {g o : Nat} {u : Value} {cur : Array Value} {fr : Nat × Nat} (hg : W.heap[g]? = some (.cells cur 78 fr)) : InnO base (W.setCell ⟨g, o, none⟩ u) rv i vs := by
  cases i with
  | no => exact h
  | tx T => obtain ⟨v, h1, h2, h3, h4⟩ := h; exact ⟨v, h1, owns_105 h2 (by decide) hg, h3, h4⟩
  | «by» bs => obtain ⟨v, h1, h2, h3, h4⟩ := h; exact ⟨v, h1, ⟨owns_105 h2.1 (by decide) hg, h2.2⟩, h3, h4⟩
theorem OE.set105 {base : Nat} {W : World} {rv : Value} {ps : List El} {st : Nat} {e : TypeId} {Sh : El → Prop} (h : OE base W rv ps st e Sh) (he : e ≠ 78) {g o : Nat} {u : Value} {cur : Array Value} {fr : Nat × Nat} (hg : W.heap[g]? = some (.cells cur 78 fr)) : OE base (W.setCell ⟨g, o, none⟩ u) rv ps st e Sh := by
  obtain ⟨xs, h1, h2, h3⟩ := h
  refine ⟨xs, owns_105 h1 he hg, fun i hi => ?_, h3⟩
  obtain ⟨vs, a1, a2⟩ := h2 i hi
  exact ⟨vs, a1, a2.set105 hg⟩
/-- The values, some of them lent. -/
def VX (B K : Nat) (W : World) (a : Option Addr) (ps : List El) : Prop :=
  ∀ i (h : i < ps.length), ∃ g cur x y z bs v, a = some ⟨g, 0, none⟩ ∧ (B ≤ g ∧ g < K) ∧ W.heap[g]? = some (.cells cur 78 (0, 0)) ∧ ps[i] = ⟨[.int .u8 x, .bool y, .bool z], .by bs⟩ ∧
    (W.cell? ⟨g, i * 4, none⟩ = some (.int .u8 x) ∧ W.cell? ⟨g, i * 4 + 1, none⟩ = some (.bool y) ∧ W.cell? ⟨g, i * 4 + 2, none⟩ = some (.bool z) ∧ W.cell? ⟨g, i * 4 + 3, none⟩ = some v) ∧ (V W v bs ∧ NoCap v) ∧ bs.length ≤ 140737488351232 ∧ ∀ b, v.ownBlock = some b → b ≠ g ∧ B ≤ b ∧ b < W.heap.size
theorem VX.same {B K : Nat} {W W' : World} {a : Option Addr} {ps : List El} (h : VX B K W a ps) (hs : W.heap.size ≤ W'.heap.size) (hk : ∀ b, B ≤ b → b < W.heap.size → W'.heap[b]? = W.heap[b]?) : VX B K W' a ps := fun i hi => by
  obtain ⟨g, cur, x, y, z, bs, v, e, hg, hh, hp, ⟨c0, c1, c2, c3⟩, hV, hl, ho⟩ := h i hi
  have hgl := cell_lt c0
  have heq := hk g hg.1 hgl
  have hc : ∀ o, W'.cell? ⟨g, o, none⟩ = W.cell? ⟨g, o, none⟩ := fun o => World.cell?_of_block heq
  exact ⟨g, cur, x, y, z, bs, v, e, hg, heq.trans hh, hp, ⟨(hc _).trans c0, (hc _).trans c1, (hc _).trans c2, (hc _).trans c3⟩, ⟨hV.1.same (fun b e => hk b (ho b e).2.1 (ho b e).2.2), hV.2⟩, hl, fun b e => ⟨(ho b e).1, (ho b e).2.1, Nat.lt_of_lt_of_le (ho b e).2.2 hs⟩⟩
theorem VX.of {B K : Nat} {W : World} {a : Option Addr} {p n : Nat} {xs : List Value} {ps : List El} (ho : W.ownsRow B 78 4 (.slice a n p) n xs) (hn : ps.length = n) (hg : GE B W (.slice a n p) xs ps 4) (hs : ∀ p ∈ ps, ShV p) (hK : W.heap.size ≤ K) : VX B K W a ps := fun i hi => by
  rcases ho.2 with ⟨_, h0⟩ | ⟨g, cap, cur, e, h1, h2, h3⟩
  · omega
  · obtain ⟨rfl, rfl⟩ : a = some ⟨g, 0, none⟩ ∧ p = cap := by simpa using e
    obtain ⟨x, y, z, bs, he⟩ := hs ps[i] (List.getElem_mem hi)
    obtain ⟨vs, a1, a2⟩ := hg i hi
    rw [he] at a1 a2
    obtain ⟨v, rfl, hO, hl, hne⟩ := a2
    have hgl : g < W.heap.size := (Array.getElem?_eq_some_iff.1 h2).1
    refine ⟨g, cur, x, y, z, bs, v, rfl, ⟨h1, by omega⟩, h2, he, ⟨(ho.cellAt (i * 4) (by omega)).trans (a1 0 _ rfl), (ho.cellAt (i * 4 + 1) (by omega)).trans (a1 1 _ rfl), (ho.cellAt (i * 4 + 2) (by omega)).trans (a1 2 _ rfl), (ho.cellAt (i * 4 + 3) (by omega)).trans (a1 3 _ rfl)⟩, ⟨hO.v.1, NoCap.own hO.1⟩, hl, fun b e => ⟨fun e2 => hne b e (by rw [e2]; rfl), (hO.v.2 b e).1, (hO.v.2 b e).2⟩⟩
/-- One of them is lent. -/
theorem VX.step {B K : Nat} {W W9 : World} {g j : Nat} {ps : List El} {u : Value} {bs : List Nat} (h : VX B K W (some ⟨g, 0, none⟩) ps) (hb : Below W.heap.size W W9) (hj : j < ps.length) (hbs : ps[j].inn = .by bs) (hu : V W9 u bs ∧ NoCap u) (ho : ∀ b, u.ownBlock = some b → W.heap.size ≤ b ∧ b < W9.heap.size) (_hB : B ≤ W.heap.size) : VX B K (W9.setCell ⟨g, j * 4 + 3, none⟩ u) (some ⟨g, 0, none⟩) ps := fun i hi => by
  obtain ⟨g', cur, x, y, z, bs', v, e, hg, hh, hp, ⟨c0, c1, c2, c3⟩, hV, hl, hob⟩ := h i hi
  obtain rfl : g = g' := by simpa using e
  have hgl : g < W.heap.size := cell_lt c0
  have hh9 : W9.heap[g]? = some (.cells cur 78 (0, 0)) := (hb.block g hgl).trans hh
  have hh10 : (W9.setCell ⟨g, j * 4 + 3, none⟩ u).heap[g]? = some (.cells (cur.setIfInBounds (j * 4 + 3) u) 78 (0, 0)) := by rw [setCell_eq_setRow W9 g _ cur 78 (0, 0) u hh9]; exact setRow_heap W9 g cur _ 78 _ hh9
  have k : ∀ o v', W.cell? ⟨g, o, none⟩ = some v' → o ≠ j * 4 + 3 → (W9.setCell ⟨g, j * 4 + 3, none⟩ u).cell? ⟨g, o, none⟩ = some v' := fun o v' hv hne => (cell_set_ne (Ne.symm hne)).trans ((hb.cell (p := ⟨g, o, none⟩) hgl).trans hv)
  by_cases hij : i = j
  · subst hij
    rw [hp] at hbs
    obtain rfl : bs' = bs := by simpa using hbs
    refine ⟨g, _, x, y, z, bs', u, rfl, hg, hh10, hp, ⟨k _ _ c0 (by omega), k _ _ c1 (by omega), k _ _ c2 (by omega), cell_set_eq ((hb.cell (p := ⟨g, i * 4 + 3, none⟩) hgl).trans c3)⟩, ⟨hu.1.same (fun b e => Below.heap_setCell _ _ _ _ (show b ≠ g by have := (ho b e).1; omega)), hu.2⟩, hl, fun b e => ?_⟩
    have := ho b e
    exact ⟨by omega, by omega, by simpa using this.2⟩
  · refine ⟨g, _, x, y, z, bs', v, rfl, hg, hh10, hp, ⟨k _ _ c0 (by omega), k _ _ c1 (by omega), k _ _ c2 (by omega), k _ _ c3 (by omega)⟩, ⟨hV.1.same (fun b e => ?_), hV.2⟩, hl, fun b e => ⟨(hob b e).1, (hob b e).2.1, ?_⟩⟩
    · rw [Below.heap_setCell _ _ _ _ (show b ≠ g from (hob b e).1)]; exact hb.block b (hob b e).2.2
    · have := hb.size; have := (hob b e).2.2; simp; omega
theorem VX.rd {B K : Nat} {W : World} {a : Option Addr} {p : Nat} {ps : List El} (h : VX B K W a ps) (hnc : NoCap (.slice a ps.length p)) : RE W (.slice a ps.length p) ps 4 ShV := by
  refine ⟨hnc, a, p, rfl, fun q hq => ?_, fun hn => ?_⟩
  · obtain ⟨i, hi, rfl⟩ := List.getElem_of_mem hq
    obtain ⟨g, cur, x, y, z, bs, v, e, hg, hh, hp, _⟩ := h i hi
    exact ⟨x, y, z, bs, hp⟩
  · obtain ⟨g, cur, x, y, z, bs, v, e, _⟩ := h 0 hn
    refine ⟨g, 0, e, fun k hk => ?_⟩
    obtain ⟨g', cur, x, y, z, bs, v, e', hg, hh, hp, ⟨c0, c1, c2, c3⟩, hV, hl, ho⟩ := h k hk
    obtain rfl : g = g' := by rw [e] at e'; simpa using e'
    refine ⟨[v], fun j u hu => ?_, ?_⟩
    · rw [hp] at hu
      rw [Nat.zero_add]
      match j, hu with
      | 0, hu => simp at hu; subst hu; exact c0
      | 1, hu => simp at hu; subst hu; exact c1
      | 2, hu => simp at hu; subst hu; exact c2
      | 3, hu => simp at hu; subst hu; exact c3
      | j + 4, hu => simp at hu
    · rw [hp]; exact ⟨v, rfl, hV.1, hl, hV.2⟩
end Go.Proofs.YtiieikdbhpflgabDoor
