import Derived.Test.YtiieikdbhpflgaaDoorN
import Derived.Deep.MidRow
/-
  DERIVED. An event that is lent.
-/
namespace Go.Proofs.YtiieikdbhpflgaaDoor
open Go Go.Proofs Go.RowKit

/-- Cells written into a row: the row is there still. -/
theorem setCells_row {g : Nat} {t : TypeId} : ∀ (vs : List Value) (o : Nat) (W : World) (Q : Array Value), W.heap[g]? = some (.cells Q t (0, 0)) → (∀ v ∈ vs, v.oneCell' = true) → Q.all (·.oneCell') = true → 0 < o →
    ∃ Q', (W.setCells g o vs).heap[g]? = some (.cells Q' t (0, 0)) ∧ Q'.size = Q.size ∧ Q'[0]? = Q[0]? ∧ Q'.all (·.oneCell') = true ∧ (∀ j, j ≠ g → (W.setCells g o vs).heap[j]? = W.heap[j]?) ∧ (∀ B, B ≤ g → Below B W (W.setCells g o vs)) ∧ (W.setCells g o vs).heap.size = W.heap.size
  | [], _, W, Q, h, _, hq, _ => ⟨Q, h, rfl, rfl, hq, fun _ _ => rfl, fun _ _ => Below.refl _ _, rfl⟩
  | v :: vs, o, W, Q, h, hv, hq, ho => by
    have he := setCell_eq_setRow W g o Q t (0, 0) v h
    have h1 : (W.setCell ⟨g, o, none⟩ v).heap[g]? = some (.cells (Q.setIfInBounds o v) t (0, 0)) := by rw [he]; exact setRow_heap W g Q _ t _ h
    have hq1 : (Q.setIfInBounds o v).all (·.oneCell') = true := by
      rw [Array.all_eq_true_iff_forall_mem] at hq ⊢
      intro u hu
      rcases Array.mem_or_eq_of_mem_setIfInBounds hu with h | h
      · exact hq u h
      · rw [h]; exact hv v (by simp)
    obtain ⟨Q', a1, a2, a3, a4, a5, a6, a7⟩ := setCells_row vs (o + 1) _ _ h1 (fun u hu => hv u (by simp [hu])) hq1 (by omega)
    refine ⟨Q', a1, by rw [a2]; simp, by rw [a3, Array.getElem?_setIfInBounds_ne (by omega)], a4, fun j hj => (a5 j hj).trans (Below.heap_setCell _ _ _ _ hj), fun B hB => ((Below.refl B W).setCell (p := ⟨g, o, none⟩) hB v).trans (a6 B hB), by rw [World.setCells, a7]; simp⟩

theorem there_row {W : World} {g : Nat} {t : TypeId} {Q : Array Value} (h : W.heap[g]? = some (.cells Q t (0, 0))) (o n : Nat) (hn : o + n ≤ Q.size) : W.there g o n := fun j hj => by
  constructor
  · rw [cell_of_row W g _ Q t _ h]
    rw [Array.getElem?_eq_getElem (by omega)]
    rfl
  · simp [World.frozen?, h]

/-- What stands between two steps: the event that came, where the answer goes, the copy. -/
structure LI (w : World) (kd : Value) (EV Z Q : Array Value) (W : World) : Prop where
  below : Below w.heap.size w W
  p : W.heap[w.heap.size]? = some (.cells EV 50)
  r : W.heap[w.heap.size + 1]? = some (.cells Z 50)
  q : W.heap[w.heap.size + 1 + 1]? = some (.cells Q 50)
  sz : Q.size = 41
  k0 : Q[0]? = some kd
  one : Q.all (·.oneCell') = true
theorem LI.size {w W : World} {kd : Value} {EV Z Q : Array Value} (h : LI w kd EV Z Q W) : w.heap.size + 3 ≤ W.heap.size := (Array.getElem?_eq_some_iff.1 h.q).1
theorem LI.on {w W W' : World} {kd : Value} {EV Z Q : Array Value} (h : LI w kd EV Z Q W) (hb : Below (w.heap.size + 3) W W') : LI w kd EV Z Q W' :=
  ⟨h.below.trans (hb.mono (by omega)), (hb.block _ (by omega)).trans h.p, (hb.block _ (by omega)).trans h.r, (hb.block _ (by omega)).trans h.q, h.sz, h.k0, h.one⟩

/-- The cells of an event. -/
structure EvOK (w : World) (EV : Array Value) (kd : Int) (k1 : Int) (c1 : Fin 18 → Value) (k2 : Int) (c2 : Fin 18 → Value) : Prop where
  sz : EV.size = 41
  kd : EV[0]? = some (.int .i64 kd)
  one : EV.all (·.oneCell') = true
  pdu : ∀ j v, (Pd k1 c1).toList[j]? = some v → EV[1 + j]? = some v
  ans : ∀ j v, (Pd k2 c2).toList[j]? = some v → EV[21 + j]? = some v
  r1 : RP w c1
  r2 : RP w c2

/-- The values that are still to be lent. -/
def GT (B : Nat) (W : World) (a : Option Addr) (j n : Nat) : Prop :=
  ∀ i, j ≤ i → i < n → ∃ g v bs, a = some ⟨g, 0, none⟩ ∧ B ≤ g ∧ W.cell? ⟨g, i * 4 + 3, none⟩ = some v ∧ W.frozen? ⟨g, i * 4 + 3, none⟩ = false ∧ V W v bs ∧ bs.length ≤ 140737488351232 ∧ ∀ b, v.ownBlock = some b → b ≠ g ∧ B ≤ b ∧ b < W.heap.size
theorem GT.same {B : Nat} {W W' : World} {a : Option Addr} {j n : Nat} (h : GT B W a j n) (hs : W.heap.size ≤ W'.heap.size) (hk : ∀ b, B ≤ b → b < W.heap.size → W'.heap[b]? = W.heap[b]?) : GT B W' a j n := by
  intro i h1 h2
  obtain ⟨g, v, bs, e, hg, hc, hf, hV, hl, ho⟩ := h i h1 h2
  have hgl := cell_lt hc
  have heq := hk g hg hgl
  refine ⟨g, v, bs, e, hg, ?_, ?_, hV.same (fun b e => hk b (ho b e).2.1 (ho b e).2.2), hl, fun b e => ⟨(ho b e).1, (ho b e).2.1, Nat.lt_of_lt_of_le (ho b e).2.2 hs⟩⟩
  · unfold World.cell? at hc ⊢; rw [heq]; exact hc
  · unfold World.frozen? at hf ⊢; rw [heq]; exact hf
theorem GT.step {B : Nat} {W W9 : World} {g j n : Nat} {u : Value} (h : GT B W (some ⟨g, 0, none⟩) j n) (hb : Below W.heap.size W W9) : GT B (W9.setCell ⟨g, j * 4 + 3, none⟩ u) (some ⟨g, 0, none⟩) (j + 1) n := by
  intro i h1 h2
  obtain ⟨g', v, bs, e, hg, hc, hf, hV, hl, ho⟩ := h i (by omega) h2
  simp only [Option.some.injEq, Addr.mk.injEq, and_true] at e
  subst e
  have hgl : g < W.heap.size := cell_lt hc
  refine ⟨g, v, bs, rfl, hg, ?_, ?_, hV.same (fun b e => ?_), hl, fun b e => ⟨(ho b e).1, (ho b e).2.1, ?_⟩⟩
  · rw [cell_set_ne (by omega)]; exact (hb.cell (p := ⟨g, i * 4 + 3, none⟩) hgl).trans hc
  · rw [World.frozen?_setCell]; exact (hb.frozen (p := ⟨g, i * 4 + 3, none⟩) hgl).trans hf
  · rw [Below.heap_setCell _ _ _ _ (show b ≠ g from (ho b e).1)]; exact hb.block b (ho b e).2.2
  · have := hb.size; have := (ho b e).2.2; simp; omega
theorem GT.of {B : Nat} {W : World} {a : Option Addr} {p n : Nat} {xs : List Value} (ho : W.ownsRow B 105 4 (.slice a n p) n xs) (hg : GV B W (.slice a n p) n xs) : GT B W a 0 n := by
  intro i _ hi
  rcases ho.2 with ⟨_, h0⟩ | ⟨g, cap, cur, e, h1, h2, h3⟩
  · omega
  · obtain ⟨x, y, z, v, bs, e0, e1, e2, e3, hV, hl, hb⟩ := hg i hi
    simp only [Value.slice.injEq] at e
    obtain ⟨rfl, _, rfl⟩ := e
    refine ⟨g, v, bs, rfl, h1, (ho.cellAt _ (by omega)).trans e3, by simp [World.frozen?, h2], hV, hl, fun b e => ⟨fun e2 => (hb b e).2.2 (by rw [e2]; rfl), (hb b e).1, (hb b e).2.1⟩⟩
end Go.Proofs.YtiieikdbhpflgaaDoor
