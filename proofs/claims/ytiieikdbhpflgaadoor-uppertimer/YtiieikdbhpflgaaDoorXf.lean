import Derived.Test.YtiieikdbhpflgaaDoorXe
/-
  DERIVED. What copied goes by.
-/
namespace Go.Proofs.YtiieikdbhpflgaaDoor
open Go Go.Proofs Go.RowKit

/-- A row that was copied cell by cell; the lists inside of it are new up to a place. -/
def LP (lo : Nat) (w W : World) (rv : Value) (n : Nat) (e : TypeId) (st : Nat) (ps : List El) (i : Nat) : Prop :=
  ∃ xs, W.ownsRow lo e st rv n xs ∧ ∀ q (h : q < ps.length), ∃ vs, (ps[q].fl ++ vs).length = st ∧ (∀ j u, (ps[q].fl ++ vs)[j]? = some u → xs[q * st + j]? = some u) ∧ (q < i → InnO lo W rv ps[q].inn vs) ∧ (i ≤ q → InnR w ps[q].inn vs)
theorem LP.step {lo : Nat} {w W W9 : World} {g n cp : Nat} {e : TypeId} {st : Nat} {ps : List El} {i f : Nat} {u : Value} (h : LP lo w W (.slice (some ⟨g, 0, none⟩) n cp) n e st ps i) (hi : i < ps.length) (hf : ps[i].fl.length = f) (hfs : f + 1 = st) (hb : Below W.heap.size W W9)
    (hu : InnO lo W9 (.slice (some ⟨g, 0, none⟩) n cp) ps[i].inn [u]) : LP lo w (W9.setCell ⟨g, i * st + f, none⟩ u) (.slice (some ⟨g, 0, none⟩) n cp) n e st ps (i + 1) := by
  obtain ⟨xs, ho, hs⟩ := h
  have ho9 := owns_next ho hb
  have hgne : ∀ b, (Value.slice (some ⟨g, 0, none⟩) n cp).ownBlock ≠ some b → b ≠ g := fun b hb e => hb (by rw [e]; rfl)
  refine ⟨xs.set (i * st + f) u, (ho9.stored (i * st + f) u).1, fun q hq => ?_⟩
  obtain ⟨vs, hl, h1, h2, h3⟩ := hs q hq
  by_cases hqi : q = i
  · subst hqi
    refine ⟨[u], by rw [List.length_append, hf]; exact hfs, fun j v hv => ?_, fun _ => hu.move (fun b _ _ hb3 => ⟨Below.heap_setCell _ _ _ _ (hgne b hb3), hb3⟩), fun hx => by omega⟩
    have hjl : j < st := by have := (List.getElem?_eq_some_iff.1 hv).1; rw [List.length_append, hf] at this; simp at this; omega
    by_cases hjf : j = f
    · subst hjf
      rw [List.getElem?_append_right (by omega), hf] at hv
      simp at hv
      subst hv
      rw [List.getElem?_set_self]
      have hx : q * st + j < xs.length := by
        have hv0 : ∃ v0, (ps[q].fl ++ vs)[j]? = some v0 := ⟨_, List.getElem?_eq_getElem (by omega)⟩
        obtain ⟨v0, hv0⟩ := hv0
        exact (List.getElem?_eq_some_iff.1 (h1 j v0 hv0)).1
      exact hx
    · rw [List.getElem?_append_left (by omega)] at hv
      rw [List.getElem?_set_ne (by omega)]
      exact h1 j v (by rw [List.getElem?_append_left (by omega)]; exact hv)
  · refine ⟨vs, hl, fun j v hv => ?_, fun hx => (h2 (by omega)).move (fun b hb1 hb2 hb3 => ⟨(Below.heap_setCell _ _ _ _ (hgne b hb3)).trans (hb.block b hb2), hb3⟩), fun hx => h3 (by omega)⟩
    have hjl : j < st := by have := (List.getElem?_eq_some_iff.1 hv).1; omega
    rw [List.getElem?_set_ne ?_]
    · exact h1 j v hv
    · rcases Nat.lt_or_ge q i with hx | hx
      · have := Nat.mul_le_mul_right st (show q + 1 ≤ i by omega)
        rw [Nat.add_mul, Nat.one_mul] at this
        omega
      · have := Nat.mul_le_mul_right st (show i + 1 ≤ q by omega)
        rw [Nat.add_mul, Nat.one_mul] at this
        omega
theorem LP.on {lo : Nat} {w W W' : World} {rv : Value} {n : Nat} {e : TypeId} {st : Nat} {ps : List El} {i : Nat} (h : LP lo w W rv n e st ps i) (hk : ∀ b, lo ≤ b → b < W.heap.size → W'.heap[b]? = W.heap[b]?) : LP lo w W' rv n e st ps i := by
  obtain ⟨xs, ho, hs⟩ := h
  refine ⟨xs, owns_same ho (fun b e => hk b (ho.lt b e).1 (ho.lt b e).2), fun q hq => ?_⟩
  obtain ⟨vs, hl, h1, h2, h3⟩ := hs q hq
  exact ⟨vs, hl, h1, fun hx => (h2 hx).move (fun b hb1 hb2 hb3 => ⟨hk b hb1 hb2, hb3⟩), h3⟩
theorem LP.done {lo : Nat} {w W : World} {rv : Value} {n : Nat} {e : TypeId} {st : Nat} {ps : List El} {Sh : El → Prop} (h : LP lo w W rv n e st ps n) (hn : ps.length = n) (hs : ∀ p ∈ ps, Sh p) : OE lo W rv ps st e Sh := by
  obtain ⟨xs, ho, hx⟩ := h
  refine ⟨xs, by rw [hn]; exact ho, fun q hq => ?_, hs⟩
  obtain ⟨vs, _, h1, h2, _⟩ := hx q hq
  exact ⟨vs, h1, h2 (by omega)⟩
/-- The element that is next. -/
theorem LP.cur {lo : Nat} {w W : World} {g n cp : Nat} {e : TypeId} {st : Nat} {ps : List El} {i : Nat} (h : LP lo w W (.slice (some ⟨g, 0, none⟩) n cp) n e st ps i) (_hn : ps.length = n) (hi : i < ps.length) : ∃ vs, (∀ j u, (ps[i].fl ++ vs)[j]? = some u → W.cell? ⟨g, i * st + j, none⟩ = some u) ∧ InnR w ps[i].inn vs ∧ ∀ j, W.frozen? ⟨g, j, none⟩ = false := by
  obtain ⟨xs, ho, hx⟩ := h
  obtain ⟨vs, hl, h1, _, h3⟩ := hx i hi
  refine ⟨vs, fun j u hu => ?_, h3 (Nat.le_refl _), ho.frozenAt⟩
  have hx := h1 j u hu
  rw [ho.cellAt _ (by have := (List.getElem?_eq_some_iff.1 hx).1; have := ho.1; omega)]
  exact hx
/-- What stands between two steps: the copy, where the answer goes. -/
structure CC (w : World) (k : Int) (c' : Fin 18 → Value) (z : Array Value) (W : World) : Prop where
  below : Below w.heap.size w W
  p : W.heap[w.heap.size]? = some (.cells (Pd k c') 40)
  r : W.heap[w.heap.size + 1]? = some (.cells z 40)
theorem CC.size {w W : World} {k : Int} {c' : Fin 18 → Value} {z : Array Value} (h : CC w k c' z W) : w.heap.size + 2 ≤ W.heap.size := (Array.getElem?_eq_some_iff.1 h.r).1
theorem CC.cell {w W : World} {k : Int} {c' : Fin 18 → Value} {z : Array Value} (h : CC w k c' z W) (i : Fin 18) : W.cell? ⟨w.heap.size, i.val + 1, none⟩ = some (c' i) := by rw [cell_of_row W _ _ _ _ _ h.p]; exact pd_get k c' i
theorem CC.froz {w W : World} {k : Int} {c' : Fin 18 → Value} {z : Array Value} (h : CC w k c' z W) (i : Nat) : W.frozen? ⟨w.heap.size, i, none⟩ = false := by simp [World.frozen?, h.p]
theorem CC.on {w W W' : World} {k : Int} {c' : Fin 18 → Value} {z : Array Value} (h : CC w k c' z W) (hb : Below (w.heap.size + 2) W W') : CC w k c' z W' :=
  ⟨h.below.trans (hb.mono (by omega)), (hb.block _ (by omega)).trans h.p, (hb.block _ (by omega)).trans h.r⟩
theorem CC.set {w W : World} {k : Int} {c' : Fin 18 → Value} {z : Array Value} (h : CC w k c' z W) (i : Nat) (v : Value) (c2 : Fin 18 → Value) (hc : (Pd k c').setIfInBounds i v = Pd k c2) : CC w k c2 z (W.setCell ⟨w.heap.size, i, none⟩ v) := by
  rw [setCell_eq_setRow W _ _ _ _ _ v h.p, hc]
  have ho : ∀ j, j ≠ w.heap.size → (W.setRow w.heap.size (Pd k c2)).heap[j]? = W.heap[j]? := fun j hj => by
    unfold World.setRow
    show (W.heap.modify _ _)[j]? = _
    rw [Array.getElem?_modify, if_neg (Ne.symm hj)]
  exact ⟨below_setRow h.below (by omega) _, setRow_heap W _ _ _ _ _ h.p, (ho _ (by omega)).trans h.r⟩
theorem lenC (w : World) (p : El) (h : ShC p) (vs : List Value) (hv : InnR w p.inn vs) : (p.fl ++ vs).length = 4 := by
  obtain ⟨x, y, s, T, rfl⟩ := h
  obtain ⟨v, rfl, _⟩ := hv
  rfl
theorem oneC (w : World) (p : El) (h : ShC p) (vs : List Value) (hv : InnR w p.inn vs) : ∀ u ∈ p.fl ++ vs, u.oneCell' = true := by
  obtain ⟨x, y, s, T, rfl⟩ := h
  obtain ⟨v, rfl, a, c, rfl, _⟩ := hv
  intro u hu
  simp at hu
  rcases hu with rfl | rfl | rfl | rfl <;> rfl
theorem lenR (w : World) (p : El) (h : ShR p) (vs : List Value) (hv : InnR w p.inn vs) : (p.fl ++ vs).length = 3 := by
  obtain ⟨s, x, y, rfl⟩ := h
  obtain rfl : vs = [] := hv
  rfl
theorem oneR (w : World) (p : El) (h : ShR p) (vs : List Value) (hv : InnR w p.inn vs) : ∀ u ∈ p.fl ++ vs, u.oneCell' = true := by
  obtain ⟨s, x, y, rfl⟩ := h
  obtain rfl : vs = [] := hv
  intro u hu
  simp at hu
  rcases hu with rfl | rfl | rfl <;> rfl
theorem lenO (w : World) (p : El) (h : ShO p) (vs : List Value) (hv : InnR w p.inn vs) : (p.fl ++ vs).length = 2 := by
  obtain ⟨x, bs, rfl⟩ := h
  obtain ⟨v, rfl, _⟩ := hv
  rfl
theorem oneO (w : World) (p : El) (h : ShO p) (vs : List Value) (hv : InnR w p.inn vs) : ∀ u ∈ p.fl ++ vs, u.oneCell' = true := by
  obtain ⟨x, bs, rfl⟩ := h
  obtain ⟨v, rfl, hV, _⟩ := hv
  obtain ⟨a, c, rfl, _, _⟩ := hV.form
  intro u hu
  simp at hu
  rcases hu with rfl | rfl <;> rfl
theorem lenV (w : World) (p : El) (h : ShV p) (vs : List Value) (hv : InnR w p.inn vs) : (p.fl ++ vs).length = 4 := by
  obtain ⟨x, y, z, bs, rfl⟩ := h
  obtain ⟨v, rfl, _⟩ := hv
  rfl
theorem oneV (w : World) (p : El) (h : ShV p) (vs : List Value) (hv : InnR w p.inn vs) : ∀ u ∈ p.fl ++ vs, u.oneCell' = true := by
  obtain ⟨x, y, z, bs, rfl⟩ := h
  obtain ⟨v, rfl, hV, _⟩ := hv
  obtain ⟨a, c, rfl, _, _⟩ := hV.form
  intro u hu
  simp at hu
  rcases hu with rfl | rfl | rfl | rfl <;> rfl
/-- A row that has just been copied cell by cell. -/
theorem LP.start {lo : Nat} {w W : World} {rv : Value} {n : Nat} {e : TypeId} {st : Nat} {ps : List El} {Sh : El → Prop} {xs : List Value} (ho : W.ownsRow lo e st rv n xs) (hx : ∀ i (h : i < ps.length), ∃ vs, (∀ j u, (ps[i].fl ++ vs)[j]? = some u → xs[i * st + j]? = some u) ∧ InnR w ps[i].inn vs) (hs : ∀ p ∈ ps, Sh p) (hlen : ∀ p, Sh p → ∀ vs, InnR w p.inn vs → (p.fl ++ vs).length = st) : LP lo w W rv n e st ps 0 :=
  ⟨xs, ho, fun q hq => by
    obtain ⟨vs, h1, h2⟩ := hx q hq
    exact ⟨vs, hlen _ (hs _ (List.getElem_mem hq)) vs h2, h1, fun h => by omega, fun _ => h2⟩⟩
/-- Rows without lists in them are whole at once. -/
theorem LP.flat {lo : Nat} {w W : World} {rv : Value} {n : Nat} {e : TypeId} {st : Nat} {ps : List El} (h : LP lo w W rv n e st ps 0) (hs : ∀ p ∈ ps, ShR p) (hn : ps.length = n) : OE lo W rv ps st e ShR := by
  obtain ⟨xs, ho, hx⟩ := h
  refine ⟨xs, by rw [hn]; exact ho, fun q hq => ?_, hs⟩
  obtain ⟨vs, _, h1, _, h3⟩ := hx q hq
  refine ⟨vs, h1, ?_⟩
  have h4 := h3 (Nat.zero_le _)
  obtain ⟨s, x, y, he⟩ := hs _ (List.getElem_mem hq)
  rw [he] at h4 ⊢
  exact h4
end Go.Proofs.YtiieikdbhpflgaaDoor
