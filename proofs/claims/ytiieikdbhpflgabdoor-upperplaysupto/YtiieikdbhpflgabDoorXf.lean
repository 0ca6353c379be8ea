import Derived.Test.YtiieikdbhpflgabDoorXe
/-
  DERIVED. What copied goes by.
-/
namespace Go.Proofs.YtiieikdbhpflgabDoor
open Go Go.Proofs Go.RowKit

/-- A row that was copied cell by cell; the lists inside of it are new up to a place. -/
def LP (lo : Nat) (w W : World) (rv : Value) (n : Nat) (e : TypeId) (st : Nat) (ps : List El) (i : Nat) : Prop :=
  ∃ xs, W.ownsRow lo e st rv n xs ∧ (∀ q (h : q < ps.length), ∃ vs, (ps[q].fl ++ vs).length = st ∧ (∀ j u, (ps[q].fl ++ vs)[j]? = some u → xs[q * st + j]? = some u) ∧ (q < i → InnO lo W rv ps[q].inn vs) ∧ (i ≤ q → InnR w ps[q].inn vs)) ∧ DJ xs st i
theorem inn_lt {base : Nat} {W : World} {rv : Value} {i : Inn} {vs : List Value} (h : InnO base W rv i vs) : ∀ v ∈ vs, ∀ b, v.ownBlock = some b → base ≤ b ∧ b < W.heap.size := by
  intro v hv b hb
  cases i with
  | no => obtain rfl : vs = [] := h; exact absurd hv List.not_mem_nil
  | tx T => obtain ⟨u, rfl, h2, -, -⟩ := h; obtain rfl := List.mem_singleton.1 hv; exact h2.lt b hb
  | «by» bs => obtain ⟨u, rfl, h2, -, -⟩ := h; obtain rfl := List.mem_singleton.1 hv; exact h2.1.lt b hb
theorem LP.step {lo : Nat} {w W W9 : World} {g n cp : Nat} {e : TypeId} {st : Nat} {ps : List El} {i f : Nat} {u : Value} (h : LP lo w W (.slice (some ⟨g, 0, none⟩) n cp) n e st ps i) (hi : i < ps.length) (hf : ps[i].fl.length = f) (hfs : f + 1 = st) (hb : Below W.heap.size W W9)
    (hu : InnO lo W9 (.slice (some ⟨g, 0, none⟩) n cp) ps[i].inn [u]) (hn : ∀ b, u.ownBlock = some b → W.heap.size ≤ b) (hS : ∀ p ∈ ps, p.fl.length + 1 = st) : LP lo w (W9.setCell ⟨g, i * st + f, none⟩ u) (.slice (some ⟨g, 0, none⟩) n cp) n e st ps (i + 1) := by
  obtain ⟨xs, ho, hs, hdj⟩ := h
  have ho9 := owns_next ho hb
  have hgne : ∀ b, (Value.slice (some ⟨g, 0, none⟩) n cp).ownBlock ≠ some b → b ≠ g := fun b hb e => hb (by rw [e]; rfl)
  have hat : ∀ q, q < ps.length → ∀ v, xs[q * st + (st - 1)]? = some v → q < i → ∀ b, v.ownBlock = some b → b < W.heap.size := fun q hq v hv hqi b hb => by
    obtain ⟨vs, hl, h1, h2, -⟩ := hs q hq
    have hfl := hS _ (List.getElem_mem hq)
    have hvl : vs.length = 1 := by rw [List.length_append] at hl; omega
    obtain ⟨z, rfl⟩ : ∃ z, vs = [z] := List.length_eq_one_iff.1 hvl
    have h4 := h1 (st - 1) z (by rw [List.getElem?_append_right (by omega), show st - 1 - ps[q].fl.length = 0 by omega]; rfl)
    rw [hv] at h4
    obtain rfl := Option.some.inj h4
    exact (inn_lt (h2 hqi) v (by simp) b hb).2
  have hne : ∀ q, q < i → i * st + f ≠ q * st + (st - 1) := fun q hq => by
    have := Nat.mul_le_mul_right st (show q + 1 ≤ i by omega)
    rw [Nat.add_mul, Nat.one_mul] at this
    omega
  have hDJ : DJ (xs.set (i * st + f) u) st (i + 1) := by
    intro p q v y b hpq hq hv hy hb
    rw [List.getElem?_set_ne (hne p (by omega))] at hv
    by_cases hqi : q < i
    · rw [List.getElem?_set_ne (hne q hqi)] at hy
      exact hdj p q v y b hpq hqi hv hy hb
    · obtain rfl : q = i := by omega
      intro e
      have h1 := hat p (by omega) v hv hpq b hb
      have h2 : xs.set (q * st + f) u = xs.set (q * st + (st - 1)) u := by rw [show f = st - 1 by omega]
      rw [h2, List.getElem?_set_self'] at hy
      obtain ⟨_, -, rfl⟩ := Option.map_eq_some_iff.1 hy
      have := hn b e
      omega
  refine ⟨xs.set (i * st + f) u, (ho9.stored (i * st + f) u).1, fun q hq => ?_, hDJ⟩
  obtain ⟨vs, hl, h1, h2, h3⟩ := hs q hq
  by_cases hqi : q = i
  · subst hqi
    refine ⟨[u], by rw [List.length_append, hf]; exact hfs, fun j v hv => ?_, fun _ => hu.move (fun b _ _ hb3 => ⟨Below.heap_setCell _ _ _ _ (hgne b hb3), hb3⟩), fun hx => by omega⟩
    have hjl : j < st := by have := (List.getElem?_eq_some_iff.1 hv).1; rw [List.length_append, hf] at this; simp at this; omega
    by_cases hjf : j = f
    · subst hjf
      rw [List.getElem?_append_right (by omega), hf] at hv
      simp at hv
      subst hv
      rw [List.getElem?_set_self]
      have hx : q * st + j < xs.length := by
        have hv0 : ∃ v0, (ps[q].fl ++ vs)[j]? = some v0 := ⟨_, List.getElem?_eq_getElem (by omega)⟩
        obtain ⟨v0, hv0⟩ := hv0
        exact (List.getElem?_eq_some_iff.1 (h1 j v0 hv0)).1
      exact hx
    · rw [List.getElem?_append_left (by omega)] at hv
      rw [List.getElem?_set_ne (by omega)]
      exact h1 j v (by rw [List.getElem?_append_left (by omega)]; exact hv)
  · refine ⟨vs, hl, fun j v hv => ?_, fun hx => (h2 (by omega)).move (fun b hb1 hb2 hb3 => ⟨(Below.heap_setCell _ _ _ _ (hgne b hb3)).trans (hb.block b hb2), hb3⟩), fun hx => h3 (by omega)⟩
    have hjl : j < st := by have := (List.getElem?_eq_some_iff.1 hv).1; omega
    rw [List.getElem?_set_ne ?_]
    · exact h1 j v hv
    · rcases Nat.lt_or_ge q i with hx | hx
      · have := Nat.mul_le_mul_right st (show q + 1 ≤ i by omega)
        rw [Nat.add_mul, Nat.one_mul] at this
        omega
      · have := Nat.mul_le_mul_right st (show i + 1 ≤ q by omega)
        rw [Nat.add_mul, Nat.one_mul] at this
        omega
theorem LP.on {lo : Nat} {w W W' : World} {rv : Value} {n : Nat} {e : TypeId} {st : Nat} {ps : List El} {i : Nat} (h : LP lo w W rv n e st ps i) (hk : ∀ b, lo ≤ b → b < W.heap.size → W'.heap[b]? = W.heap[b]?) : LP lo w W' rv n e st ps i := by
  obtain ⟨xs, ho, hs, hdj⟩ := h
  refine ⟨xs, owns_same ho (fun b e => hk b (ho.lt b e).1 (ho.lt b e).2), fun q hq => ?_, hdj⟩
  obtain ⟨vs, hl, h1, h2, h3⟩ := hs q hq
  exact ⟨vs, hl, h1, fun hx => (h2 hx).move (fun b hb1 hb2 hb3 => ⟨hk b hb1 hb2, hb3⟩), h3⟩
theorem LP.done {lo : Nat} {w W : World} {rv : Value} {n : Nat} {e : TypeId} {st : Nat} {ps : List El} {Sh : El → Prop} (h : LP lo w W rv n e st ps n) (hn : ps.length = n) (hs : ∀ p ∈ ps, Sh p) : OE lo W rv ps st e Sh := by
  obtain ⟨xs, ho, hx, -⟩ := h
  refine ⟨xs, by rw [hn]; exact ho, fun q hq => ?_, hs⟩
  obtain ⟨vs, _, h1, h2, _⟩ := hx q hq
  exact ⟨vs, h1, h2 (by omega)⟩
theorem LP.br {lo : Nat} {w W : World} {rv : Value} {n : Nat} {e : TypeId} {st : Nat} {ps : List El} (h : LP lo w W rv n e st ps n) (hn : ps.length = n) (hS : ∀ p ∈ ps, p.fl.length + 1 = st ∧ ∃ bs, p.inn = .by bs) : BR lo lo W.heap.size W rv e st ps.length := by
  obtain ⟨xs, ho, hx, hdj⟩ := h
  refine ⟨xs, by rw [hn]; exact ho, by rw [hn]; exact hdj, GE.ub (base := lo) (W := W) (rv := rv) (ps := ps) (fun q hq => ?_) hS⟩
  obtain ⟨vs, _, h1, h2, _⟩ := hx q hq
  exact ⟨vs, h1, h2 (by omega)⟩
/-- The element that is next. -/
theorem LP.cur {lo : Nat} {w W : World} {g n cp : Nat} {e : TypeId} {st : Nat} {ps : List El} {i : Nat} (h : LP lo w W (.slice (some ⟨g, 0, none⟩) n cp) n e st ps i) (_hn : ps.length = n) (hi : i < ps.length) : ∃ vs, (∀ j u, (ps[i].fl ++ vs)[j]? = some u → W.cell? ⟨g, i * st + j, none⟩ = some u) ∧ InnR w ps[i].inn vs ∧ ∀ j, W.frozen? ⟨g, j, none⟩ = false := by
  obtain ⟨xs, ho, hx, -⟩ := h
  obtain ⟨vs, hl, h1, _, h3⟩ := hx i hi
  refine ⟨vs, fun j u hu => ?_, h3 (Nat.le_refl _), ho.frozenAt⟩
  have hx := h1 j u hu
  rw [ho.cellAt _ (by have := (List.getElem?_eq_some_iff.1 hx).1; have := ho.1; omega)]
  exact hx
/-- What stands between two steps: the copy, where the answer goes. -/
structure CC (w : World) (k : Int) (c' : Fin 18 → Value) (z : Array Value) (W : World) : Prop where
  below : Below w.heap.size w W
  p : W.heap[w.heap.size]? = some (.cells (Pd k c') 46)
  r : W.heap[w.heap.size + 1]? = some (.cells z 46)
theorem CC.size {w W : World} {k : Int} {c' : Fin 18 → Value} {z : Array Value} (h : CC w k c' z W) : w.heap.size + 2 ≤ W.heap.size := (Array.getElem?_eq_some_iff.1 h.r).1
theorem CC.cell {w W : World} {k : Int} {c' : Fin 18 → Value} {z : Array Value} (h : CC w k c' z W) (i : Fin 18) : W.cell? ⟨w.heap.size, i.val + 1, none⟩ = some (c' i) := by rw [cell_of_row W _ _ _ _ _ h.p]; exact pd_get k c' i
theorem CC.froz {w W : World} {k : Int} {c' : Fin 18 → Value} {z : Array Value} (h : CC w k c' z W) (i : Nat) : W.frozen? ⟨w.heap.size, i, none⟩ = false := by simp [World.frozen?, h.p]
theorem CC.on {w W W' : World} {k : Int} {c' : Fin 18 → Value} {z : Array Value} (h : CC w k c' z W) (hb : Below (w.heap.size + 2) W W') : CC w k c' z W' :=
  ⟨h.below.trans (hb.mono (by omega)), (hb.block _ (by omega)).trans h.p, (hb.block _ (by omega)).trans h.r⟩
theorem CC.set {w W : World} {k : Int} {c' : Fin 18 → Value} {z : Array Value} (h : CC w k c' z W) (i : Nat) (v : Value) (c2 : Fin 18 → Value) (hc : (Pd k c').setIfInBounds i v = Pd k c2) : CC w k c2 z (W.setCell ⟨w.heap.size, i, none⟩ v) := by
  rw [setCell_eq_setRow W _ _ _ _ _ v h.p, hc]
  have ho : ∀ j, j ≠ w.heap.size → (W.setRow w.heap.size (Pd k c2)).heap[j]? = W.heap[j]? := fun j hj => by
    unfold World.setRow
    show (W.heap.modify _ _)[j]? = _
    rw [Array.getElem?_modify, if_neg (Ne.symm hj)]
  exact ⟨below_setRow h.below (by omega) _, setRow_heap W _ _ _ _ _ h.p, (ho _ (by omega)).trans h.r⟩
theorem lenC (w : World) (p : El) (h : ShC p) (vs : List Value) (hv : InnR w p.inn vs) : (p.fl ++ vs).length = 4 := by
  obtain ⟨x, y, s, T, rfl⟩ := h
  obtain ⟨v, rfl, _⟩ := hv
  rfl
theorem oneC (w : World) (p : El) (h : ShC p) (vs : List Value) (hv : InnR w p.inn vs) : ∀ u ∈ p.fl ++ vs, u.oneCell' = true := by
  obtain ⟨x, y, s, T, rfl⟩ := h
  obtain ⟨v, rfl, a, c, rfl, _⟩ := hv
  intro u hu
  simp at hu
  rcases hu with rfl | rfl | rfl | rfl <;> rfl
theorem lenR (w : World) (p : El) (h : ShR p) (vs : List Value) (hv : InnR w p.inn vs) : (p.fl ++ vs).length = 3 := by
  obtain ⟨s, x, y, rfl⟩ := h
  obtain rfl : vs = [] := hv
  rfl
theorem oneR (w : World) (p : El) (h : ShR p) (vs : List Value) (hv : InnR w p.inn vs) : ∀ u ∈ p.fl ++ vs, u.oneCell' = true := by
  obtain ⟨s, x, y, rfl⟩ := h
  obtain rfl : vs = [] := hv
  intro u hu
  simp at hu
  rcases hu with rfl | rfl | rfl <;> rfl
theorem lenO (w : World) (p : El) (h : ShO p) (vs : List Value) (hv : InnR w p.inn vs) : (p.fl ++ vs).length = 2 := by
  obtain ⟨x, bs, rfl⟩ := h
  obtain ⟨v, rfl, _⟩ := hv
  rfl
theorem oneO (w : World) (p : El) (h : ShO p) (vs : List Value) (hv : InnR w p.inn vs) : ∀ u ∈ p.fl ++ vs, u.oneCell' = true := by
  obtain ⟨x, bs, rfl⟩ := h
  obtain ⟨v, rfl, hV, _⟩ := hv
  obtain ⟨a, c, rfl, _, _⟩ := hV.form
  intro u hu
  simp at hu
  rcases hu with rfl | rfl <;> rfl
theorem lenV (w : World) (p : El) (h : ShV p) (vs : List Value) (hv : InnR w p.inn vs) : (p.fl ++ vs).length = 4 := by
  obtain ⟨x, y, z, bs, rfl⟩ := h
  obtain ⟨v, rfl, _⟩ := hv
  rfl
theorem oneV (w : World) (p : El) (h : ShV p) (vs : List Value) (hv : InnR w p.inn vs) : ∀ u ∈ p.fl ++ vs, u.oneCell' = true := by
  obtain ⟨x, y, z, bs, rfl⟩ := h
  obtain ⟨v, rfl, hV, _⟩ := hv
  obtain ⟨a, c, rfl, _, _⟩ := hV.form
  intro u hu
  simp at hu
  rcases hu with rfl | rfl | rfl | rfl <;> rfl
/-- A row that has just been copied cell by cell. -/
theorem LP.start {lo : Nat} {w W : World} {rv : Value} {n : Nat} {e : TypeId} {st : Nat} {ps : List El} {Sh : El → Prop} {xs : List Value} (ho : W.ownsRow lo e st rv n xs) (hx : ∀ i (h : i < ps.length), ∃ vs, (∀ j u, (ps[i].fl ++ vs)[j]? = some u → xs[i * st + j]? = some u) ∧ InnR w ps[i].inn vs) (hs : ∀ p ∈ ps, Sh p) (hlen : ∀ p, Sh p → ∀ vs, InnR w p.inn vs → (p.fl ++ vs).length = st) : LP lo w W rv n e st ps 0 :=
  ⟨xs, ho, fun q hq => by
    obtain ⟨vs, h1, h2⟩ := hx q hq
    exact ⟨vs, hlen _ (hs _ (List.getElem_mem hq)) vs h2, h1, fun h => by omega, fun _ => h2⟩, DJ.nil _ _⟩
/-- Rows without lists in them are whole at once. -/
theorem LP.flat {lo : Nat} {w W : World} {rv : Value} {n : Nat} {e : TypeId} {st : Nat} {ps : List El} (h : LP lo w W rv n e st ps 0) (hs : ∀ p ∈ ps, ShR p) (hn : ps.length = n) : OE lo W rv ps st e ShR := by
  obtain ⟨xs, ho, hx, -⟩ := h
  refine ⟨xs, by rw [hn]; exact ho, fun q hq => ?_, hs⟩
  obtain ⟨vs, _, h1, _, h3⟩ := hx q hq
  refine ⟨vs, h1, ?_⟩
  have h4 := h3 (Nat.zero_le _)
  obtain ⟨s, x, y, he⟩ := hs _ (List.getElem_mem hq)
  rw [he] at h4 ⊢
  exact h4
/-- The types of a PDU's lists and of what stands in them. -/
def LTy (e : TypeId) : Prop := e = 95 ∨ e = 97 ∨ e = 91 ∨ e = 78 ∨ e = 9 ∨ e = 5
theorem own_ty {W : World} {B s n b : Nat} {e : TypeId} {v : Value} {xs : List Value} (h : W.ownsRow B e s v n xs) (hb : v.ownBlock = some b) : B ≤ b ∧ b < W.heap.size ∧ ∃ cur fr, W.heap[b]? = some (.cells cur e fr) := by
  refine ⟨(h.lt b hb).1, (h.lt b hb).2, ?_⟩
  rcases h.2 with ⟨rfl, _⟩ | ⟨g, cap, cur, rfl, _, hh, _⟩
  · cases hb
  · obtain rfl : g = b := by simpa [Value.ownBlock] using hb
    exact ⟨cur, _, hh⟩
/-- The blocks of a list, and of what stands in it, are of this kind. -/
def RF (F : Nat → Prop) (W : World) (rv : Value) (m : Nat) : Prop :=
  ∀ g n cap, rv = .slice (some ⟨g, 0, none⟩) n cap → F g ∧ ∀ j v b, j < m → W.cell? ⟨g, j, none⟩ = some v → v.ownBlock = some b → F b
theorem RF.nil (F : Nat → Prop) (W : World) (n cap m : Nat) : RF F W (.slice none n cap) m := fun g n cap h => by simp at h
theorem RF.mono {F G : Nat → Prop} {W : World} {rv : Value} {m : Nat} (h : RF F W rv m) (hg : ∀ b, F b → G b) : RF G W rv m := fun g n cap e => ⟨hg _ (h g n cap e).1, fun j v b hj hv hb => hg _ ((h g n cap e).2 j v b hj hv hb)⟩
theorem RF.keep {F : Nat → Prop} {W W' : World} {rv : Value} {m : Nat} (h : RF F W rv m) (hk : ∀ b, rv.ownBlock = some b → W'.heap[b]? = W.heap[b]?) : RF F W' rv m := fun g n cap e => by
  refine ⟨(h g n cap e).1, fun j v b hj hv hb => (h g n cap e).2 j v b hj ?_ hb⟩
  rw [← hv]
  exact (World.cell?_of_block (hk g (by rw [e]; rfl))).symm
theorem RF.of {F : Nat → Prop} {base : Nat} {W : World} {rv : Value} {ps : List El} {st : Nat} {e : TypeId} {Sh : El → Prop} (h : OE base W rv ps st e Sh) (hst : 0 < st) (he : LTy e) (hlen : ∀ p, Sh p → ∀ vs, InnR W p.inn vs → (p.fl ++ vs).length = st) (hfl : ∀ p, Sh p → ∀ u ∈ p.fl, u.ownBlock = none)
    (hF : ∀ b, base ≤ b → b < W.heap.size → (∃ cur e' fr, W.heap[b]? = some (.cells cur e' fr) ∧ LTy e') → F b) : RF F W rv (ps.length * st) := by
  obtain ⟨xs, ho, hg, hs⟩ := h
  intro g n cap hrv
  have hown : rv.ownBlock = some g := by rw [hrv]; rfl
  obtain ⟨t1, t2, cur, fr, t3⟩ := own_ty ho hown
  refine ⟨hF g t1 t2 ⟨cur, e, fr, t3, he⟩, fun j v b hj hv hb => ?_⟩
  have hi : j / st < ps.length := Nat.div_lt_of_lt_mul (by rw [Nat.mul_comm]; exact hj)
  have hr : j % st < st := Nat.mod_lt _ hst
  have hd : j / st * st + j % st = j := by rw [Nat.mul_comm]; exact Nat.div_add_mod j st
  obtain ⟨vs, h1, h2⟩ := hg (j / st) hi
  have hl := hlen _ (hs _ (List.getElem_mem hi)) vs h2.rd
  have hu := h1 (j % st) _ (List.getElem?_eq_getElem (by rw [hl]; exact hr))
  rw [hd] at hu
  obtain ⟨cap', rfl⟩ : ∃ cap', rv = .slice (some ⟨g, 0, none⟩) ps.length cap' := by
    obtain ⟨a', p', e'⟩ := owns_slice ho
    rw [hrv] at e'
    exact ⟨cap, by simp at e'; rw [hrv, e'.2.1]⟩
  have hc := ho.cellAt j (by omega)
  rw [hv, hu] at hc
  obtain rfl := Option.some.inj hc
  rcases List.mem_append.1 (List.getElem_mem (by rw [hl]; exact hr)) with hm | hm
  · rw [hfl _ (hs _ (List.getElem_mem hi)) _ hm] at hb
    cases hb
  · generalize (ps[j / st].fl ++ vs)[j % st]'(by rw [hl]; exact hr) = u at hb hm
    generalize ps[j / st].inn = ii at h2
    cases ii with
    | no => obtain rfl : vs = [] := h2; exact absurd hm List.not_mem_nil
    | tx T =>
      obtain ⟨x, rfl, k2, -, -⟩ := h2
      obtain rfl := List.mem_singleton.1 hm
      obtain ⟨a1, a2, c, f, a3⟩ := own_ty k2 hb
      exact hF b a1 a2 ⟨c, 9, f, a3, by simp [LTy]⟩
    | «by» bs =>
      obtain ⟨x, rfl, k2, -, -⟩ := h2
      obtain rfl := List.mem_singleton.1 hm
      obtain ⟨a1, a2, c, f, a3⟩ := own_ty k2.1 hb
      exact hF b a1 a2 ⟨c, 5, f, a3, by simp [LTy]⟩
theorem flC (p : El) (h : ShC p) : ∀ u ∈ p.fl, u.ownBlock = none := by
  obtain ⟨x, y, s, T, rfl⟩ := h
  intro u hu
  simp at hu
  rcases hu with rfl | rfl | rfl <;> rfl
theorem flR (p : El) (h : ShR p) : ∀ u ∈ p.fl, u.ownBlock = none := by
  obtain ⟨s, x, y, rfl⟩ := h
  intro u hu
  simp at hu
  rcases hu with rfl | rfl | rfl <;> rfl
theorem flO (p : El) (h : ShO p) : ∀ u ∈ p.fl, u.ownBlock = none := by
  obtain ⟨x, bs, rfl⟩ := h
  intro u hu
  simp at hu
  subst hu
  rfl
theorem flV (p : El) (h : ShV p) : ∀ u ∈ p.fl, u.ownBlock = none := by
  obtain ⟨x, y, z, bs, rfl⟩ := h
  intro u hu
  simp at hu
  rcases hu with rfl | rfl | rfl <;> rfl
/-- The blocks of a PDU are of this kind. -/
structure PF (F : Nat → Prop) (W : World) (c : Fin 18 → Value) (D : PdD) : Prop where
  ctx : RF F W (c 4) (D.cx.length * 4)
  role : RF F W (c 12) (D.rl.length * 3)
  oth : RF F W (c 13) (D.ot.length * 2)
  val : RF F W (c 17) (D.vl.length * 4)
theorem PF.mono {F G : Nat → Prop} {W : World} {c : Fin 18 → Value} {D : PdD} (h : PF F W c D) (hg : ∀ b, F b → G b) : PF G W c D := ⟨h.ctx.mono hg, h.role.mono hg, h.oth.mono hg, h.val.mono hg⟩
theorem PF.of {F : Nat → Prop} {base : Nat} {W : World} {c : Fin 18 → Value} {D : PdD} (h : OX base W c D) (hF : ∀ b, base ≤ b → b < W.heap.size → (∃ cur e' fr, W.heap[b]? = some (.cells cur e' fr) ∧ LTy e') → F b) : PF F W c D :=
  ⟨RF.of h.ctx.1 (by decide) (by simp [LTy]) (lenC W) flC hF, RF.of h.role.1 (by decide) (by simp [LTy]) (lenR W) flR hF, RF.of h.oth.1 (by decide) (by simp [LTy]) (lenO W) flO hF, RF.of h.val.1 (by decide) (by simp [LTy]) (lenV W) flV hF⟩
theorem OE.lt {base : Nat} {W : World} {rv : Value} {ps : List El} {st : Nat} {e : TypeId} {Sh : El → Prop} (h : OE base W rv ps st e Sh) : ∀ b, rv.ownBlock = some b → base ≤ b ∧ b < W.heap.size := by
  obtain ⟨xs, h1, -, -⟩ := h
  exact h1.lt
theorem PF.keep {F : Nat → Prop} {base : Nat} {W W' : World} {c : Fin 18 → Value} {D : PdD} (h : PF F W c D) (ho : OX base W c D) (hk : ∀ b, base ≤ b → b < W.heap.size → W'.heap[b]? = W.heap[b]?) : PF F W' c D :=
  ⟨h.ctx.keep fun b e => hk b (ho.ctx.1.lt b e).1 (ho.ctx.1.lt b e).2, h.role.keep fun b e => hk b (ho.role.1.lt b e).1 (ho.role.1.lt b e).2, h.oth.keep fun b e => hk b (ho.oth.1.lt b e).1 (ho.oth.1.lt b e).2, h.val.keep fun b e => hk b (ho.val.1.lt b e).1 (ho.val.1.lt b e).2⟩
/-- A PDU in memory of its own, in blocks of this kind. -/
structure OXF (F : Nat → Prop) (base : Nat) (W : World) (c : Fin 18 → Value) (D : PdD) : Prop extends OX base W c D where
  ft : PF F W c D
theorem OXF.keep {F : Nat → Prop} {base : Nat} {W W' : World} {c : Fin 18 → Value} {D : PdD} (h : OXF F base W c D) (hk : ∀ b, base ≤ b → b < W.heap.size → W'.heap[b]? = W.heap[b]?) : OXF F base W' c D := ⟨h.toOX.keep hk, h.ft.keep h.toOX hk⟩
end Go.Proofs.YtiieikdbhpflgabDoor
