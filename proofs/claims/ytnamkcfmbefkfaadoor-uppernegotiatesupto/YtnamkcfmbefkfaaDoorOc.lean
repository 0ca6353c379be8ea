import Derived.Test.YtnamkcfmbefkfaaDoorXb
import Derived.Test.YtnamkcfmbefkfaaDoorVc
/-
  DERIVED. Contexts that are changed where they lie.
-/
namespace Go.Proofs.YtnamkcfmbefkfaaDoor
open Go Go.Proofs Go.RowKit

theorem txs_set (T : List ByteArray) (j : Nat) (s : ByteArray) : (txs T).set j (.string s) = txs (T.set j s) := by
  unfold txs
  rw [List.map_set]
theorem GE.setFl {base : Nat} {W W' : World} {rv : Value} {xs : List Value} {ps : List El} (h : GE base W rv xs ps 4) (hl : xs.length = ps.length * 4) (hS : ∀ p ∈ ps, ShC p) {i : Nat} (hi : i < ps.length) {x y : Int} {s s' : ByteArray} {T : List ByteArray}
    (hp : ps[i] = ⟨[.int .u8 x, .int .u8 y, .string s], .tx T⟩) (hm : ∀ b, rv.ownBlock ≠ some b → W'.heap[b]? = W.heap[b]?) :
    GE base W' rv (xs.set (i * 4 + 2) (.string s')) (ps.set i ⟨[.int .u8 x, .int .u8 y, .string s'], .tx T⟩) 4 := fun j hj => by
  have hj' : j < ps.length := by simpa using hj
  by_cases e : i = j
  · subst e
    obtain ⟨vs, h1, h2⟩ := h i hi
    rw [hp] at h1 h2
    rw [List.getElem_set_self]
    have h2' := h2.move (W' := W') (rv' := rv) (fun b _ _ hb => ⟨hm b hb, hb⟩)
    obtain ⟨v, rfl, -⟩ := h2
    refine ⟨[v], fun q u hq => ?_, h2'⟩
    match q, hq with
    | 0, hq => rw [List.getElem?_set_ne (by omega)]; exact h1 0 u hq
    | 1, hq => rw [List.getElem?_set_ne (by omega)]; exact h1 1 u hq
    | 2, hq => rw [List.getElem?_set_self (by omega)]; exact hq
    | 3, hq => rw [List.getElem?_set_ne (by omega)]; exact h1 3 u hq
    | q + 4, hq => simp at hq
  · obtain ⟨vs, h1, h2⟩ := h j hj'
    rw [List.getElem_set_ne e]
    refine ⟨vs, fun q u hq => ?_, h2.move (fun b _ _ hb => ⟨hm b hb, hb⟩)⟩
    have hq4 : q < 4 := by
      have h5 := lenC W _ (hS _ (List.getElem_mem hj')) vs h2.rd
      have h6 := (List.getElem?_eq_some_iff.1 hq).1
      omega
    rw [List.getElem?_set_ne (by omega)]
    exact h1 q u hq
theorem GE.setTx {base : Nat} {W : World} {rv : Value} {xs : List Value} {ps : List El} (h : GE base W rv xs ps 4) (hS : ∀ p ∈ ps, ShC p) (hdj : DJ xs 4 ps.length) {i : Nat} (hi : i < ps.length) {x y : Int} {s : ByteArray} {T : List ByteArray}
    (hp : ps[i] = ⟨[.int .u8 x, .int .u8 y, .string s], .tx T⟩) {m n cp : Nat} (hv : xs[i * 4 + 3]? = some (.slice (some ⟨m, 0, none⟩) n cp)) (j : Nat) (s' : ByteArray) :
    GE base (W.setCell ⟨m, j, none⟩ (.string s')) rv xs (ps.set i ⟨[.int .u8 x, .int .u8 y, .string s], .tx (T.set j s')⟩) 4 := fun q hq => by
  have hq' : q < ps.length := by simpa using hq
  by_cases e : i = q
  · subst e
    obtain ⟨vs, h1, h2⟩ := h i hi
    rw [hp] at h1 h2
    rw [List.getElem_set_self]
    obtain ⟨v, rfl, h3, h4, h5⟩ := h2
    have hvv := h1 3 v rfl
    rw [hv] at hvv
    obtain rfl := Option.some.inj hvv
    obtain ⟨a, c, e2⟩ := owns_slice h3
    obtain rfl : n = T.length := by simp at e2; exact e2.2.1
    refine ⟨[_], h1, _, rfl, ?_, by rw [List.length_set]; exact h4, h5⟩
    rw [List.length_set, ← txs_set]
    exact (h3.stored j (.string s')).1
  · obtain ⟨vs, h1, h2⟩ := h q hq'
    rw [List.getElem_set_ne e]
    obtain ⟨x', y', s2, T', he⟩ := hS _ (List.getElem_mem hq')
    rw [he] at h1 h2 ⊢
    obtain ⟨v, rfl, h3, h4, h5⟩ := h2
    refine ⟨[v], h1, v, rfl, owns_same h3 fun b hb => Below.heap_setCell _ _ _ _ fun hbm => ?_, h4, h5⟩
    have hvq : xs[q * 4 + 3]? = some v := h1 3 v rfl
    subst hbm
    rcases Nat.lt_or_ge i q with hlt | hge
    · exact hdj i q _ v b hlt hq' hv hvq rfl hb
    · exact hdj q i v _ b (by omega) hi hvq hv hb rfl
/-- A context's class is written over. -/
theorem OD.cls {base : Nat} {W : World} {ps : List El} {g n cap i : Nat} (h : OD base W (.slice (some ⟨g, 0, none⟩) n cap) ps) (hi : i < ps.length) {x y : Int} {s : ByteArray} {T : List ByteArray} (hp : ps[i] = ⟨[.int .u8 x, .int .u8 y, .string s], .tx T⟩) (s' : ByteArray) :
    OD base (W.setCell ⟨g, i * 4 + 2, none⟩ (.string s')) (.slice (some ⟨g, 0, none⟩) n cap) (ps.set i ⟨[.int .u8 x, .int .u8 y, .string s'], .tx T⟩) := by
  obtain ⟨⟨xs, h1, h2, h3⟩, ys, h4, h5⟩ := h
  obtain rfl := own_uniq h1 h4
  obtain rfl : n = ps.length := by obtain ⟨a, c, e⟩ := owns_slice h1; simp at e; exact e.2.1
  have h6 := (h1.stored (i * 4 + 2) (.string s')).1
  refine ⟨⟨_, by rw [List.length_set]; exact h6, h2.setFl h1.1 h3 hi hp (fun b hb => Below.heap_setCell _ _ _ _ fun e => hb (by rw [e]; rfl)), fun p hpm => ?_⟩, _, by rw [List.length_set]; exact h6, fun p q v u b hpq hq hv hu hb => ?_⟩
  · rcases List.mem_or_eq_of_mem_set hpm with h7 | rfl
    · exact h3 p h7
    · exact ⟨_, _, _, _, rfl⟩
  · rw [List.getElem?_set_ne (by omega)] at hv hu
    rw [List.length_set] at hq
    exact h5 p q v u b hpq hq hv hu hb
/-- One of a context's syntaxes is written over. -/
theorem OD.str {base : Nat} {W : World} {ps : List El} {g n cap i m t cp : Nat} (h : OD base W (.slice (some ⟨g, 0, none⟩) n cap) ps) (hi : i < ps.length) {x y : Int} {s : ByteArray} {T : List ByteArray} (hp : ps[i] = ⟨[.int .u8 x, .int .u8 y, .string s], .tx T⟩)
    (hv : W.cell? ⟨g, i * 4 + 3, none⟩ = some (.slice (some ⟨m, 0, none⟩) t cp)) (j : Nat) (s' : ByteArray) :
    OD base (W.setCell ⟨m, j, none⟩ (.string s')) (.slice (some ⟨g, 0, none⟩) n cap) (ps.set i ⟨[.int .u8 x, .int .u8 y, .string s], .tx (T.set j s')⟩) := by
  obtain ⟨⟨xs, h1, h2, h3⟩, ys, h4, h5⟩ := h
  obtain rfl := own_uniq h1 h4
  obtain rfl : n = ps.length := by obtain ⟨a, c, e⟩ := owns_slice h1; simp at e; exact e.2.1
  have hx : xs[i * 4 + 3]? = some (.slice (some ⟨m, 0, none⟩) t cp) := by rw [← h1.cellAt _ (by omega)]; exact hv
  have hgm : g ≠ m := fun e => by
    obtain ⟨vs, k1, k2⟩ := h2 i hi
    rw [hp] at k1 k2
    obtain ⟨v, rfl, k3, k4, k5⟩ := k2
    have := k1 3 v rfl
    rw [hx] at this
    obtain rfl := Option.some.inj this
    exact k5 m rfl (by rw [e]; rfl)
  have h6 := ownsRow_setCell_other (a := ⟨m, j, none⟩) h1 (fun e => hgm (by simpa [Value.ownBlock] using e)) (.string s')
  refine ⟨⟨_, by rw [List.length_set]; exact h6, h2.setTx h3 h5 hi hp hx j s', fun p hpm => ?_⟩, _, by rw [List.length_set]; exact h6, by rw [List.length_set]; exact h5⟩
  rcases List.mem_or_eq_of_mem_set hpm with h7 | rfl
  · exact h3 p h7
  · exact ⟨_, _, _, _, rfl⟩
/-- The cells of a context. -/
theorem OD.at {base : Nat} {W : World} {ps : List El} {g n cap i : Nat} (h : OD base W (.slice (some ⟨g, 0, none⟩) n cap) ps) (hi : i < ps.length) {x y : Int} {s : ByteArray} {T : List ByteArray} (hp : ps[i] = ⟨[.int .u8 x, .int .u8 y, .string s], .tx T⟩) :
    W.cell? ⟨g, i * 4 + 2, none⟩ = some (.string s) ∧ W.frozen? ⟨g, i * 4 + 2, none⟩ = false ∧ ∃ a cp, W.cell? ⟨g, i * 4 + 3, none⟩ = some (.slice a T.length cp) ∧ (0 < T.length → ∃ m, a = some ⟨m, 0, none⟩ ∧ base ≤ m ∧ m ≠ g ∧ (∃ cur, W.heap[m]? = some (.cells cur 9)) ∧ ∀ j, j < T.length → (∃ y, W.cell? ⟨m, j, none⟩ = some y) ∧ W.frozen? ⟨m, j, none⟩ = false) := by
  obtain ⟨⟨xs, h1, h2, h3⟩, -⟩ := h
  obtain rfl : n = ps.length := by obtain ⟨a, c, e⟩ := owns_slice h1; simp at e; exact e.2.1
  obtain ⟨vs, k1, k2⟩ := h2 i hi
  rw [hp] at k1 k2
  obtain ⟨v, rfl, k3, k4, k5⟩ := k2
  obtain ⟨a, cp, rfl⟩ := owns_slice k3
  have hw : OwnW W base 51 4 (.slice (some ⟨g, 0, none⟩) ps.length cap) ps.length := ⟨xs, h1⟩
  refine ⟨(h1.cellAt _ (by omega)).trans (k1 2 _ rfl), (hw.at _ (by omega)).2, a, cp, (h1.cellAt _ (by omega)).trans (k1 3 _ rfl), fun h0 => ?_⟩
  have hw2 : OwnW W base 9 1 (.slice a T.length cp) T.length := ⟨_, k3⟩
  rcases k3.2 with ⟨-, e0⟩ | ⟨m, cap', cur, e, hm, hc, -⟩
  · omega
  · simp at e
    obtain ⟨rfl, rfl⟩ := e
    refine ⟨m, rfl, hm, fun e => k5 m rfl (by rw [e]; rfl), ⟨cur, hc⟩, fun j hj => hw2.at j (by omega)⟩
/-- What no context's memory is stays: then lists of other kinds do. -/
def KT (base : Nat) (W W' : World) : Prop := ∀ b cur e fr, W.heap[b]? = some (.cells cur e fr) → (b < base ∨ e ≠ 51 ∧ e ≠ 9) → W'.heap[b]? = W.heap[b]?
theorem KT.own {base B s n : Nat} {e : TypeId} {W W' : World} {v : Value} {xs : List Value} (h : KT base W W') (ho : W.ownsRow B e s v n xs) (he : e ≠ 51 ∧ e ≠ 9) : W'.ownsRow B e s v n xs := owns_same ho fun b hb => by
  obtain ⟨-, -, cur, fr, h1⟩ := own_ty ho hb
  exact h b cur e fr h1 (.inr he)
theorem OE.keepT {base B : Nat} {W W' : World} {rv : Value} {ps : List El} {st : Nat} {e : TypeId} {Sh : El → Prop} (h : OE B W rv ps st e Sh) (he : e ≠ 51 ∧ e ≠ 9) (hS : ∀ p, Sh p → ∀ T, p.inn ≠ .tx T) (hk : KT base W W') : OE B W' rv ps st e Sh := by
  obtain ⟨xs, h1, h2, h3⟩ := h
  refine ⟨xs, hk.own h1 he, fun i hi => ?_, h3⟩
  obtain ⟨vs, k1, k2⟩ := h2 i hi
  refine ⟨vs, k1, ?_⟩
  have hT := hS _ (h3 _ (List.getElem_mem hi))
  generalize ps[i].inn = ii at k2 hT ⊢
  cases ii with
  | no => exact k2
  | tx T => exact absurd rfl (hT T)
  | «by» bs => obtain ⟨v, a1, a2, a3, a4⟩ := k2; exact ⟨v, a1, ⟨hk.own a2.1 (by decide), a2.2⟩, a3, a4⟩
/-- A PDU whose contexts were changed where they lie. -/
theorem OX.chg {base : Nat} {W W' : World} {c : Fin 18 → Value} {D : PdD} {cx : List El} (h : OX base W c D) (hk : KT base W W') (hd : OD base W' (c 4) cx) (hl : cx.length = D.cx.length) : OX base W' c ⟨cx, D.rl, D.ot, D.vl⟩ := by
  obtain ⟨m0, m, M, ⟨xs, a1, a2, a3⟩, ⟨ys, b1, b2, b3⟩⟩ := h.dj
  exact ⟨h.one, ⟨hd.oe, by show Fits cx.length 48; rw [hl]; exact h.ctx.2⟩, ⟨h.role.1.keepT (by decide) (fun p ⟨_, _, _, e⟩ T => by rw [e]; simp) hk, h.role.2⟩, ⟨h.oth.1.keepT (by decide) (fun p ⟨_, _, e⟩ T => by rw [e]; simp) hk, h.oth.2⟩,
    ⟨h.val.1.keepT (by decide) (fun p ⟨_, _, _, _, e⟩ T => by rw [e]; simp) hk, h.val.2⟩, m0, m, M, ⟨xs, hk.own a1 (by decide), a2, a3⟩, ⟨ys, hk.own b1 (by decide), b2, b3⟩⟩
end Go.Proofs.YtnamkcfmbefkfaaDoor
