import Derived.Test.YtnamkcfmbefkfaaDoorQ
import Derived.Test.YtnamkcfmbefkfaaDoorXb
import Derived.Laws.AppendOwnNone
import Derived.Deep.RegionWith
namespace Go.Proofs.YtnamkcfmbefkfaaDoor
open Go Go.Proofs Go.RowKit
theorem setCells_rowx {g : Nat} {t : TypeId} : ∀ (vs : List Value) (o : Nat) (W : World) (Q : Array Value), W.heap[g]? = some (.cells Q t (0, 0)) → o + vs.length ≤ Q.size → ∀ Q', (W.setCells g o vs).heap[g]? = some (.cells Q' t (0, 0)) →
    (∀ j, (j < o ∨ o + vs.length ≤ j) → Q'[j]? = Q[j]?) ∧ (∀ j v, vs[j]? = some v → Q'[o + j]? = some v)
  | [], o, W, Q, h, _, Q', h' => by
    have e : (W.setCells g o []).heap[g]? = W.heap[g]? := rfl
    rw [e, h] at h'
    obtain rfl : Q = Q' := by simpa using h'
    exact ⟨fun _ _ => rfl, fun j v hv => by simp at hv⟩
  | v :: vs, o, W, Q, h, hl, Q', h' => by
    have he := setCell_eq_setRow W g o Q t (0, 0) v h
    have h1 : (W.setCell ⟨g, o, none⟩ v).heap[g]? = some (.cells (Q.setIfInBounds o v) t (0, 0)) := by rw [he]; exact setRow_heap W g Q _ t _ h
    obtain ⟨a1, a2⟩ := setCells_rowx vs (o + 1) _ _ h1 (by simp at hl ⊢; omega) Q' h'
    refine ⟨fun j hj => ?_, fun j u hu => ?_⟩
    · rw [a1 j (by simp at hj; omega), Array.getElem?_setIfInBounds_ne (by simp at hj; omega)]
    · cases j with
      | zero =>
        simp at hu
        subst hu
        rw [Nat.add_zero, a1 o (by omega), Array.getElem?_setIfInBounds_self_of_lt (by simp at hl; omega)]
      | succ j =>
        simp at hu
        rw [show o + (j + 1) = o + 1 + j by omega]
        exact a2 j u hu
end Go.Proofs.YtnamkcfmbefkfaaDoor

namespace Go.Proofs.YtnamkcfmbefkfaaDoor
open Go Go.Proofs Go.RowKit
end Go.Proofs.YtnamkcfmbefkfaaDoor

namespace Go.Proofs.YtnamkcfmbefkfaaDoor
open Go Go.Proofs Go.RowKit
def Flat (w : World) (v : Value) (n st : Nat) (xs : List Value) : Prop :=
  xs.length = n * st ∧ NoCap v ∧ (∀ u ∈ xs, u.oneCell' = true) ∧ ∃ ao cap, v = .slice ao n cap ∧ (0 < n → ∃ b off, ao = some ⟨b, off, none⟩ ∧ ∀ j u, xs[j]? = some u → w.cell? ⟨b, off + j, none⟩ = some u)
theorem flat_get {st : Nat} : ∀ (L : List (List Value)) (_ : ∀ l ∈ L, l.length = st) (i j : Nat) (hi : i < L.length) (_ : j < st), L.flatten[i * st + j]? = (L[i])[j]?
  | [], _, i, j, hi, _ => by simp at hi
  | l :: r, hL, 0, j, _, hj => by
    have hl : l.length = st := hL l (by simp)
    rw [List.flatten_cons, Nat.zero_mul, Nat.zero_add, List.getElem?_append_left (by omega)]
    rfl
  | l :: r, hL, i + 1, j, hi, hj => by
    have hl : l.length = st := hL l (by simp)
    have hm : (i + 1) * st + j = l.length + (i * st + j) := by rw [hl, Nat.add_mul, Nat.one_mul]; omega
    rw [List.flatten_cons, hm, List.getElem?_append_right (by omega), Nat.add_sub_cancel_left]
    exact flat_get r (fun x hx => hL x (by simp [hx])) i j (by simpa using hi) hj
theorem flat_len {st : Nat} : ∀ (L : List (List Value)) (_ : ∀ l ∈ L, l.length = st), L.flatten.length = L.length * st
  | [], _ => by simp
  | l :: r, hL => by
    have hl : l.length = st := hL l (by simp)
    rw [List.flatten_cons, List.length_append, flat_len r (fun x hx => hL x (by simp [hx])), hl, List.length_cons, Nat.add_mul, Nat.one_mul]
    omega
theorem RE.flat {w : World} {v : Value} {ps : List El} {st : Nat} {Sh : El → Prop} (h : RE w v ps st Sh) (hlen : ∀ p, Sh p → ∀ vs, InnR w p.inn vs → (p.fl ++ vs).length = st) (hone : ∀ p, Sh p → ∀ vs, InnR w p.inn vs → ∀ u ∈ p.fl ++ vs, u.oneCell' = true) (hst : 0 < st) :
    ∃ xs, Flat w v ps.length st xs ∧ ∀ i (h : i < ps.length), ∃ vs, (∀ j u, (ps[i].fl ++ vs)[j]? = some u → xs[i * st + j]? = some u) ∧ InnR w ps[i].inn vs := by
  obtain ⟨hnc, ao, cap, rfl, hs, hf⟩ := h
  by_cases h0 : ps.length = 0
  · refine ⟨[], ⟨by rw [h0]; simp, hnc, fun u hu => by simp at hu, ao, cap, rfl, fun hn => by omega⟩, fun i hi => by omega⟩
  obtain ⟨b, off, rfl, hE⟩ := hf (by omega)
  obtain ⟨L, hL1, hL2⟩ := pick_list (n := ps.length) (P := fun k (l : List Value) => ∃ (hk : k < ps.length) (vs : List Value), l = ps[k].fl ++ vs ∧ (∀ j u, l[j]? = some u → w.cell? ⟨b, off + k * st + j, none⟩ = some u) ∧ InnR w ps[k].inn vs) (fun k hk => by
    obtain ⟨vs, h1, h2⟩ := hE k hk
    exact ⟨_, hk, vs, rfl, h1, h2⟩)
  have hLl : ∀ l ∈ L, l.length = st := fun l hl => by
    obtain ⟨k, hk, rfl⟩ := List.getElem_of_mem hl
    obtain ⟨hk', vs, h1, h2, h3⟩ := hL2 k hk
    rw [h1]
    exact hlen _ (hs _ (List.getElem_mem hk')) vs h3
  refine ⟨L.flatten, ⟨by rw [flat_len L hLl, hL1], hnc, fun u hu => ?_, some ⟨b, off, none⟩, cap, rfl, fun _ => ⟨b, off, rfl, fun J u hu => ?_⟩⟩, fun i hi => ?_⟩
  · obtain ⟨l, hl, hul⟩ := List.mem_flatten.1 hu
    obtain ⟨k, hk, rfl⟩ := List.getElem_of_mem hl
    obtain ⟨hk', vs, h1, h2, h3⟩ := hL2 k hk
    rw [h1] at hul
    exact hone _ (hs _ (List.getElem_mem hk')) vs h3 u hul
  · have hJ : J < L.length * st := by rw [← flat_len L hLl]; exact (List.getElem?_eq_some_iff.1 hu).1
    have hi : J / st < L.length := Nat.div_lt_of_lt_mul (by rw [Nat.mul_comm]; exact hJ)
    have hj : J % st < st := Nat.mod_lt _ hst
    have hd : J / st * st + J % st = J := by rw [Nat.mul_comm]; exact Nat.div_add_mod J st
    rw [← hd, flat_get L hLl _ _ hi hj] at hu
    obtain ⟨hk', vs, h1, h2, h3⟩ := hL2 (J / st) hi
    have := h2 _ _ hu
    rw [show off + J / st * st + J % st = off + J by omega] at this
    exact this
  · obtain ⟨hk', vs, h1, h2, h3⟩ := hL2 i (by omega)
    refine ⟨vs, fun j u hu => ?_, h3⟩
    rw [← h1] at hu
    have hj : j < st := by
      have := (List.getElem?_eq_some_iff.1 hu).1
      rw [hLl _ (List.getElem_mem (by omega))] at this
      exact this
    rw [flat_get L hLl i j (by omega) hj]
    exact hu
end Go.Proofs.YtnamkcfmbefkfaaDoor

namespace Go.Proofs.YtnamkcfmbefkfaaDoor
open Go Go.Proofs Go.RowKit
theorem lenC (w : World) (p : El) (h : ShC p) (vs : List Value) (hv : InnR w p.inn vs) : (p.fl ++ vs).length = 4 := by
  obtain ⟨x, y, s, T, rfl⟩ := h
  obtain ⟨v, rfl, _⟩ := hv
  rfl
theorem lenR (w : World) (p : El) (h : ShR p) (vs : List Value) (hv : InnR w p.inn vs) : (p.fl ++ vs).length = 3 := by
  obtain ⟨s, x, y, rfl⟩ := h
  obtain rfl : vs = [] := hv
  rfl
theorem lenO (w : World) (p : El) (h : ShO p) (vs : List Value) (hv : InnR w p.inn vs) : (p.fl ++ vs).length = 2 := by
  obtain ⟨x, bs, rfl⟩ := h
  obtain ⟨v, rfl, _⟩ := hv
  rfl
theorem lenV (w : World) (p : El) (h : ShV p) (vs : List Value) (hv : InnR w p.inn vs) : (p.fl ++ vs).length = 4 := by
  obtain ⟨x, y, z, bs, rfl⟩ := h
  obtain ⟨v, rfl, _⟩ := hv
  rfl
def LTy (e : TypeId) : Prop := e = 51 ∨ e = 54 ∨ e = 57 ∨ e = 60 ∨ e = 9 ∨ e = 5
theorem own_ty {W : World} {B s n b : Nat} {e : TypeId} {v : Value} {xs : List Value} (h : W.ownsRow B e s v n xs) (hb : v.ownBlock = some b) : B ≤ b ∧ b < W.heap.size ∧ ∃ cur fr, W.heap[b]? = some (.cells cur e fr) := by
  refine ⟨(h.lt b hb).1, (h.lt b hb).2, ?_⟩
  rcases h.2 with ⟨rfl, _⟩ | ⟨g, cap, cur, rfl, _, hh, _⟩
  · cases hb
  · obtain rfl : g = b := by simpa [Value.ownBlock] using hb
    exact ⟨cur, _, hh⟩
def RF (F : Nat → Prop) (W : World) (rv : Value) (m : Nat) : Prop :=
  ∀ g n cap, rv = .slice (some ⟨g, 0, none⟩) n cap → F g ∧ ∀ j v b, j < m → W.cell? ⟨g, j, none⟩ = some v → v.ownBlock = some b → F b
theorem RF.nil (F : Nat → Prop) (W : World) (n cap m : Nat) : RF F W (.slice none n cap) m := fun g n cap h => by simp at h
theorem RF.mono {F G : Nat → Prop} {W : World} {rv : Value} {m : Nat} (h : RF F W rv m) (hg : ∀ b, F b → G b) : RF G W rv m := fun g n cap e => ⟨hg _ (h g n cap e).1, fun j v b hj hv hb => hg _ ((h g n cap e).2 j v b hj hv hb)⟩
theorem RF.keep {F : Nat → Prop} {W W' : World} {rv : Value} {m : Nat} (h : RF F W rv m) (hk : ∀ b, rv.ownBlock = some b → W'.heap[b]? = W.heap[b]?) : RF F W' rv m := fun g n cap e => by
  refine ⟨(h g n cap e).1, fun j v b hj hv hb => (h g n cap e).2 j v b hj ?_ hb⟩
  rw [← hv]
  exact (World.cell?_of_block (hk g (by rw [e]; rfl))).symm
theorem RF.of {F : Nat → Prop} {base : Nat} {W : World} {rv : Value} {ps : List El} {st : Nat} {e : TypeId} {Sh : El → Prop} (h : OE base W rv ps st e Sh) (hst : 0 < st) (he : LTy e) (hlen : ∀ p, Sh p → ∀ vs, InnR W p.inn vs → (p.fl ++ vs).length = st) (hfl : ∀ p, Sh p → ∀ u ∈ p.fl, u.ownBlock = none)
    (hF : ∀ b, base ≤ b → b < W.heap.size → (∃ cur e' fr, W.heap[b]? = some (.cells cur e' fr) ∧ LTy e') → F b) : RF F W rv (ps.length * st) := by
  obtain ⟨xs, ho, hg, hs⟩ := h
  intro g n cap hrv
  have hown : rv.ownBlock = some g := by rw [hrv]; rfl
  obtain ⟨t1, t2, cur, fr, t3⟩ := own_ty ho hown
  refine ⟨hF g t1 t2 ⟨cur, e, fr, t3, he⟩, fun j v b hj hv hb => ?_⟩
  have hi : j / st < ps.length := Nat.div_lt_of_lt_mul (by rw [Nat.mul_comm]; exact hj)
  have hr : j % st < st := Nat.mod_lt _ hst
  have hd : j / st * st + j % st = j := by rw [Nat.mul_comm]; exact Nat.div_add_mod j st
  obtain ⟨vs, h1, h2⟩ := hg (j / st) hi
  have hl := hlen _ (hs _ (List.getElem_mem hi)) vs h2.rd
  have hu := h1 (j % st) _ (List.getElem?_eq_getElem (by rw [hl]; exact hr))
  rw [hd] at hu
  obtain ⟨cap', rfl⟩ : ∃ cap', rv = .slice (some ⟨g, 0, none⟩) ps.length cap' := by
    obtain ⟨a', p', e'⟩ := owns_slice ho
    rw [hrv] at e'
    exact ⟨cap, by simp at e'; rw [hrv, e'.2.1]⟩
  have hc := ho.cellAt j (by omega)
  rw [hv, hu] at hc
  obtain rfl := Option.some.inj hc
  rcases List.mem_append.1 (List.getElem_mem (by rw [hl]; exact hr)) with hm | hm
  · rw [hfl _ (hs _ (List.getElem_mem hi)) _ hm] at hb
    cases hb
  · generalize (ps[j / st].fl ++ vs)[j % st]'(by rw [hl]; exact hr) = u at hb hm
    generalize ps[j / st].inn = ii at h2
    cases ii with
    | no => obtain rfl : vs = [] := h2; exact absurd hm List.not_mem_nil
    | tx T =>
      obtain ⟨x, rfl, k2, -, -⟩ := h2
      obtain rfl := List.mem_singleton.1 hm
      obtain ⟨a1, a2, c, f, a3⟩ := own_ty k2 hb
      exact hF b a1 a2 ⟨c, 9, f, a3, by simp [LTy]⟩
    | «by» bs =>
      obtain ⟨x, rfl, k2, -, -⟩ := h2
      obtain rfl := List.mem_singleton.1 hm
      obtain ⟨a1, a2, c, f, a3⟩ := own_ty k2.1 hb
      exact hF b a1 a2 ⟨c, 5, f, a3, by simp [LTy]⟩
theorem flC (p : El) (h : ShC p) : ∀ u ∈ p.fl, u.ownBlock = none := by
  obtain ⟨x, y, s, T, rfl⟩ := h
  intro u hu
  simp at hu
  rcases hu with rfl | rfl | rfl <;> rfl
theorem flR (p : El) (h : ShR p) : ∀ u ∈ p.fl, u.ownBlock = none := by
  obtain ⟨s, x, y, rfl⟩ := h
  intro u hu
  simp at hu
  rcases hu with rfl | rfl | rfl <;> rfl
theorem flO (p : El) (h : ShO p) : ∀ u ∈ p.fl, u.ownBlock = none := by
  obtain ⟨x, bs, rfl⟩ := h
  intro u hu
  simp at hu
  subst hu
  rfl
theorem flV (p : El) (h : ShV p) : ∀ u ∈ p.fl, u.ownBlock = none := by
  obtain ⟨x, y, z, bs, rfl⟩ := h
  intro u hu
  simp at hu
  rcases hu with rfl | rfl | rfl <;> rfl
structure PF (F : Nat → Prop) (W : World) (c : Fin 18 → Value) (D : PdD) : Prop where
  ctx : RF F W (c 4) (D.cx.length * 4)
  role : RF F W (c 12) (D.rl.length * 3)
  oth : RF F W (c 13) (D.ot.length * 2)
  val : RF F W (c 17) (D.vl.length * 4)
theorem PF.mono {F G : Nat → Prop} {W : World} {c : Fin 18 → Value} {D : PdD} (h : PF F W c D) (hg : ∀ b, F b → G b) : PF G W c D := ⟨h.ctx.mono hg, h.role.mono hg, h.oth.mono hg, h.val.mono hg⟩
theorem PF.of {F : Nat → Prop} {base : Nat} {W : World} {c : Fin 18 → Value} {D : PdD} (h : OX base W c D) (hF : ∀ b, base ≤ b → b < W.heap.size → (∃ cur e' fr, W.heap[b]? = some (.cells cur e' fr) ∧ LTy e') → F b) : PF F W c D :=
  ⟨RF.of h.ctx.1 (by decide) (by simp [LTy]) (lenC W) flC hF, RF.of h.role.1 (by decide) (by simp [LTy]) (lenR W) flR hF, RF.of h.oth.1 (by decide) (by simp [LTy]) (lenO W) flO hF, RF.of h.val.1 (by decide) (by simp [LTy]) (lenV W) flV hF⟩
theorem OE.lt {base : Nat} {W : World} {rv : Value} {ps : List El} {st : Nat} {e : TypeId} {Sh : El → Prop} (h : OE base W rv ps st e Sh) : ∀ b, rv.ownBlock = some b → base ≤ b ∧ b < W.heap.size := by
  obtain ⟨xs, h1, -, -⟩ := h
  exact h1.lt
theorem PF.keep {F : Nat → Prop} {base : Nat} {W W' : World} {c : Fin 18 → Value} {D : PdD} (h : PF F W c D) (ho : OX base W c D) (hk : ∀ b, base ≤ b → b < W.heap.size → W'.heap[b]? = W.heap[b]?) : PF F W' c D :=
  ⟨h.ctx.keep fun b e => hk b (ho.ctx.1.lt b e).1 (ho.ctx.1.lt b e).2, h.role.keep fun b e => hk b (ho.role.1.lt b e).1 (ho.role.1.lt b e).2, h.oth.keep fun b e => hk b (ho.oth.1.lt b e).1 (ho.oth.1.lt b e).2, h.val.keep fun b e => hk b (ho.val.1.lt b e).1 (ho.val.1.lt b e).2⟩
structure OXF (F : Nat → Prop) (base : Nat) (W : World) (c : Fin 18 → Value) (D : PdD) : Prop extends OX base W c D where
  ft : PF F W c D
end Go.Proofs.YtnamkcfmbefkfaaDoor

namespace Go.Proofs.YtnamkcfmbefkfaaDoor
open Go Go.Proofs Go.RowKit
theorem RE.flatn {w : World} {v : Value} {ps : List El} {st n : Nat} {Sh : El → Prop} (h : RE w v ps st Sh) (hlen : ∀ p, Sh p → ∀ vs, InnR w p.inn vs → (p.fl ++ vs).length = st) (hone : ∀ p, Sh p → ∀ vs, InnR w p.inn vs → ∀ u ∈ p.fl ++ vs, u.oneCell' = true) (hst : 0 < st) (hn : ps.length = n) :
    ∃ a cp xs, v = .slice a n cp ∧ Flat w (.slice a n cp) n st xs ∧ ∀ i (h : i < ps.length), ∃ vs, (∀ j u, (ps[i].fl ++ vs)[j]? = some u → xs[i * st + j]? = some u) ∧ InnR w ps[i].inn vs := by
  subst hn
  obtain ⟨xs, h1, h2⟩ := h.flat hlen hone hst
  obtain ⟨-, a, cp, hv, -⟩ := h
  exact ⟨a, cp, xs, hv, hv ▸ h1, h2⟩
end Go.Proofs.YtnamkcfmbefkfaaDoor

namespace Go.Proofs.YtnamkcfmbefkfaaDoor
open Go Go.Proofs Go.RowKit
theorem own_uniq {W : World} {B B' s n : Nat} {e e' : TypeId} {v : Value} {xs ys : List Value} (h : W.ownsRow B e s v n xs) (h' : W.ownsRow B' e' s v n ys) : xs = ys := by
  apply List.ext_getElem?
  intro j
  by_cases hj : j < n * s
  · rcases h.2 with ⟨rfl, h0⟩ | ⟨g, cap, cur, rfl, _⟩
    · rw [h0, Nat.zero_mul] at hj; omega
    · rw [← h.cellAt j hj, h'.cellAt j hj]
  · rw [List.getElem?_eq_none (by have := h.1; omega), List.getElem?_eq_none (by have := h'.1; omega)]
end Go.Proofs.YtnamkcfmbefkfaaDoor
