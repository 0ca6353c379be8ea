import Derived.Test.YtnamkcfmbefkfaaDoorQ
set_option linter.unusedVariables false
namespace Go.Proofs.YtnamkcfmbefkfaaDoor
open Go Go.Proofs Go.RowKit
inductive Inn where
  | no
  | tx (T : List ByteArray)
  | by (bs : List Nat)
structure El where
  fl : List Value
  inn : Inn
def txs (T : List ByteArray) : List Value := T.map Value.string
theorem txs_get (T : List ByteArray) (k : Nat) (h : k < T.length) : (txs T)[k]? = some (.string T[k]) := by simp [txs, h]
def NoCap (v : Value) : Prop := ∀ n cap, v = .slice none n cap → n = 0 ∧ cap = 0
theorem NoCap.own {w : World} {B s n : Nat} {e : TypeId} {v : Value} {xs : List Value} (h : w.ownsRow B e s v n xs) : NoCap v := fun m cap hv => by
  rcases h.2 with ⟨rfl, _⟩ | ⟨g, c, cur, rfl, _⟩
  · obtain ⟨rfl, rfl⟩ : 0 = m ∧ 0 = cap := by simpa using hv
    exact ⟨rfl, rfl⟩
  · simp at hv
def TR (W : World) (v : Value) (T : List ByteArray) : Prop := ∃ ao cap, v = .slice ao T.length cap ∧ (0 < T.length → ∃ b off, ao = some ⟨b, off, none⟩ ∧ ∀ k (h : k < T.length), W.cell? ⟨b, off + k, none⟩ = some (.string T[k])) ∧ T.length * 16 ≤ 140737488351232 ∧ NoCap v
theorem TR.on {W W' : World} {v : Value} {T : List ByteArray} (h : TR W v T) (hb : Below W.heap.size W W') : TR W' v T := by
  obtain ⟨ao, cap, rfl, hf, hz⟩ := h
  refine ⟨ao, cap, rfl, fun hn => ?_, hz⟩
  obtain ⟨b, off, rfl, hE⟩ := hf hn
  exact ⟨b, off, rfl, fun k hk => (hb.cell (cell_lt (hE k hk))).trans (hE k hk)⟩
def InnR (W : World) : Inn → List Value → Prop
  | .no, vs => vs = []
  | .tx T, vs => ∃ v, vs = [v] ∧ TR W v T
  | .by bs, vs => ∃ v, vs = [v] ∧ V W v bs ∧ bs.length ≤ 140737488351232 ∧ NoCap v
theorem InnR.on {W W' : World} {i : Inn} {vs : List Value} (h : InnR W i vs) (hb : Below W.heap.size W W') : InnR W' i vs := by
  cases i with
  | no => exact h
  | tx T => obtain ⟨v, h1, h2⟩ := h; exact ⟨v, h1, h2.on hb⟩
  | «by» bs => obtain ⟨v, h1, h2, h3⟩ := h; exact ⟨v, h1, h2.next hb, h3⟩
def RE (W : World) (v : Value) (ps : List El) (st : Nat) (Sh : El → Prop) : Prop :=
  NoCap v ∧ ∃ ao cap, v = .slice ao ps.length cap ∧ (∀ p ∈ ps, Sh p) ∧ (0 < ps.length → ∃ b off, ao = some ⟨b, off, none⟩ ∧ ∀ k (h : k < ps.length), ∃ vs, (∀ j u, (ps[k].fl ++ vs)[j]? = some u → W.cell? ⟨b, off + k * st + j, none⟩ = some u) ∧ InnR W ps[k].inn vs)
theorem RE.on {W W' : World} {v : Value} {ps : List El} {st : Nat} {Sh : El → Prop} (h : RE W v ps st Sh) (hb : Below W.heap.size W W') : RE W' v ps st Sh := by
  obtain ⟨hnc, ao, cap, rfl, hs, hf⟩ := h
  refine ⟨hnc, ao, cap, rfl, hs, fun hn => ?_⟩
  obtain ⟨b, off, rfl, hE⟩ := hf hn
  refine ⟨b, off, rfl, fun k hk => ?_⟩
  obtain ⟨vs, h1, h2⟩ := hE k hk
  exact ⟨vs, fun j u hu => (hb.cell (cell_lt (h1 j u hu))).trans (h1 j u hu), h2.on hb⟩
def InnO (base : Nat) (W : World) (rv : Value) : Inn → List Value → Prop
  | .no, vs => vs = []
  | .tx T, vs => ∃ v, vs = [v] ∧ W.ownsRow base 9 1 v T.length (txs T) ∧ T.length * 16 ≤ 140737488351232 ∧ ∀ b, v.ownBlock = some b → rv.ownBlock ≠ some b
  | .by bs, vs => ∃ v, vs = [v] ∧ Own W base v bs ∧ bs.length ≤ 140737488351232 ∧ ∀ b, v.ownBlock = some b → rv.ownBlock ≠ some b
theorem InnO.move {base : Nat} {W W' : World} {rv rv' : Value} {i : Inn} {vs : List Value} (h : InnO base W rv i vs) (hk : ∀ b, base ≤ b → b < W.heap.size → rv.ownBlock ≠ some b → W'.heap[b]? = W.heap[b]? ∧ rv'.ownBlock ≠ some b) : InnO base W' rv' i vs := by
  cases i with
  | no => exact h
  | tx T =>
    obtain ⟨v, h1, h2, h3, h4⟩ := h
    exact ⟨v, h1, owns_same h2 (fun b e => (hk b (h2.lt b e).1 (h2.lt b e).2 (h4 b e)).1), h3, fun b e => (hk b (h2.lt b e).1 (h2.lt b e).2 (h4 b e)).2⟩
  | «by» bs =>
    obtain ⟨v, h1, h2, h3, h4⟩ := h
    exact ⟨v, h1, ⟨owns_same h2.1 (fun b e => (hk b (h2.1.lt b e).1 (h2.1.lt b e).2 (h4 b e)).1), h2.2⟩, h3, fun b e => (hk b (h2.1.lt b e).1 (h2.1.lt b e).2 (h4 b e)).2⟩
theorem InnO.low {base base' : Nat} {W : World} {rv : Value} {i : Inn} {vs : List Value} (h : InnO base W rv i vs) (hb : base' ≤ base) : InnO base' W rv i vs := by
  cases i with
  | no => exact h
  | tx T => obtain ⟨v, h1, h2, h3, h4⟩ := h; exact ⟨v, h1, own_low h2 hb, h3, h4⟩
  | «by» bs => obtain ⟨v, h1, h2, h3, h4⟩ := h; exact ⟨v, h1, ⟨own_low h2.1 hb, h2.2⟩, h3, h4⟩
theorem InnO.rd {base : Nat} {W : World} {rv : Value} {i : Inn} {vs : List Value} (h : InnO base W rv i vs) : InnR W i vs := by
  cases i with
  | no => exact h
  | tx T =>
    obtain ⟨v, h1, h2, h3, h4⟩ := h
    refine ⟨v, h1, ?_⟩
    rcases h2.2 with ⟨rfl, h0⟩ | ⟨g, cap, cur, rfl, _⟩
    · exact ⟨none, 0, by rw [h0], fun hp => by omega, h3, NoCap.own h2⟩
    · exact ⟨_, cap, rfl, fun _ => ⟨g, 0, rfl, fun k hk => by rw [Nat.zero_add, h2.cellAt k (by omega), txs_get T k hk]⟩, h3, NoCap.own h2⟩
  | «by» bs => obtain ⟨v, h1, h2, h3, h4⟩ := h; exact ⟨v, h1, h2.v.1, h3, NoCap.own h2.1⟩
def GE (base : Nat) (W : World) (rv : Value) (xs : List Value) (ps : List El) (st : Nat) : Prop :=
  ∀ i (h : i < ps.length), ∃ vs, (∀ j u, (ps[i].fl ++ vs)[j]? = some u → xs[i * st + j]? = some u) ∧ InnO base W rv ps[i].inn vs
theorem GE.move {base : Nat} {W W' : World} {rv rv' : Value} {xs : List Value} {ps : List El} {st : Nat} (h : GE base W rv xs ps st) (hk : ∀ b, base ≤ b → b < W.heap.size → rv.ownBlock ≠ some b → W'.heap[b]? = W.heap[b]? ∧ rv'.ownBlock ≠ some b) : GE base W' rv' xs ps st := fun i hi => by
  obtain ⟨vs, h1, h2⟩ := h i hi
  exact ⟨vs, h1, h2.move hk⟩
theorem GE.low {base base' : Nat} {W : World} {rv : Value} {xs : List Value} {ps : List El} {st : Nat} (h : GE base W rv xs ps st) (hb : base' ≤ base) : GE base' W rv xs ps st := fun i hi => by
  obtain ⟨vs, h1, h2⟩ := h i hi
  exact ⟨vs, h1, h2.low hb⟩
theorem GE.nil (base : Nat) (W : World) (rv : Value) (xs : List Value) (st : Nat) : GE base W rv xs [] st := fun i hi => by simp at hi
theorem GE.push {base : Nat} {W : World} {rv : Value} {xs : List Value} {ps : List El} {st : Nat} (h : GE base W rv xs ps st) (hl : xs.length = ps.length * st) {e : El} {vs : List Value} (hi : InnO base W rv e.inn vs) : GE base W rv (xs ++ (e.fl ++ vs)) (ps ++ [e]) st := fun i hi' => by
  by_cases hij : i < ps.length
  · obtain ⟨us, h1, h2⟩ := h i hij
    refine ⟨us, fun j u hu => ?_, ?_⟩
    · rw [List.getElem_append_left hij] at hu
      have := h1 j u hu
      rw [List.getElem?_append_left (List.getElem?_eq_some_iff.1 this).1]
      exact this
    · rw [List.getElem_append_left hij]
      exact h2
  · obtain rfl : i = ps.length := by simp at hi'; omega
    refine ⟨vs, fun j u hu => ?_, ?_⟩
    · rw [List.getElem_append_right (Nat.le_refl _)] at hu
      simp only [Nat.sub_self, List.getElem_cons_zero] at hu
      rw [List.getElem?_append_right (by omega), show ps.length * st + j - xs.length = j by omega]
      exact hu
    · rw [List.getElem_append_right (Nat.le_refl _)]
      simpa using hi
theorem GE.rd {base : Nat} {W : World} {rv : Value} {xs : List Value} {ps : List El} {st : Nat} {e : TypeId} {Sh : El → Prop} (h : GE base W rv xs ps st) (ho : W.ownsRow base e st rv ps.length xs) (hs : ∀ p ∈ ps, Sh p) : RE W rv ps st Sh := by
  rcases ho.2 with ⟨rfl, h0⟩ | ⟨g, cap, cur, rfl, _⟩
  · exact ⟨NoCap.own ho, none, 0, by rw [h0], hs, fun hp => by omega⟩
  · refine ⟨NoCap.own ho, _, cap, rfl, hs, fun _ => ⟨g, 0, rfl, fun k hk => ?_⟩⟩
    obtain ⟨vs, h1, h2⟩ := h k hk
    refine ⟨vs, fun j u hu => ?_, h2.rd⟩
    have hx := h1 j u hu
    have hlt : k * st + j < ps.length * st := by have := (List.getElem?_eq_some_iff.1 hx).1; have := ho.1; omega
    rw [Nat.zero_add, ho.cellAt _ hlt]
    exact hx
def ShC (p : El) : Prop := ∃ x y s T, p = ⟨[.int .u8 x, .int .u8 y, .string s], .tx T⟩
def ShR (p : El) : Prop := ∃ s x y, p = ⟨[.string s, .int .u8 x, .int .u8 y], .no⟩
def ShO (p : El) : Prop := ∃ x bs, p = ⟨[.int .u8 x], .by bs⟩
def ShV (p : El) : Prop := ∃ x y z bs, p = ⟨[.int .u8 x, .bool y, .bool z], .by bs⟩
structure PdD where
  cx : List El
  rl : List El
  ot : List El
  vl : List El
structure RX (W : World) (c : Fin 18 → Value) (D : PdD) : Prop where
  one : ∀ i, (c i).oneCell' = true
  ctx : RE W (c 4) D.cx 4 ShC ∧ Fits D.cx.length 48
  role : RE W (c 12) D.rl 3 ShR ∧ Fits D.rl.length 24
  oth : RE W (c 13) D.ot 2 ShO ∧ Fits D.ot.length 32
  val : RE W (c 17) D.vl 4 ShV ∧ Fits D.vl.length 32
theorem RX.on {W W' : World} {c : Fin 18 → Value} {D : PdD} (h : RX W c D) (hb : Below W.heap.size W W') : RX W' c D :=
  ⟨h.one, ⟨h.ctx.1.on hb, h.ctx.2⟩, ⟨h.role.1.on hb, h.role.2⟩, ⟨h.oth.1.on hb, h.oth.2⟩, ⟨h.val.1.on hb, h.val.2⟩⟩
def OE (base : Nat) (W : World) (rv : Value) (ps : List El) (st : Nat) (e : TypeId) (Sh : El → Prop) : Prop := ∃ xs, W.ownsRow base e st rv ps.length xs ∧ GE base W rv xs ps st ∧ ∀ p ∈ ps, Sh p
theorem OE.keep {base : Nat} {W W' : World} {rv : Value} {ps : List El} {st : Nat} {e : TypeId} {Sh : El → Prop} (h : OE base W rv ps st e Sh) (hk : ∀ b, base ≤ b → b < W.heap.size → W'.heap[b]? = W.heap[b]?) : OE base W' rv ps st e Sh := by
  obtain ⟨xs, h1, h2, h3⟩ := h
  exact ⟨xs, owns_same h1 (fun b e => hk b (h1.lt b e).1 (h1.lt b e).2), h2.move (fun b hb1 hb2 hb3 => ⟨hk b hb1 hb2, hb3⟩), h3⟩
theorem OE.low {base base' : Nat} {W : World} {rv : Value} {ps : List El} {st : Nat} {e : TypeId} {Sh : El → Prop} (h : OE base W rv ps st e Sh) (hb : base' ≤ base) : OE base' W rv ps st e Sh := by
  obtain ⟨xs, h1, h2, h3⟩ := h
  exact ⟨xs, own_low h1 hb, h2.low hb, h3⟩
theorem OE.rd {base : Nat} {W : World} {rv : Value} {ps : List El} {st : Nat} {e : TypeId} {Sh : El → Prop} (h : OE base W rv ps st e Sh) : RE W rv ps st Sh := by
  obtain ⟨xs, h1, h2, h3⟩ := h
  exact h2.rd h1 h3
theorem OE.one {base : Nat} {W : World} {rv : Value} {ps : List El} {st : Nat} {e : TypeId} {Sh : El → Prop} (h : OE base W rv ps st e Sh) : rv.oneCell' = true := by
  obtain ⟨xs, h1, -, -⟩ := h
  exact owns_one h1
theorem OE.nil (base : Nat) (W : World) (st : Nat) (e : TypeId) (Sh : El → Prop) : OE base W (.slice none 0 0) [] st e Sh := ⟨[], World.ownsRow_nil _ _ _ _, GE.nil _ _ _ _ _, fun p hp => by simp at hp⟩
def DJ (xs : List Value) (st n : Nat) : Prop := ∀ p q v u b, p < q → q < n → xs[p * st + (st - 1)]? = some v → xs[q * st + (st - 1)]? = some u → v.ownBlock = some b → u.ownBlock ≠ some b
def UB (lo hi : Nat) (xs : List Value) (st n : Nat) : Prop := ∀ p v b, p < n → xs[p * st + (st - 1)]? = some v → v.ownBlock = some b → lo ≤ b ∧ b < hi
theorem DJ.nil (xs : List Value) (st : Nat) : DJ xs st 0 := fun p q v u b _ h => absurd h (Nat.not_lt_zero _)
theorem DJ.push {xs : List Value} {st n lo K : Nat} {fl : List Value} {u : Value} (h : DJ xs st n) (hl : xs.length = n * st) (hf : fl.length + 1 = st) (hK : UB lo K xs st n) (hu : ∀ b, u.ownBlock = some b → K ≤ b) : DJ (xs ++ (fl ++ [u])) st (n + 1) := by
  have hlt : ∀ q, q < n → q * st + (st - 1) < xs.length := fun q hq => by
    have := Nat.mul_le_mul_right st (show q + 1 ≤ n by omega)
    rw [Nat.add_mul, Nat.one_mul] at this
    omega
  intro p q v w b hpq hq hv hw hb
  rw [List.getElem?_append_left (hlt p (by omega))] at hv
  by_cases hqn : q < n
  · rw [List.getElem?_append_left (hlt q hqn)] at hw
    exact h p q v w b hpq hqn hv hw hb
  · obtain rfl : q = n := by omega
    rw [List.getElem?_append_right (by omega), show q * st + (st - 1) - xs.length = fl.length by omega, List.getElem?_append_right (Nat.le_refl _)] at hw
    obtain rfl : u = w := by simpa using hw
    intro e
    have h1 := hu b e
    have h2 := (hK p v b hpq hv hb).2
    omega
theorem GE.ub {base : Nat} {W : World} {rv : Value} {xs : List Value} {ps : List El} {st : Nat} (h : GE base W rv xs ps st) (hS : ∀ p ∈ ps, p.fl.length + 1 = st ∧ ∃ bs, p.inn = .by bs) : UB base W.heap.size xs st ps.length := by
  intro p v b hp hv hb
  obtain ⟨vs, h1, h2⟩ := h p hp
  obtain ⟨hl, bs, hi⟩ := hS _ (List.getElem_mem hp)
  rw [hi] at h2
  obtain ⟨u, rfl, hO, -, -⟩ := h2
  have h3 := h1 (st - 1) u (by rw [List.getElem?_append_right (by omega), show st - 1 - ps[p].fl.length = 0 by omega]; rfl)
  rw [hv] at h3
  obtain rfl := Option.some.inj h3
  exact hO.1.lt b hb
theorem shO_s {p : El} (h : ShO p) : p.fl.length + 1 = 2 ∧ ∃ bs, p.inn = .by bs := by
  obtain ⟨x, bs, rfl⟩ := h
  exact ⟨rfl, bs, rfl⟩
theorem shV_s {p : El} (h : ShV p) : p.fl.length + 1 = 4 ∧ ∃ bs, p.inn = .by bs := by
  obtain ⟨x, y, z, bs, rfl⟩ := h
  exact ⟨rfl, bs, rfl⟩
def BR (lo m1 m2 : Nat) (W : World) (rv : Value) (e : TypeId) (st n : Nat) : Prop := ∃ xs, W.ownsRow lo e st rv n xs ∧ DJ xs st n ∧ UB m1 m2 xs st n
theorem BR.nil (lo m1 m2 : Nat) (W : World) (e : TypeId) (st : Nat) : BR lo m1 m2 W (.slice none 0 0) e st 0 := ⟨[], World.ownsRow_nil _ _ _ _, DJ.nil _ _, fun p v b h => absurd h (Nat.not_lt_zero _)⟩
theorem BR.keep {lo m1 m2 : Nat} {W W' : World} {rv : Value} {e : TypeId} {st n : Nat} (h : BR lo m1 m2 W rv e st n) (hk : ∀ b, lo ≤ b → b < W.heap.size → W'.heap[b]? = W.heap[b]?) : BR lo m1 m2 W' rv e st n := by
  obtain ⟨xs, h1, h2, h3⟩ := h
  exact ⟨xs, owns_same h1 (fun b e => hk b (h1.lt b e).1 (h1.lt b e).2), h2, h3⟩
theorem BR.low {lo lo' m1 m2 : Nat} {W : World} {rv : Value} {e : TypeId} {st n : Nat} (h : BR lo m1 m2 W rv e st n) (hl : lo' ≤ lo) : BR lo' m1 m2 W rv e st n := by
  obtain ⟨xs, h1, h2, h3⟩ := h
  exact ⟨xs, own_low h1 hl, h2, h3⟩
structure OX (base : Nat) (W : World) (c : Fin 18 → Value) (D : PdD) : Prop where
  one : ∀ i, (c i).oneCell' = true
  ctx : OE base W (c 4) D.cx 4 51 ShC ∧ Fits D.cx.length 48
  role : OE base W (c 12) D.rl 3 54 ShR ∧ Fits D.rl.length 24
  oth : OE base W (c 13) D.ot 2 57 ShO ∧ Fits D.ot.length 32
  val : OE base W (c 17) D.vl 4 60 ShV ∧ Fits D.vl.length 32
  dj : ∃ m0 m M, BR base m0 m W (c 13) 57 2 D.ot.length ∧ BR base m M W (c 17) 60 4 D.vl.length
theorem OX.rx {base : Nat} {W : World} {c : Fin 18 → Value} {D : PdD} (h : OX base W c D) : RX W c D :=
  ⟨h.one, ⟨h.ctx.1.rd, h.ctx.2⟩, ⟨h.role.1.rd, h.role.2⟩, ⟨h.oth.1.rd, h.oth.2⟩, ⟨h.val.1.rd, h.val.2⟩⟩
theorem OX.keep {base : Nat} {W W' : World} {c : Fin 18 → Value} {D : PdD} (h : OX base W c D) (hk : ∀ b, base ≤ b → b < W.heap.size → W'.heap[b]? = W.heap[b]?) : OX base W' c D :=
  ⟨h.one, ⟨h.ctx.1.keep hk, h.ctx.2⟩, ⟨h.role.1.keep hk, h.role.2⟩, ⟨h.oth.1.keep hk, h.oth.2⟩, ⟨h.val.1.keep hk, h.val.2⟩, by obtain ⟨m0, m, M, h1, h2⟩ := h.dj; exact ⟨m0, m, M, h1.keep hk, h2.keep hk⟩⟩
theorem OX.low {base base' : Nat} {W : World} {c : Fin 18 → Value} {D : PdD} (h : OX base W c D) (hb : base' ≤ base) : OX base' W c D :=
  ⟨h.one, ⟨h.ctx.1.low hb, h.ctx.2⟩, ⟨h.role.1.low hb, h.role.2⟩, ⟨h.oth.1.low hb, h.oth.2⟩, ⟨h.val.1.low hb, h.val.2⟩, by obtain ⟨m0, m, M, h1, h2⟩ := h.dj; exact ⟨m0, m, M, h1.low hb, h2.low hb⟩⟩
theorem pick_list {α : Type} [Inhabited α] {n : Nat} {P : Nat → α → Prop} (h : ∀ k, k < n → ∃ a, P k a) : ∃ xs : List α, xs.length = n ∧ ∀ k (hk : k < xs.length), P k xs[k] := by
  induction n with
  | zero => exact ⟨[], rfl, fun k hk => by simp at hk⟩
  | succ n ih =>
    obtain ⟨xs, h1, h2⟩ := ih fun k hk => h k (by omega)
    obtain ⟨a, ha⟩ := h n (by omega)
    refine ⟨xs ++ [a], by simp [h1], fun k hk => ?_⟩
    by_cases hkn : k < xs.length
    · rw [List.getElem_append_left hkn]; exact h2 k hkn
    · obtain rfl : k = xs.length := by simp at hk; omega
      rw [List.getElem_append_right (Nat.le_refl _)]
      simp only [Nat.sub_self, List.getElem_cons_zero]
      rw [h1]
      exact ha
end Go.Proofs.YtnamkcfmbefkfaaDoor
