import Derived.Test.YtiieikdbhpflgabDoorXg
/-
  DERIVED. lend: the event in new memory, every list in a block of its own, marks behind the values.
-/
namespace Go.Proofs.YtiieikdbhpflgabDoor
open Go Go.Proofs Go.RowKit

theorem own_pre {W : World} {B g n : Nat} {bs : List Nat} (hn : bs.length = n) (h : Own W B (.slice (some ⟨g, 0, none⟩) (n + 3) (n + 3)) (bs ++ [160, 161, 162])) : Own W B (.slice (some ⟨g, 0, none⟩) n (n + 3)) bs := by
  obtain ⟨⟨h1, h2⟩, h3⟩ := h
  refine ⟨⟨by rw [u8s_length, Nat.mul_one], .inr ?_⟩, fun x hx => h3 x (List.mem_append_left _ hx)⟩
  rcases h2 with ⟨h2, _⟩ | ⟨g', cap, cur, e, h4, h5, h6, h7, h8, h9⟩
  · simp at h2
  · have e' : g = g' ∧ n + 3 = cap := by simp at e; exact ⟨e.1, e.2.2⟩
    obtain ⟨rfl, rfl⟩ := e'
    refine ⟨g, n + 3, cur, by rw [hn], h4, h5, by omega, h7, h8, ?_⟩
    have hl : (bs ++ [160, 161, 162]).length = n + 3 := by simp [hn]
    rw [hl] at h9
    have : cur.toList.take (bs.length * 1) = (cur.toList.take ((n + 3) * 1)).take (bs.length * 1) := by rw [List.take_take, Nat.min_eq_left (by omega)]
    rw [this, h9, u8s_append, Nat.mul_one, ← u8s_length bs, List.take_left']
    rw [u8s_length]
theorem own_marks {W : World} {B g n : Nat} {bs : List Nat} (hn : bs.length = n) (h : Own W B (.slice (some ⟨g, 0, none⟩) (n + 3) (n + 3)) (bs ++ [160, 161, 162])) : ∀ i, i < 3 → W.cell? ⟨g, n + i, none⟩ = some (.int .u8 ((160 + i : Nat) : Int)) := by
  intro i hi
  have hl : (bs ++ [160, 161, 162]).length = n + 3 := by simp [hn]
  have h1 := h.1
  rw [hl] at h1
  rw [h1.cellAt (n + i) (by omega), u8s_get _ _ (by omega)]
  congr 2
  rw [List.getD_eq_getElem?_getD, List.getElem?_append_right (by omega), hn, show n + i - n = i by omega]
  rcases (show i = 0 ∨ i = 1 ∨ i = 2 by omega) with rfl | rfl | rfl <;> rfl
/-- A row of elements of one's own; the rows of bytes of the first i are new, and rows of their own. -/
def LX (lo K : Nat) (W : World) (rv : Value) (n : Nat) (e : TypeId) (st : Nat) (ps : List El) (i : Nat) : Prop :=
  ∃ xs, W.ownsRow lo e st rv n xs ∧ GE lo W rv xs ps st ∧ DJ xs st i ∧ UB K W.heap.size xs st i
theorem LX.step {lo K : Nat} {W W9 : World} {g n cp : Nat} {e : TypeId} {st : Nat} {ps : List El} {i f : Nat} {u : Value} (h : LX lo K W (.slice (some ⟨g, 0, none⟩) n cp) n e st ps i) (hi : i < ps.length) (hf : ps[i].fl.length = f) (hfs : f + 1 = st) (hb : Below W.heap.size W W9)
    (hu : InnO lo W9 (.slice (some ⟨g, 0, none⟩) n cp) ps[i].inn [u]) (hn : ∀ b, u.ownBlock = some b → W.heap.size ≤ b ∧ b < W9.heap.size) (hK : K ≤ W.heap.size) (hlen : ∀ p ∈ ps, ∀ vs, InnR W p.inn vs → (p.fl ++ vs).length = st) : LX lo K (W9.setCell ⟨g, i * st + f, none⟩ u) (.slice (some ⟨g, 0, none⟩) n cp) n e st ps (i + 1) := by
  obtain ⟨xs, ho, hg, hdj, hub⟩ := h
  have ho9 := owns_next ho hb
  have hgne : ∀ b, (Value.slice (some ⟨g, 0, none⟩) n cp).ownBlock ≠ some b → b ≠ g := fun b hb e => hb (by rw [e]; rfl)
  have hne : ∀ q, q < i → i * st + f ≠ q * st + (st - 1) := fun q hq => by
    have := Nat.mul_le_mul_right st (show q + 1 ≤ i by omega)
    rw [Nat.add_mul, Nat.one_mul] at this
    omega
  have hwb : W.heap.size ≤ W9.heap.size := hb.size
  refine ⟨xs.set (i * st + f) u, (ho9.stored (i * st + f) u).1, fun q hq => ?_, ?_, ?_⟩
  · obtain ⟨vs, h1, h2⟩ := hg q hq
    have hl := hlen _ (List.getElem_mem hq) vs h2.rd
    by_cases hqi : q = i
    · subst hqi
      refine ⟨[u], fun j v hv => ?_, hu.move (fun b _ _ hb3 => ⟨Below.heap_setCell _ _ _ _ (hgne b hb3), hb3⟩)⟩
      have hjl : j < st := by have := (List.getElem?_eq_some_iff.1 hv).1; rw [List.length_append, hf] at this; simp at this; omega
      by_cases hjf : j = f
      · subst hjf
        rw [List.getElem?_append_right (by omega), hf] at hv
        simp at hv
        subst hv
        rw [List.getElem?_set_self]
        have hv0 : ∃ v0, (ps[q].fl ++ vs)[j]? = some v0 := ⟨_, List.getElem?_eq_getElem (by omega)⟩
        obtain ⟨v0, hv0⟩ := hv0
        exact (List.getElem?_eq_some_iff.1 (h1 j v0 hv0)).1
      · rw [List.getElem?_append_left (by omega)] at hv
        rw [List.getElem?_set_ne (by omega)]
        exact h1 j v (by rw [List.getElem?_append_left (by omega)]; exact hv)
    · refine ⟨vs, fun j v hv => ?_, h2.move (fun b hb1 hb2 hb3 => ⟨(Below.heap_setCell _ _ _ _ (hgne b hb3)).trans (hb.block b hb2), hb3⟩)⟩
      have hjl : j < st := by have := (List.getElem?_eq_some_iff.1 hv).1; omega
      rw [List.getElem?_set_ne ?_]
      · exact h1 j v hv
      · rcases Nat.lt_or_ge q i with hx | hx
        · have := Nat.mul_le_mul_right st (show q + 1 ≤ i by omega)
          rw [Nat.add_mul, Nat.one_mul] at this
          omega
        · have := Nat.mul_le_mul_right st (show i + 1 ≤ q by omega)
          rw [Nat.add_mul, Nat.one_mul] at this
          omega
  · intro p q v y b hpq hq hv hy hbv
    rw [List.getElem?_set_ne (hne p (by omega))] at hv
    by_cases hqi : q < i
    · rw [List.getElem?_set_ne (hne q hqi)] at hy
      exact hdj p q v y b hpq hqi hv hy hbv
    · obtain rfl : q = i := by omega
      intro e
      have h1 := (hub p v b hpq hv hbv).2
      rw [show q * st + f = q * st + (st - 1) by omega, List.getElem?_set_self'] at hy
      obtain ⟨_, -, rfl⟩ := Option.map_eq_some_iff.1 hy
      have := (hn b e).1
      omega
  · intro p v b hp hv hbv
    have hs : (W9.setCell ⟨g, i * st + f, none⟩ u).heap.size = W9.heap.size := by simp
    rw [hs]
    by_cases hpi : p < i
    · rw [List.getElem?_set_ne (hne p hpi)] at hv
      have := hub p v b hpi hv hbv
      omega
    · obtain rfl : p = i := by omega
      rw [show p * st + f = p * st + (st - 1) by omega, List.getElem?_set_self'] at hv
      obtain ⟨_, -, rfl⟩ := Option.map_eq_some_iff.1 hv
      have := hn b hbv
      omega
theorem LX.keep {lo K : Nat} {W W' : World} {rv : Value} {n : Nat} {e : TypeId} {st : Nat} {ps : List El} {i : Nat} (h : LX lo K W rv n e st ps i) (hs : W.heap.size ≤ W'.heap.size) (hk : ∀ b, lo ≤ b → b < W.heap.size → W'.heap[b]? = W.heap[b]?) : LX lo K W' rv n e st ps i := by
  obtain ⟨xs, ho, hg, hd, hu⟩ := h
  exact ⟨xs, owns_same ho (fun b e => hk b (ho.lt b e).1 (ho.lt b e).2), hg.move (fun b h1 h2 h3 => ⟨hk b h1 h2, h3⟩), hd, fun p v b hp hv hb => ⟨(hu p v b hp hv hb).1, Nat.lt_of_lt_of_le (hu p v b hp hv hb).2 hs⟩⟩
theorem LX.cur {lo K : Nat} {W : World} {g n cp : Nat} {e : TypeId} {st : Nat} {ps : List El} {i : Nat} (h : LX lo K W (.slice (some ⟨g, 0, none⟩) n cp) n e st ps i) (hi : i < ps.length) : ∃ vs, (∀ j u, (ps[i].fl ++ vs)[j]? = some u → W.cell? ⟨g, i * st + j, none⟩ = some u) ∧ InnO lo W (.slice (some ⟨g, 0, none⟩) n cp) ps[i].inn vs ∧ ∀ j, W.frozen? ⟨g, j, none⟩ = false := by
  obtain ⟨xs, ho, hx, -⟩ := h
  obtain ⟨vs, h1, h3⟩ := hx i hi
  refine ⟨vs, fun j u hu => ?_, h3, ho.frozenAt⟩
  have hx := h1 j u hu
  rw [ho.cellAt _ (by have := (List.getElem?_eq_some_iff.1 hx).1; have := ho.1; omega)]
  exact hx
/-- The first j values have marks behind them. -/
def MK (K : Nat) (W : World) (rv : Value) (ps : List El) (j : Nat) : Prop := ∀ q (h : q < ps.length), q < j → ∃ g n cap m mc bs, rv = .slice (some ⟨g, 0, none⟩) n cap ∧ W.cell? ⟨g, q * 4 + 3, none⟩ = some (.slice (some ⟨m, 0, none⟩) bs.length mc) ∧ ps[q].inn = .by bs ∧ bs.length + 3 ≤ mc ∧ (K ≤ m ∧ g < K ∧ m < W.heap.size) ∧ ∀ i, i < 3 → W.cell? ⟨m, bs.length + i, none⟩ = some (.int .u8 ((160 + i : Nat) : Int))
theorem MK.step {K : Nat} {W W9 : World} {g n cp j : Nat} {ps : List El} {bs : List Nat} (h : MK K W (.slice (some ⟨g, 0, none⟩) n cp) ps j) (hb : Below W.heap.size W W9) (hg : g < K) (hK : K ≤ W.heap.size) {v0 : Value} (hc : W.cell? ⟨g, j * 4 + 3, none⟩ = some v0) (hi : ∀ h : j < ps.length, ps[j].inn = .by bs) (hs : W.heap.size < W9.heap.size) (hm : ∀ i, i < 3 → W9.cell? ⟨W.heap.size, bs.length + i, none⟩ = some (.int .u8 ((160 + i : Nat) : Int))) :
    MK K (W9.setCell ⟨g, j * 4 + 3, none⟩ (.slice (some ⟨W.heap.size, 0, none⟩) bs.length (bs.length + 3))) (.slice (some ⟨g, 0, none⟩) n cp) ps (j + 1) := fun q hq hqj => by
  have hz : (W9.setCell ⟨g, j * 4 + 3, none⟩ (.slice (some ⟨W.heap.size, 0, none⟩) bs.length (bs.length + 3))).heap.size = W9.heap.size := by simp
  have ho : ∀ b, K ≤ b → ∀ o, (W9.setCell ⟨g, j * 4 + 3, none⟩ (.slice (some ⟨W.heap.size, 0, none⟩) bs.length (bs.length + 3))).cell? ⟨b, o, none⟩ = W9.cell? ⟨b, o, none⟩ := fun b hb' o => World.cell?_of_block (Below.heap_setCell _ _ _ _ (show b ≠ g by omega))
  by_cases hqi : q < j
  · obtain ⟨g', n', cap', m, mc, bs', e, h1, h2, h3, h4, h5⟩ := h q hq hqi
    obtain rfl : g = g' := by simp at e; exact e.1
    refine ⟨g, n, cp, m, mc, bs', rfl, ?_, h2, h3, by rw [hz]; omega, fun i hi => ?_⟩
    · exact (cell_set_ne (by omega)).trans ((hb.cell (p := ⟨g, q * 4 + 3, none⟩) (by show g < _; omega)).trans h1)
    · rw [ho m h4.1]; exact (hb.cell (p := ⟨m, bs'.length + i, none⟩) h4.2.2).trans (h5 i hi)
  · obtain rfl : q = j := by omega
    exact ⟨g, n, cp, W.heap.size, bs.length + 3, bs, rfl, cell_set_eq ((hb.cell (p := ⟨g, q * 4 + 3, none⟩) (by show g < _; omega)).trans hc), hi hq, Nat.le_refl _, ⟨hK, hg, by rw [hz]; exact hs⟩, fun i hi' => by rw [ho _ hK]; exact hm i hi'⟩
theorem MK.keep {K : Nat} {W W' : World} {rv : Value} {ps : List El} {j lo : Nat} (h : MK K W rv ps j) (hs : W.heap.size ≤ W'.heap.size) (hr : ∀ b, rv.ownBlock = some b → lo ≤ b) (hlo : lo ≤ K) (hk : ∀ b, lo ≤ b → b < W.heap.size → W'.heap[b]? = W.heap[b]?) : MK K W' rv ps j := fun q hq hqj => by
  obtain ⟨g, n, cap, m, mc, bs, e, h1, h2, h3, h4, h5⟩ := h q hq hqj
  have hg := hr g (by rw [e]; rfl)
  exact ⟨g, n, cap, m, mc, bs, e, (World.cell?_of_block (hk g hg (cell_lt h1))).trans h1, h2, h3, ⟨h4.1, h4.2.1, by omega⟩, fun i hi => (World.cell?_of_block (hk m (by omega) h4.2.2)).trans (h5 i hi)⟩
theorem own_uniq {W : World} {B B' s n : Nat} {e e' : TypeId} {v : Value} {xs ys : List Value} (h : W.ownsRow B e s v n xs) (h' : W.ownsRow B' e' s v n ys) : xs = ys := by
  apply List.ext_getElem?
  intro j
  by_cases hj : j < n * s
  · rcases h.2 with ⟨rfl, h0⟩ | ⟨g, cap, cur, rfl, _⟩
    · rw [h0, Nat.zero_mul] at hj; omega
    · rw [← h.cellAt j hj, h'.cellAt j hj]
  · rw [List.getElem?_eq_none (by have := h.1; omega), List.getElem?_eq_none (by have := h'.1; omega)]
theorem own_78 {W : World} {B s n g i : Nat} {e : TypeId} {v u : Value} {xs : List Value} (h : W.ownsRow B e s v n xs) (he : e ≠ 78) (hg : ∃ cur fr, W.heap[g]? = some (.cells cur 78 fr)) : ∀ b, v.ownBlock = some b → (W.setCell ⟨g, i, none⟩ u).heap[b]? = W.heap[b]? := fun b hb => by
  refine Below.heap_setCell _ _ _ b fun hbg => ?_
  simp at hbg
  subst hbg
  obtain ⟨_, _, c2, f2, h2⟩ := own_ty h hb
  obtain ⟨c3, f3, h3⟩ := hg
  rw [h2] at h3
  simp at h3
  exact he h3.2.1
theorem BR.set78 {lo m1 m2 : Nat} {W : World} {rv : Value} {e : TypeId} {st n : Nat} (h : BR lo m1 m2 W rv e st n) (he : e ≠ 78) {g o : Nat} {u : Value} (hg : ∃ cur fr, W.heap[g]? = some (.cells cur 78 fr)) : BR lo m1 m2 (W.setCell ⟨g, o, none⟩ u) rv e st n := by
  obtain ⟨xs, h1, h2, h3⟩ := h
  exact ⟨xs, owns_same h1 (own_78 h1 he hg), h2, h3⟩
theorem RF.set78 {F : Nat → Prop} {W : World} {rv : Value} {m base st : Nat} {ps : List El} {e : TypeId} {Sh : El → Prop} (h : RF F W rv m) (ho : OE base W rv ps st e Sh) (he : e ≠ 78) {g o : Nat} {u : Value} (hg : ∃ cur fr, W.heap[g]? = some (.cells cur 78 fr)) : RF F (W.setCell ⟨g, o, none⟩ u) rv m := by
  obtain ⟨xs, h1, -, -⟩ := ho
  exact h.keep (own_78 h1 he hg)
theorem RF.on {F : Nat → Prop} {W W' : World} {rv : Value} {m base st : Nat} {ps : List El} {e : TypeId} {Sh : El → Prop} (h : RF F W rv m) (ho : OE base W rv ps st e Sh) (hb : Below W.heap.size W W') : RF F W' rv m := h.keep fun b e => hb.block b (ho.lt b e).2
theorem RF.ofLX {F : Nat → Prop} {lo K : Nat} {W : World} {rv : Value} {n : Nat} {e : TypeId} {ps : List El} (h : LX lo K W rv n e 4 ps n) (hn : ps.length = n) (hs : ∀ p ∈ ps, ShV p) (h1 : ∀ b, rv.ownBlock = some b → F b) (h2 : ∀ b, K ≤ b → b < W.heap.size → F b) : RF F W rv (n * 4) := by
  obtain ⟨xs, ho, hg, -, hub⟩ := h
  intro g n' cap hrv
  refine ⟨h1 g (by rw [hrv]; rfl), fun j v b hj hv hb => ?_⟩
  have hi : j / 4 < ps.length := by omega
  obtain ⟨a', p', e'⟩ := owns_slice ho
  obtain ⟨cap', rfl⟩ : ∃ cap', rv = .slice (some ⟨g, 0, none⟩) n cap' := by
    rw [hrv] at e'
    exact ⟨cap, by simp at e'; rw [hrv, e'.2.1]⟩
  have hc := ho.cellAt j (by omega)
  rw [hv] at hc
  by_cases h3 : j % 4 = 3
  · have := hub (j / 4) v b (by omega) (by rw [show j / 4 * 4 + (4 - 1) = j by omega]; exact hc.symm) hb
    exact h2 b this.1 this.2
  · obtain ⟨vs, k1, k2⟩ := hg (j / 4) hi
    obtain ⟨x, y, z, bs, he⟩ := hs _ (List.getElem_mem hi)
    rw [he] at k1
    have hr : j % 4 = 0 ∨ j % 4 = 1 ∨ j % 4 = 2 := by omega
    rcases hr with h | h | h
    · have := k1 0 _ rfl
      rw [show j / 4 * 4 + 0 = j by omega, ← hc] at this
      obtain rfl := Option.some.inj this
      cases hb
    · have := k1 1 _ rfl
      rw [show j / 4 * 4 + 1 = j by omega, ← hc] at this
      obtain rfl := Option.some.inj this
      cases hb
    · have := k1 2 _ rfl
      rw [show j / 4 * 4 + 2 = j by omega, ← hc] at this
      obtain rfl := Option.some.inj this
      cases hb
/-- What stands of the other lists while the values are lent. -/
def OK3 (s M M2 : Nat) (wr : World) (c3 c4 : Fin 18 → Value) (D1 D2 : PdD) : Prop :=
  (RF (fun b => s ≤ b ∧ b < M) wr (c3 4) (D1.cx.length * 4) ∧ RF (fun b => s ≤ b ∧ b < M) wr (c3 12) (D1.rl.length * 3) ∧ RF (fun b => s ≤ b ∧ b < M) wr (c3 13) (D1.ot.length * 2)) ∧ PF (fun b => M ≤ b ∧ b < M2) wr c4 D2 ∧ ∃ m0, BR (s + 3) m0 M wr (c3 13) 91 2 D1.ot.length
/-- What lend leaves, in memory of its own. -/
def LendQ (w : World) (EV : Array Value) (kd k1 k2 : Int) (c1 c2 : Fin 18 → Value) (D1 D2 : PdD) (e : Ending) (w' : World) : Prop :=
  ∃ Q c3 c4 M M2, e = .returned (.agg Q) ∧ EvX w' Q kd k1 c3 D1 k2 c4 D2 ∧ Q[20]? = EV[20]? ∧ Q[40]? = EV[40]? ∧ (∀ i, i ≠ 4 → i ≠ 12 → i ≠ 13 → i ≠ 17 → c3 i = c1 i ∧ c4 i = c2 i) ∧ Below w.heap.size w w' ∧
    OX w.heap.size w' c3 D1 ∧ OX w.heap.size w' c4 D2 ∧ PF (fun b => w.heap.size ≤ b ∧ b < w'.heap.size ∧ (b < M ∨ M2 ≤ b)) w' c3 D1 ∧ PF (fun b => w.heap.size ≤ b ∧ b < w'.heap.size ∧ M ≤ b ∧ b < M2) w' c4 D2 ∧ MK M2 w' (c3 17) D1.vl D1.vl.length
set_option maxRecDepth 100000 in
set_option maxHeartbeats 4000000 in
theorem lend_own (w : World) (EV : Array Value) (kd k1 k2 : Int) (c1 c2 : Fin 18 → Value) (D1 D2 : PdD) (hE : EvX w EV kd k1 c1 D1 k2 c2 D2) :
    Calls Tryd.prog 7 #[.agg EV] w (LendQ w EV kd k1 k2 c1 c2 D1 D2) := by
  have hsE : (Tryd.prog.info? 48).map (·.size) = some EV.size := by rw [hE.sz]; exact size50
  obtain ⟨W2, hW2⟩ : ∃ W2, ((w.alloc (.cells EV 48)).alloc (.cells #[.int .i64 0, .int .i64 0, .int .u16 0, .string ⟨#[]⟩, .string ⟨#[]⟩, .string ⟨#[]⟩, .slice none 0 0, .bool false, .int .u32 0, .string ⟨#[]⟩, .string ⟨#[]⟩, .bool false, .int .u16 0, .int .u16 0, .slice none 0 0, .slice none 0 0, .int .u8 0, .int .u8 0, .int .u8 0, .slice none 0 0, .bool false, .int .i64 0, .int .u16 0, .string ⟨#[]⟩, .string ⟨#[]⟩, .string ⟨#[]⟩, .slice none 0 0, .bool false, .int .u32 0, .string ⟨#[]⟩, .string ⟨#[]⟩, .bool false, .int .u16 0, .int .u16 0, .slice none 0 0, .slice none 0 0, .int .u8 0, .int .u8 0, .int .u8 0, .slice none 0 0, .int .u8 0] 48)).alloc (.cells #[.int .i64 0, .int .i64 0, .int .u16 0, .string ⟨#[]⟩, .string ⟨#[]⟩, .string ⟨#[]⟩, .slice none 0 0, .bool false, .int .u32 0, .string ⟨#[]⟩, .string ⟨#[]⟩, .bool false, .int .u16 0, .int .u16 0, .slice none 0 0, .slice none 0 0, .int .u8 0, .int .u8 0, .int .u8 0, .slice none 0 0, .bool false, .int .i64 0, .int .u16 0, .string ⟨#[]⟩, .string ⟨#[]⟩, .string ⟨#[]⟩, .slice none 0 0, .bool false, .int .u32 0, .string ⟨#[]⟩, .string ⟨#[]⟩, .bool false, .int .u16 0, .int .u16 0, .slice none 0 0, .slice none 0 0, .int .u8 0, .int .u8 0, .int .u8 0, .slice none 0 0, .int .u8 0] 48) = W2 := ⟨_, rfl⟩
  obtain ⟨W3, hW3⟩ : ∃ W3, W2.setRow (w.heap.size + 1 + 1) EV = W3 := ⟨_, rfl⟩
  have hgP : ((w.alloc (.cells EV 48)).alloc (.cells #[.int .i64 0, .int .i64 0, .int .u16 0, .string ⟨#[]⟩, .string ⟨#[]⟩, .string ⟨#[]⟩, .slice none 0 0, .bool false, .int .u32 0, .string ⟨#[]⟩, .string ⟨#[]⟩, .bool false, .int .u16 0, .int .u16 0, .slice none 0 0, .slice none 0 0, .int .u8 0, .int .u8 0, .int .u8 0, .slice none 0 0, .bool false, .int .i64 0, .int .u16 0, .string ⟨#[]⟩, .string ⟨#[]⟩, .string ⟨#[]⟩, .slice none 0 0, .bool false, .int .u32 0, .string ⟨#[]⟩, .string ⟨#[]⟩, .bool false, .int .u16 0, .int .u16 0, .slice none 0 0, .slice none 0 0, .int .u8 0, .int .u8 0, .int .u8 0, .slice none 0 0, .int .u8 0] 48)).heap[w.heap.size]? = some (.cells EV 48) := (Below.heap_alloc _ _ _ (by simp)).trans (alloc_new w _)
  have hgQ : W2.heap[w.heap.size + 1 + 1]? = some (.cells #[.int .i64 0, .int .i64 0, .int .u16 0, .string ⟨#[]⟩, .string ⟨#[]⟩, .string ⟨#[]⟩, .slice none 0 0, .bool false, .int .u32 0, .string ⟨#[]⟩, .string ⟨#[]⟩, .bool false, .int .u16 0, .int .u16 0, .slice none 0 0, .slice none 0 0, .int .u8 0, .int .u8 0, .int .u8 0, .slice none 0 0, .bool false, .int .i64 0, .int .u16 0, .string ⟨#[]⟩, .string ⟨#[]⟩, .string ⟨#[]⟩, .slice none 0 0, .bool false, .int .u32 0, .string ⟨#[]⟩, .string ⟨#[]⟩, .bool false, .int .u16 0, .int .u16 0, .slice none 0 0, .slice none 0 0, .int .u8 0, .int .u8 0, .int .u8 0, .slice none 0 0, .int .u8 0] 48) := by
    rw [← hW2]
    have := alloc_new ((w.alloc (.cells EV 48)).alloc (.cells #[.int .i64 0, .int .i64 0, .int .u16 0, .string ⟨#[]⟩, .string ⟨#[]⟩, .string ⟨#[]⟩, .slice none 0 0, .bool false, .int .u32 0, .string ⟨#[]⟩, .string ⟨#[]⟩, .bool false, .int .u16 0, .int .u16 0, .slice none 0 0, .slice none 0 0, .int .u8 0, .int .u8 0, .int .u8 0, .slice none 0 0, .bool false, .int .i64 0, .int .u16 0, .string ⟨#[]⟩, .string ⟨#[]⟩, .string ⟨#[]⟩, .slice none 0 0, .bool false, .int .u32 0, .string ⟨#[]⟩, .string ⟨#[]⟩, .bool false, .int .u16 0, .int .u16 0, .slice none 0 0, .slice none 0 0, .int .u8 0, .int .u8 0, .int .u8 0, .slice none 0 0, .int .u8 0] 48)) (.cells #[.int .i64 0, .int .i64 0, .int .u16 0, .string ⟨#[]⟩, .string ⟨#[]⟩, .string ⟨#[]⟩, .slice none 0 0, .bool false, .int .u32 0, .string ⟨#[]⟩, .string ⟨#[]⟩, .bool false, .int .u16 0, .int .u16 0, .slice none 0 0, .slice none 0 0, .int .u8 0, .int .u8 0, .int .u8 0, .slice none 0 0, .bool false, .int .i64 0, .int .u16 0, .string ⟨#[]⟩, .string ⟨#[]⟩, .string ⟨#[]⟩, .slice none 0 0, .bool false, .int .u32 0, .string ⟨#[]⟩, .string ⟨#[]⟩, .bool false, .int .u16 0, .int .u16 0, .slice none 0 0, .slice none 0 0, .int .u8 0, .int .u8 0, .int .u8 0, .slice none 0 0, .int .u8 0] 48)
    simpa using this
  have HL3 : Hid (LI w (.int .i64 kd) EV #[.int .i64 0, .int .i64 0, .int .u16 0, .string ⟨#[]⟩, .string ⟨#[]⟩, .string ⟨#[]⟩, .slice none 0 0, .bool false, .int .u32 0, .string ⟨#[]⟩, .string ⟨#[]⟩, .bool false, .int .u16 0, .int .u16 0, .slice none 0 0, .slice none 0 0, .int .u8 0, .int .u8 0, .int .u8 0, .slice none 0 0, .bool false, .int .i64 0, .int .u16 0, .string ⟨#[]⟩, .string ⟨#[]⟩, .string ⟨#[]⟩, .slice none 0 0, .bool false, .int .u32 0, .string ⟨#[]⟩, .string ⟨#[]⟩, .bool false, .int .u16 0, .int .u16 0, .slice none 0 0, .slice none 0 0, .int .u8 0, .int .u8 0, .int .u8 0, .slice none 0 0, .int .u8 0] EV W3) := by
    have hb2 : Below w.heap.size w W2 := hW2 ▸ ((((Below.refl _ _).alloc (Nat.le_refl _) _).alloc (by simp) _).alloc (by simp; omega) _)
    have ho : ∀ j, j ≠ w.heap.size + 1 + 1 → W3.heap[j]? = W2.heap[j]? := fun j hj => by
      rw [← hW3]
      unfold World.setRow
      show (W2.heap.modify _ _)[j]? = _
      rw [Array.getElem?_modify, if_neg (Ne.symm hj)]
    refine ⟨hW3 ▸ below_setRow hb2 (by omega) _, (ho _ (by omega)).trans ?_, (ho _ (by omega)).trans ?_, hW3 ▸ setRow_heap W2 _ _ _ _ _ hgQ, hE.sz, hE.kd, hE.one⟩
    · rw [← hW2]; exact (Below.heap_alloc _ _ _ (by simp; omega)).trans hgP
    · rw [← hW2]
      have := alloc_new (w.alloc (.cells EV 48)) (.cells #[.int .i64 0, .int .i64 0, .int .u16 0, .string ⟨#[]⟩, .string ⟨#[]⟩, .string ⟨#[]⟩, .slice none 0 0, .bool false, .int .u32 0, .string ⟨#[]⟩, .string ⟨#[]⟩, .bool false, .int .u16 0, .int .u16 0, .slice none 0 0, .slice none 0 0, .int .u8 0, .int .u8 0, .int .u8 0, .slice none 0 0, .bool false, .int .i64 0, .int .u16 0, .string ⟨#[]⟩, .string ⟨#[]⟩, .string ⟨#[]⟩, .slice none 0 0, .bool false, .int .u32 0, .string ⟨#[]⟩, .string ⟨#[]⟩, .bool false, .int .u16 0, .int .u16 0, .slice none 0 0, .slice none 0 0, .int .u8 0, .int .u8 0, .int .u8 0, .slice none 0 0, .int .u8 0] 48)
      exact (Below.heap_alloc _ _ _ (by simp)).trans (by simpa using this)
  have hone := hE.one
  obtain ⟨fs, hu⟩ := hu50
  obtain ⟨fs4, hu4⟩ := hu40
  have hold : (#[.int .i64 0, .int .i64 0, .int .u16 0, .string ⟨#[]⟩, .string ⟨#[]⟩, .string ⟨#[]⟩, .slice none 0 0, .bool false, .int .u32 0, .string ⟨#[]⟩, .string ⟨#[]⟩, .bool false, .int .u16 0, .int .u16 0, .slice none 0 0, .slice none 0 0, .int .u8 0, .int .u8 0, .int .u8 0, .slice none 0 0, .bool false, .int .i64 0, .int .u16 0, .string ⟨#[]⟩, .string ⟨#[]⟩, .string ⟨#[]⟩, .slice none 0 0, .bool false, .int .u32 0, .string ⟨#[]⟩, .string ⟨#[]⟩, .bool false, .int .u16 0, .int .u16 0, .slice none 0 0, .slice none 0 0, .int .u8 0, .int .u8 0, .int .u8 0, .slice none 0 0, .int .u8 0] : Array Value).size = EV.size := by rw [hE.sz]; rfl
  have r3 : W3.rangeAt w.heap.size 1 (Pd k1 c1).toList := fun j v hv => by rw [cell_of_row W3 _ _ _ _ _ HL3.out.p]; exact hE.pdu j v hv
  have hcp := copyx_any W3 k1 c1 D1 (hE.r1.on HL3.out.below)
  go_enter Tryd.func7, Tryd.ntmps7
  go_wp2_with (first | (refine wpList_load_row rfl 48 (.tmp 1) rfl w.heap.size rfl 48 EV (0, 0) _ hgP hu rfl hsE ?_) | (refine wpList_store_row rfl 48 (.tmp 3) (.tmp 5) rfl (w.heap.size + 1 + 1) EV rfl rfl 48 _ hgQ hsE hold hone ?_) | (refine wpList_load_mid rfl 46 (.tmp 6) rfl w.heap.size 1 rfl (Pd k1 c1).toList _ r3 hu4 rfl (size40 k1 c1) ?_) | (go_at_call 20; refine hcp.mono ?_; refine Stop9.mk ?_))
  rintro e W5 c3 rfl hrv3 hsc3 hb5
  clear hgP hgQ hold hsE hcp r3
  have hZs : (#[.int .i64 0, .int .i64 0, .int .u16 0, .string ⟨#[]⟩, .string ⟨#[]⟩, .string ⟨#[]⟩, .slice none 0 0, .bool false, .int .u32 0, .string ⟨#[]⟩, .string ⟨#[]⟩, .bool false, .int .u16 0, .int .u16 0, .slice none 0 0, .slice none 0 0, .int .u8 0, .int .u8 0, .int .u8 0, .slice none 0 0, .bool false, .int .i64 0, .int .u16 0, .string ⟨#[]⟩, .string ⟨#[]⟩, .string ⟨#[]⟩, .slice none 0 0, .bool false, .int .u32 0, .string ⟨#[]⟩, .string ⟨#[]⟩, .bool false, .int .u16 0, .int .u16 0, .slice none 0 0, .slice none 0 0, .int .u8 0, .int .u8 0, .int .u8 0, .slice none 0 0, .int .u8 0] : Array Value).size = 41 := rfl
  generalize (#[.int .i64 0, .int .i64 0, .int .u16 0, .string ⟨#[]⟩, .string ⟨#[]⟩, .string ⟨#[]⟩, .slice none 0 0, .bool false, .int .u32 0, .string ⟨#[]⟩, .string ⟨#[]⟩, .bool false, .int .u16 0, .int .u16 0, .slice none 0 0, .slice none 0 0, .int .u8 0, .int .u8 0, .int .u8 0, .slice none 0 0, .bool false, .int .i64 0, .int .u16 0, .string ⟨#[]⟩, .string ⟨#[]⟩, .string ⟨#[]⟩, .slice none 0 0, .bool false, .int .u32 0, .string ⟨#[]⟩, .string ⟨#[]⟩, .bool false, .int .u16 0, .int .u16 0, .slice none 0 0, .slice none 0 0, .int .u8 0, .int .u8 0, .int .u8 0, .slice none 0 0, .int .u8 0] : Array Value) = Z at HL3 hZs
  have HL5 : Hid (LI w (.int .i64 kd) EV Z EV W5) := HL3.out.on (hb5.mono HL3.out.size)
  have hth := there_row HL5.out.q 1 19 (by rw [hE.sz]; omega)
  have hpo := pd_one k1 c3 hrv3.one
  obtain ⟨Q6, q1, q2, q3, q4, q5, q6, q7⟩ := setCells_row (Pd k1 c3).toList 1 W5 EV HL5.out.q (fun v hv => Array.all_eq_true_iff_forall_mem.1 hpo v (by simpa using hv)) hone (by omega)
  have hq6 := setCells_rowx (Pd k1 c3).toList 1 W5 EV HL5.out.q (by rw [hE.sz]; show 1 + 19 ≤ 41; omega) Q6 q1
  have HQ6 : Hid ((∀ j, j = 20 ∨ j = 40 → Q6[j]? = EV[j]?) ∧ ∀ j v, (Pd k1 c3).toList[j]? = some v → Q6[1 + j]? = some v) := ⟨fun j hj => hq6.1 j (.inr (by show 1 + 19 ≤ j; omega)), hq6.2⟩
  have hvl : W5.there (w.heap.size + 1 + 1) 1 (Pd k1 c3).toList.length := hth
  have hv19 := World.rangeAt_setCells_same W5 (w.heap.size + 1 + 1) 1 (Pd k1 c3).toList hvl 18 (c3 17) rfl
  obtain ⟨W6, hW6⟩ : ∃ W6, W5.setCells (w.heap.size + 1 + 1) 1 (Pd k1 c3).toList = W6 := ⟨_, rfl⟩
  rw [hW6] at q1 q5 q6 q7 hv19
  have HL6 : Hid (LI w (.int .i64 kd) EV Z Q6 W6) := ⟨HL5.out.below.trans (q6 _ (by omega)), (q5 _ (by omega)).trans HL5.out.p, (q5 _ (by omega)).trans HL5.out.r, q1, q2.trans hE.sz, q3.trans hE.kd, q4⟩
  have r6 : W6.rangeAt w.heap.size 21 (Pd k2 c2).toList := fun j v hv => by rw [cell_of_row W6 _ _ _ _ _ HL6.out.p]; exact hE.ans j v hv
  have hcp2 := copyx_any W6 k2 c2 D2 (hE.r2.on HL6.out.below)
  have HV6 : Hid (OX (w.heap.size + 3) W6 c3 D1) := by
    have hs3 := HL3.out.size
    exact (hrv3.keep (W' := W6) (fun b h1 h2 => q5 b (by omega))).low hs3
  have HSC : Hid (∀ i, i ≠ 4 → i ≠ 12 → i ≠ 13 → i ≠ 17 → c3 i = c1 i) := hsc3
  have hth' : W5.there (w.heap.size + 1 + 1) 1 (Pd k1 c3).size := hth
  have hs40 := size40' k1 c3
  generalize Pd k1 c3 = P3 at hth' hs40 hpo hW6 ⊢
  have HV19 : Hid (W6.cell? ⟨w.heap.size + 1 + 1, 19, none⟩ = some (c3 17)) := hv19
  have HR6 : Hid (W6.rangeAt w.heap.size 21 (Pd k2 c2).toList) := r6
  have HCP2 : Hid (Calls Tryd.prog 20 #[.agg (Pd k2 c2)] W6 fun e w' => ∃ c2_1, e = .returned (.agg (Pd k2 c2_1)) ∧ OX W6.heap.size w' c2_1 D2 ∧ (∀ i, i ≠ 4 → i ≠ 12 → i ≠ 13 → i ≠ 17 → c2_1 i = c2 i) ∧ Below W6.heap.size W6 w') := hcp2
  have HE : Hid (EvX w EV kd k1 c1 D1 k2 c2 D2) := hE
  clear q1 q2 q3 q4 q5 q6 q7 hv19 r6 hcp2 hvl hE hone hth hq6 hsc3
  go_wp2_with (first | (refine wpList_store_mid rfl 46 (.tmp 9) (.tmp 8) rfl (w.heap.size + 1 + 1) 1 P3 rfl rfl hth' hs40 hpo ?_) | (refine wpList_load_mid rfl 46 (.tmp 10) rfl w.heap.size 21 rfl (Pd k2 c2).toList _ HR6.out hu4 rfl (size40 k2 c2) ?_) | (go_at_call 20; refine HCP2.out.mono ?_; refine Stop9.mk ?_))
  rintro e W7 ⟨c4, rfl, hrv4, hsc4, hb7⟩
  have hb67 : Below (w.heap.size + 3) W6 W7 := hb7.mono HL6.out.size
  have HL7 : Hid (LI w (.int .i64 kd) EV Z Q6 W7) := HL6.out.on hb67
  have hth7 := there_row HL7.out.q 21 19 (by rw [HL7.out.sz]; omega)
  have hpo4 := pd_one k2 c4 hrv4.one
  obtain ⟨Q8, q1, q2, q3, q4, q5, q6, q7⟩ := setCells_row (Pd k2 c4).toList 21 W7 Q6 HL7.out.q (fun v hv => Array.all_eq_true_iff_forall_mem.1 hpo4 v (by simpa using hv)) HL7.out.one (by omega)
  have hq8 := setCells_rowx (Pd k2 c4).toList 21 W7 Q6 HL7.out.q (by rw [HL7.out.sz]; show 21 + 19 ≤ 41; omega) Q8 q1
  have HQ8 : Hid ((Q8[20]? = EV[20]? ∧ Q8[40]? = EV[40]?) ∧ (∀ j v, (Pd k1 c3).toList[j]? = some v → Q8[1 + j]? = some v) ∧ (∀ j v, (Pd k2 c4).toList[j]? = some v → Q8[21 + j]? = some v) ∧ ∀ i, i ≠ 4 → i ≠ 12 → i ≠ 13 → i ≠ 17 → c3 i = c1 i ∧ c4 i = c2 i) := by
    refine ⟨⟨(hq8.1 20 (.inl (by omega))).trans (HQ6.out.1 20 (.inl rfl)), (hq8.1 40 (.inr (by show 21 + 19 ≤ 40; omega))).trans (HQ6.out.1 40 (.inr rfl))⟩, fun j v hv => ?_, hq8.2, fun i a1 a2 a3 a4 => ⟨HSC.out i a1 a2 a3 a4, hsc4 i a1 a2 a3 a4⟩⟩
    have hj : j < 19 := (List.getElem?_eq_some_iff.1 hv).1
    exact (hq8.1 (1 + j) (.inl (by omega))).trans (HQ6.out.2 j v hv)
  have hv19b : W7.rangeAt (w.heap.size + 1 + 1) 19 [c3 17] := fun j v hv => by
    match j, hv with
    | 0, hv => simp at hv; subst hv; exact (hb67.cell (p := ⟨w.heap.size + 1 + 1, 19, none⟩) (by show w.heap.size + 1 + 1 < _; omega)).trans HV19.out
  have hv19c := World.rangeAt_setCells_apart hv19b (w.heap.size + 1 + 1) 21 (Pd k2 c4).toList (.inr (.inl (by simp))) 0 (c3 17) rfl
  obtain ⟨W8, hW8⟩ : ∃ W8, W7.setCells (w.heap.size + 1 + 1) 21 (Pd k2 c4).toList = W8 := ⟨_, rfl⟩
  rw [hW8] at q1 q5 q6 q7 hv19c
  have HL8 : Hid (LI w (.int .i64 kd) EV Z Q8 W8) := ⟨HL7.out.below.trans (q6 _ (by omega)), (q5 _ (by omega)).trans HL7.out.p, (q5 _ (by omega)).trans HL7.out.r, q1, q2.trans HL7.out.sz, q3.trans HL7.out.k0, q4⟩
  obtain ⟨xs, ho6, hg6, hsh6⟩ := HV6.out.val.1
  obtain ⟨n, hnl⟩ : ∃ n, D1.vl.length = n := ⟨_, rfl⟩
  have hfit := HV6.out.val.2
  have HNL : Hid (D1.vl.length = n ∧ Fits D1.vl.length 32) := ⟨hnl, hfit⟩
  rw [hnl] at ho6 hfit
  obtain ⟨av, pv, hcv⟩ := owns_slice ho6
  have HC3 : Hid (c3 17 = .slice av n pv) := hcv
  have HNC : Hid (NoCap (.slice av D1.vl.length pv)) := by rw [hnl, ← hcv]; exact NoCap.own ho6
  have hs6 := HL6.out.size
  have hkeep : ∀ b, w.heap.size + 3 ≤ b → b < W6.heap.size → W8.heap[b]? = W6.heap[b]? := fun b h1 h2 => (q5 b (by omega)).trans (hb7.block b h2)
  have HG8 : Hid (LX (w.heap.size + 3) W8.heap.size W8 (.slice av n pv) n 78 4 D1.vl 0) := by
    rw [← hcv]
    exact ⟨xs, owns_same ho6 (fun b e => hkeep b (ho6.lt b e).1 (ho6.lt b e).2), hg6.move (fun b h1 h2 h3 => ⟨hkeep b h1 h2, h3⟩), DJ.nil _ _, fun p v b h => absurd h (Nat.not_lt_zero _)⟩
  have HM8 : Hid (MK W8.heap.size W8 (.slice av n pv) D1.vl 0) := fun q _ h => absurd h (Nat.not_lt_zero _)
  have HAV6 : Hid ((∀ b, (Value.slice av n pv).ownBlock = some b → w.heap.size + 3 ≤ b ∧ b < W6.heap.size) ∧ ∀ p ∈ D1.vl, ShV p) := ⟨by rw [← hcv]; exact ho6.lt, hsh6⟩
  have HBO6 : Hid (∃ m0, BR (w.heap.size + 3) m0 W6.heap.size W8 (c3 13) 91 2 D1.ot.length) := by
    obtain ⟨m0, m, M, hb1, hb2⟩ := HV6.out.dj
    obtain ⟨ys, hy1, hy2, hy3⟩ := hb1.keep hkeep
    obtain ⟨zs, hz1, hz2, hz3⟩ := HV6.out.oth.1
    have hub := hz2.ub (fun p hp => shO_s (hz3 p hp))
    have hz1' := owns_same (w' := W8) hz1 (fun b e => hkeep b (hz1.lt b e).1 (hz1.lt b e).2)
    obtain rfl := own_uniq hy1 hz1'
    exact ⟨_, _, hy1, hy2, hub⟩
  have HO8 : Hid ((OE (w.heap.size + 3) W8 (c3 4) D1.cx 4 95 ShC ∧ OE (w.heap.size + 3) W8 (c3 12) D1.rl 3 97 ShR ∧ OE (w.heap.size + 3) W8 (c3 13) D1.ot 2 91 ShO) ∧ OX W6.heap.size W8 c4 D2) :=
    ⟨⟨HV6.out.ctx.1.keep hkeep, HV6.out.role.1.keep hkeep, HV6.out.oth.1.keep hkeep⟩, hrv4.keep (fun b h1 h2 => q5 b (by omega))⟩
  have HK3 : Hid (OK3 w.heap.size W6.heap.size W8.heap.size W8 c3 c4 D1 D2) := by
    have hp6 : PF (fun b => w.heap.size ≤ b ∧ b < W6.heap.size) W6 c3 D1 := PF.of HV6.out (fun b h1 h2 _ => ⟨by omega, h2⟩)
    have hp8 : PF (fun b => W6.heap.size ≤ b ∧ b < W8.heap.size) W8 c4 D2 := PF.of HO8.out.2 (fun b h1 h2 _ => ⟨h1, h2⟩)
    have hk8 := hp6.keep HV6.out hkeep
    exact ⟨⟨hk8.ctx, hk8.role, hk8.oth⟩, hp8, HBO6.out⟩
  have HF8 : Hid ((∀ i, (c3 i).oneCell' = true) ∧ Fits D1.cx.length 48 ∧ Fits D1.rl.length 24 ∧ Fits D1.ot.length 32) := ⟨HV6.out.one, HV6.out.ctx.2, HV6.out.role.2, HV6.out.oth.2⟩
  have HK8 : Hid (w.heap.size + 3 ≤ W6.heap.size ∧ W6.heap.size ≤ W8.heap.size) := ⟨hs6, by have := hb7.size; omega⟩
  clear hs6 hkeep
  have y19 : W8.cell? ⟨w.heap.size + 1 + 1, 19, none⟩ = some (.slice av n pv) := hcv ▸ hv19c
  have hn : n ≤ 4398046510976 := by unfold Fits at hfit; omega
  have hth8 : W7.there (w.heap.size + 1 + 1) 21 (Pd k2 c4).size := hth7
  have hs48 := size40' k2 c4
  generalize Pd k2 c4 = P4 at hth8 hs48 hpo4 hW8 ⊢
  clear q1 q2 q3 q4 q5 q6 q7 hv19b hv19c ho6 hg6 hsh6 HV6 hb7 hb67 hrv4 hrv3 hth7 hq8 hsc4 hcv hnl hth' hs40 hpo hW6 HR6 HCP2 HV19
  go_wp2_with (first | (refine wpList_store_mid rfl 46 (.tmp 13) (.tmp 12) rfl (w.heap.size + 1 + 1) 21 P4 rfl rfl hth8 hs48 hpo4 ?_))
  clear hth8 hs48 hpo4 hW8
  have HY : Hid (W8.cell? ⟨w.heap.size + 1 + 1, 19, none⟩ = some (.slice av n pv)) := y19
  clear y19
  go_loopw [4] (fun x wr => ∃ (j : Nat), x = .int .i64 (j : Int) ∧ j ≤ n ∧ Hid (LI w (.int .i64 kd) EV Z Q8 wr) ∧ Hid (wr.cell? ⟨w.heap.size + 1 + 1, 19, none⟩ = some (.slice av n pv)) ∧ Hid (LX (w.heap.size + 3) W8.heap.size wr (.slice av n pv) n 78 4 D1.vl j) ∧ Hid (MK W8.heap.size wr (.slice av n pv) D1.vl j) ∧ Hid ((OE (w.heap.size + 3) wr (c3 4) D1.cx 4 95 ShC ∧ OE (w.heap.size + 3) wr (c3 12) D1.rl 3 97 ShR ∧ OE (w.heap.size + 3) wr (c3 13) D1.ot 2 91 ShO) ∧ OX W6.heap.size wr c4 D2) ∧ Hid (OK3 w.heap.size W6.heap.size W8.heap.size wr c3 c4 D1 D2) ∧ Hid (W8.heap.size ≤ wr.heap.size)) (fun x _ => n - (intOf x).toNat)
  case atStart => exact ⟨0, rfl, by omega, HL8, HY, HG8, HM8, HO8, HK3, Nat.le_refl _⟩
  case round =>
    clear HL8 HY HG8 HO8 HM8 HK3
    obtain ⟨j, rfl, hj, HL, HY, HG, HMm, HOo, HKo, HSZ⟩ := hrel
    have y19 := HY.out
    by_cases hjn : j < n
    · have hjn2 : ((j : Int) < (n : Int)) := by omega
      have hjx : j < D1.vl.length := by rw [HNL.out.1]; exact hjn
      obtain ⟨g, hav, hglo⟩ : ∃ g, av = some ⟨g, 0, none⟩ ∧ w.heap.size + 3 ≤ g := by
        obtain ⟨xs, ho, -⟩ := HG.out
        obtain ⟨g, cap, hv, hlo, -⟩ := ho.form (by omega)
        have h2 : av = some ⟨g, 0, none⟩ ∧ pv = cap := by simpa using hv
        exact ⟨g, h2.1, hlo⟩
      have hgB : w.heap.size + 3 ≤ g := hglo
      have hg6 : g < W6.heap.size := (HAV6.out.1 g (by rw [hav]; rfl)).2
      obtain ⟨vs, hE1, hEO, hE3⟩ := (hav ▸ HG.out : LX (w.heap.size + 3) W8.heap.size wr (.slice (some ⟨g, 0, none⟩) n pv) n 78 4 D1.vl j).cur hjx
      obtain ⟨x0, y0, z0, bs, he⟩ := HAV6.out.2 D1.vl[j] (List.getElem_mem hjx)
      have hE2 := hEO.rd
      have HE : Hid (∃ h : j < D1.vl.length, D1.vl[j] = ⟨[.int .u8 x0, .bool y0, .bool z0], .by bs⟩) := ⟨hjx, he⟩
      rw [he] at hE1 hE2
      obtain ⟨v3, rfl, hV, hbl, -⟩ := hE2
      have hc3 : wr.cell? ⟨g, j * 4 + 3, none⟩ = some v3 := hE1 3 _ rfl
      have HC3c : Hid (∃ v0, wr.cell? ⟨g, j * 4 + 3, none⟩ = some v0) := ⟨_, hc3⟩
      have hf3 := hE3 (j * 4 + 3)
      have HGH : Hid ((∃ cur fr, wr.heap[g]? = some (.cells cur 78 fr)) ∧ g < W6.heap.size) := by
        obtain ⟨xs, ho, -⟩ := HG.out
        exact ⟨(own_ty ho (by rw [hav]; rfl)).2.2, hg6⟩
      have HAV : Hid (av = some ⟨g, 0, none⟩) := hav
      have HBL : Hid (bs.length ≤ 140737488351232) := hbl
      rw [hav] at y19
      clear hav hE1 hE3 hEO he hglo hg6 hjx
      obtain ⟨ao5, cap5, hv3, _, _⟩ := hV.form
      subst hv3
      have hV' : V wr.drew (.slice ao5 bs.length cap5) bs := hV.same (fun b _ => rfl)
      have hln := lend_any hV' hbl
      have hq19 : w.heap.size + 1 + 1 < wr.heap.size := cell_lt y19
      have hgl : g < wr.heap.size := cell_lt hc3
      go_wp2
      go_region_with (go_at_call 21; refine hln.mono ?_; rintro x W9 ⟨rfl, hown9, hb9d⟩; have hb9 : Below wr.heap.size wr W9 := ⟨hb9d.os, hb9d.tape, hb9d.output, hb9d.size, hb9d.block⟩; have z19 := (hb9.cell (p := ⟨w.heap.size + 1 + 1, 19, none⟩) hq19).trans y19; have zc := (hb9.cell (p := ⟨g, j * 4 + 3, none⟩) hgl).trans hc3; have zf := (hb9.frozen (p := ⟨g, j * 4 + 3, none⟩) hgl).trans hf3; have HU9 : Hid (Own W9 wr.heap.size (.slice (some ⟨wr.heap.size, 0, none⟩) (bs.length + 3) (bs.length + 3)) (bs ++ [160, 161, 162])) := hown9; have HB9 : Hid (Below wr.heap.size wr W9) := hb9)
      all_goals
        have hS9 : wr.heap.size < W9.heap.size := (HU9.out.1.lt _ rfl).2
        have hS6 : W6.heap.size ≤ W8.heap.size := HK8.out.2
        have hS8 : W8.heap.size ≤ wr.heap.size := HSZ.out
        have hS3 : w.heap.size + 3 ≤ W6.heap.size := HK8.out.1
        have hgl6 : g < W6.heap.size := HGH.out.2
        have HG9 : Hid (LX (w.heap.size + 3) W8.heap.size (W9.setCell ⟨g, j * 4 + 3, none⟩ (.slice (some ⟨wr.heap.size, 0, none⟩) bs.length (bs.length + 3))) (.slice av n pv) n 78 4 D1.vl (j + 1)) := by
          obtain ⟨hi2, he2⟩ := HE.out
          have h1 := HG.out
          rw [HAV.out] at h1 ⊢
          refine LX.step (f := 3) h1 hi2 (by rw [he2]; rfl) rfl HB9.out ?_ (fun b e => ?_) HSZ.out (fun p hp vs hv => lenV _ p (HAV6.out.2 p hp) vs hv)
          · rw [he2]
            have hp := own_pre rfl HU9.out
            refine ⟨_, rfl, ⟨own_low hp.1 (by omega), hp.2⟩, HBL.out, fun b e e2 => ?_⟩
            have q1 : wr.heap.size = b := by simpa [Value.ownBlock] using e
            have q2 : g = b := by simpa [Value.ownBlock] using e2
            omega
          · obtain rfl : wr.heap.size = b := by simpa [Value.ownBlock] using e
            exact ⟨Nat.le_refl _, hS9⟩
        have HM9 : Hid (MK W8.heap.size (W9.setCell ⟨g, j * 4 + 3, none⟩ (.slice (some ⟨wr.heap.size, 0, none⟩) bs.length (bs.length + 3))) (.slice av n pv) D1.vl (j + 1)) := by
          have h1 := HMm.out
          rw [HAV.out] at h1 ⊢
          obtain ⟨v0, hv0⟩ := HC3c.out
          exact MK.step h1 HB9.out (by omega) HSZ.out hv0 (fun _ => by obtain ⟨hi2, he2⟩ := HE.out; rw [he2]) hS9 (own_marks rfl HU9.out)
        have HK9 : Hid (OK3 w.heap.size W6.heap.size W8.heap.size (W9.setCell ⟨g, j * 4 + 3, none⟩ (.slice (some ⟨wr.heap.size, 0, none⟩) bs.length (bs.length + 3))) c3 c4 D1 D2) := by
          obtain ⟨⟨k1, k2, k3⟩, k4, m0, k5⟩ := HKo.out
          obtain ⟨⟨o1, o2, o3⟩, o4⟩ := HOo.out
          have hg9 : ∃ cur fr, W9.heap[g]? = some (.cells cur 78 fr) := by
            obtain ⟨cur, fr, h⟩ := HGH.out.1
            exact ⟨cur, fr, (HB9.out.block g (by omega)).trans h⟩
          exact ⟨⟨(k1.on o1 HB9.out).set78 (o1.on HB9.out) (by decide) hg9, (k2.on o2 HB9.out).set78 (o2.on HB9.out) (by decide) hg9, (k3.on o3 HB9.out).set78 (o3.on HB9.out) (by decide) hg9⟩,
            (k4.keep o4 (W' := W9) (fun b _ h2 => HB9.out.block b h2)).keep (o4.keep (fun b _ h2 => HB9.out.block b h2)) (fun b h1 _ => Below.heap_setCell _ _ _ _ (show b ≠ g by omega)), m0, (k5.keep (W' := W9) (fun b _ h2 => HB9.out.block b h2)).set78 (by decide) hg9⟩
        have HO9 : Hid ((OE (w.heap.size + 3) (W9.setCell ⟨g, j * 4 + 3, none⟩ (.slice (some ⟨wr.heap.size, 0, none⟩) bs.length (bs.length + 3))) (c3 4) D1.cx 4 95 ShC ∧ OE (w.heap.size + 3) (W9.setCell ⟨g, j * 4 + 3, none⟩ (.slice (some ⟨wr.heap.size, 0, none⟩) bs.length (bs.length + 3))) (c3 12) D1.rl 3 97 ShR ∧ OE (w.heap.size + 3) (W9.setCell ⟨g, j * 4 + 3, none⟩ (.slice (some ⟨wr.heap.size, 0, none⟩) bs.length (bs.length + 3))) (c3 13) D1.ot 2 91 ShO) ∧ OX W6.heap.size (W9.setCell ⟨g, j * 4 + 3, none⟩ (.slice (some ⟨wr.heap.size, 0, none⟩) bs.length (bs.length + 3))) c4 D2) := by
          obtain ⟨cur, fr, hcur⟩ := HGH.out.1
          have hg9 := (HB9.out.block g (by omega)).trans hcur
          obtain ⟨⟨o1, o2, o3⟩, o4⟩ := HOo.out
          exact ⟨⟨(o1.on HB9.out).set105 (by decide) hg9, (o2.on HB9.out).set105 (by decide) hg9, (o3.on HB9.out).set105 (by decide) hg9⟩, (o4.keep (W' := W9) (fun b _ h2 => HB9.out.block b h2)).keep (fun b h1 _ => Below.heap_setCell _ _ _ _ (show b ≠ g by omega))⟩
        go_wp2
        go_roundw
        case rel => exact ⟨j + 1, by go_num, by omega, HL.out.on ((hb9.mono HL.out.size).setCell (p := ⟨g, j * 4 + 3, none⟩) hgB _), (cell_set_off (by omega)).trans (by rw [HAV.out]; exact z19), HG9.out, HM9.out, HO9.out, HK9.out, by show W8.heap.size ≤ _; rw [show (W9.setCell ⟨g, j * 4 + 3, none⟩ (.slice (some ⟨wr.heap.size, 0, none⟩) bs.length (bs.length + 3))).heap.size = W9.heap.size by simp]; omega⟩
        case measure => simp [intOf]; omega
    · have hjn2 : ¬ ((j : Int) < (n : Int)) := by omega
      have hgQ := HL.out.q
      have hgR := HL.out.r
      have hsQ : (Tryd.prog.info? 48).map (·.size) = some Q8.size := by rw [HL.out.sz]; exact size50
      have h1Q := HL.out.one
      go_wp2_with (first | (refine wpList_load_row rfl 48 (.tmp 3) rfl (w.heap.size + 1 + 1) rfl 48 Q8 (0, 0) _ hgQ hu rfl hsQ ?_) | (refine wpList_store_row rfl 48 (.tmp 2) (.tmp 36) rfl (w.heap.size + 1) Q8 rfl rfl 48 _ hgR hsQ (by rw [hZs, HL.out.sz]) h1Q ?_))
      have hh := setRow_heap wr (w.heap.size + 1) _ Q8 48 _ hgR
      have hl := run_loadVar_row (P := Tryd.prog) _ _ _ 48 _ _ _ hh hu rfl hsQ
      have ho : ∀ b, b ≠ w.heap.size + 1 → (wr.setRow (w.heap.size + 1) Q8).heap[b]? = wr.heap[b]? := fun b hb => by
        unfold World.setRow
        show (wr.heap.modify _ _)[b]? = _
        rw [Array.getElem?_modify, if_neg (Ne.symm hb)]
      have hsr : wr.heap.size ≤ (wr.setRow (w.heap.size + 1) Q8).heap.size := by unfold World.setRow; simp
      have hjn' : j = n := by omega
      subst hjn'
      obtain ⟨⟨k1, k2, k3⟩, k4, m0, k5⟩ := HKo.out
      obtain ⟨⟨o1, o2, o3⟩, o4⟩ := HOo.out
      have hS6 : W6.heap.size ≤ W8.heap.size := HK8.out.2
      have hS8 : W8.heap.size ≤ wr.heap.size := HSZ.out
      have hS3 : w.heap.size + 3 ≤ W6.heap.size := HK8.out.1
      have hzs : (wr.setRow (w.heap.size + 1) Q8).heap.size = wr.heap.size := by unfold World.setRow; simp
      have hk3 : ∀ b, w.heap.size + 3 ≤ b → b < wr.heap.size → (wr.setRow (w.heap.size + 1) Q8).heap[b]? = wr.heap[b]? := fun b h1 _ => ho b (by omega)
      have hLX := HG.out
      rw [← HC3.out] at hLX
      have hMK := HMm.out
      rw [← HC3.out] at hMK
      have hLX2 := hLX.keep (W' := wr.setRow (w.heap.size + 1) Q8) hsr hk3
      have hav3 : ∀ b, (c3 17).ownBlock = some b → w.heap.size + 3 ≤ b ∧ b < W6.heap.size := by rw [HC3.out]; exact HAV6.out.1
      have hOX3 : OX (w.heap.size + 3) (wr.setRow (w.heap.size + 1) Q8) c3 D1 := by
        obtain ⟨xs, q1, q2, q3, q4⟩ := hLX2
        have hN := HNL.out.1
        exact ⟨HF8.out.1, ⟨o1.keep hk3, HF8.out.2.1⟩, ⟨o2.keep hk3, HF8.out.2.2.1⟩, ⟨o3.keep hk3, HF8.out.2.2.2⟩, ⟨⟨xs, by rw [hN]; exact q1, q2, HAV6.out.2⟩, HNL.out.2⟩, _, _, _, k5.keep hk3, ⟨xs, by rw [hN]; exact q1, by rw [hN]; exact q3, by rw [hN]; exact fun p v b hp hv hb => ⟨by have := (q4 p v b hp hv hb).1; omega, (q4 p v b hp hv hb).2⟩⟩⟩
      have hOX4 : OX W6.heap.size (wr.setRow (w.heap.size + 1) Q8) c4 D2 := o4.keep (fun b h1 h2 => hk3 b (by omega) h2)
      have hP4 := k4.keep o4 (W' := wr.setRow (w.heap.size + 1) Q8) (fun b h1 h2 => hk3 b (by omega) h2)
      refine bodyPost_ret (v := .agg Q8) (res_cell (k := 2) Tryd.results7 (by kernel_rfl) hl) rfl ⟨Q8, c3, c4, W6.heap.size, W8.heap.size, rfl, ⟨HL.out.sz, HL.out.k0, HL.out.one, HQ8.out.2.1, HQ8.out.2.2.1, hOX3.rx, hOX4.rx⟩, HQ8.out.1.1, HQ8.out.1.2, HQ8.out.2.2.2, below_setRow HL.out.below (by omega) _, hOX3.low (by omega), hOX4.low (by omega), ⟨?_, ?_, ?_, ?_⟩, ?_, ?_⟩
      · exact (k1.keep (fun b e => hk3 b (o1.lt b e).1 (o1.lt b e).2)).mono fun b hb => ⟨hb.1, by rw [hzs]; omega, .inl hb.2⟩
      · exact (k2.keep (fun b e => hk3 b (o2.lt b e).1 (o2.lt b e).2)).mono fun b hb => ⟨hb.1, by rw [hzs]; omega, .inl hb.2⟩
      · exact (k3.keep (fun b e => hk3 b (o3.lt b e).1 (o3.lt b e).2)).mono fun b hb => ⟨hb.1, by rw [hzs]; omega, .inl hb.2⟩
      · have hN := HNL.out.1
        rw [hN]
        exact RF.ofLX hLX2 hN HAV6.out.2 (fun b e => ⟨by have := (hav3 b e).1; omega, by rw [hzs]; have := (hav3 b e).2; omega, .inl (hav3 b e).2⟩) (fun b h1 h2 => ⟨by omega, h2, .inr h1⟩)
      · exact hP4.mono fun b hb => ⟨by omega, by rw [hzs]; omega, hb⟩
      · have hN := HNL.out.1
        rw [hN]
        exact hMK.keep hsr (fun b e => (hav3 b e).1) (by omega) hk3
end Go.Proofs.YtiieikdbhpflgabDoor
