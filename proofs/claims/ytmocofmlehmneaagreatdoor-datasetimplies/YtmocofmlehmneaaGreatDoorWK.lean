
import Derived.Test.YtmocofmlehmneaaGreatDoorWF
import Derived.Deep.LoopGhost
/-
  DERIVED. Rows of nodes that share nothing: an append that leaves what it was called with as it was; rows written over.
-/
namespace Go.Proofs.YtmocofmlehmneaaGreatDoor.Wk
open Go Go.Proofs Go.RowKit

def nd (t v n : Int) (s : ByteArray) : List Value := [.int .u32 t, .int .i64 v, .int .i64 n, .string s]
theorem nd_one (t v n : Int) (s : ByteArray) : ∀ u ∈ nd t v n s, u.oneCell' = true := by
  intro u hu
  simp [nd] at hu
  rcases hu with rfl | rfl | rfl | rfl <;> rfl

/-- One node appended to nodes of our own: where it lies then, and that all else is as it was. -/
theorem keeps24 {w : World} {ops : Array Oper} {rest : List Oper} {o : Oper} {a : Act} {Q : Exit → Act → World → Prop} (hgd : o.guard = none) (s x : Operand)
    (ho : o.op = .call { callee := .builtin .append, args := #[s, x], argTypes := #[22, 22] }) (base : Nat) (v : Value) (n : Nat) (xs : List Value) (hs : a.eval s = v) (hown : w.ownsRow base 42 4 v n xs)
    (ad : Addr) (news : List Value) (hl : news.length = 4) (hnews : ∀ j u, news[j]? = some u → w.cell? (ad.add j) = some u) (h1 : ∀ u ∈ news, u.oneCell' = true) (hx : a.eval x = .slice (some ad) 1 1) (hsm : n + 1 ≤ 100000000) (hbase : base ≤ w.heap.size)
    (h : ∀ g cap w', w'.ownsRow base 42 4 (.slice (some ⟨g, 0, none⟩) (n + 1) cap) (n + 1) (xs ++ news) → w.grownBy w' v.ownBlock → (v.ownBlock = some g ∨ (w.heap.size ≤ g ∧ ∀ k, k < w.heap.size → w'.heap[k]? = w.heap[k]?)) → wpList Tryz.prog ops Q rest (a.put o.dst (.slice (some ⟨g, 0, none⟩) (n + 1) cap)) w') : wpList Tryz.prog ops Q (o :: rest) a w := by
  obtain ⟨i0, hi, hz0, hz1, hz2⟩ := info_parts info34
  have h63 : n + 1 ≤ maxLen := by unfold maxLen; omega
  refine wpList_plain hgd fun K hK => ?_
  obtain ⟨v', w', hr, ho', hg', -⟩ := run_append_own (P := Tryz.prog) w base 22 o.type 42 i0 _ 4 40 Tryz.underlying22 hi hz0 hz1 hz2 rfl (by decide) v n xs hown ad 1 1 news (by rw [hl]) hnews h1 h63 (by omega) hbase
  have hend : ∀ g cap, v' = .slice (some ⟨g, 0, none⟩) (n + 1) cap → (v.ownBlock = some g ∨ (w.heap.size ≤ g ∧ ∀ k, k < w.heap.size → w'.heap[k]? = w.heap[k]?)) → Oper.wp Tryz.prog o a w K Q := by
    intro g cap hv' hd
    subst hv'
    unfold Oper.wp execOp
    simp only [ho, resolve, invoke, builtin, Sem.run_bind, Sem.run_pure, Result.andThen_ok, List.map_toArray, List.map_cons, List.map_nil, hs, hx, hr]
    exact hK _ _ (h g cap w' ho' hg' hd)
  rcases hown.2 with ⟨rfl, rfl⟩ | ⟨g, cap, cur, rfl, hbg, hgc, hnc, hcm, hcs, htake⟩
  · have hr2 := run_append_nil (P := Tryz.prog) w 22 o.type 42 i0 _ Tryz.underlying22 hi hz0 ad 1 1 news (by rw [hz1, hl]) hnews (by decide) (by decide) (by rw [hz2]; decide)
    rw [hr2] at hr
    injection hr with hv hw
    refine hend w.heap.size _ hv.symm (.inr ⟨Nat.le_refl _, fun k hk => ?_⟩)
    rw [← hw]
    exact heap_old w.drew _ hk
  · by_cases hroom : n + 1 ≤ cap
    · have hr2 := run_append_room (P := Tryz.prog) w 22 o.type 42 i0 Tryz.underlying22 hi g n cap cur hgc ad 1 1 news (by rw [hz1, hl]) hnews h1 hroom (by rw [hz1, hcs, hl]; omega)
      rw [hr2] at hr
      injection hr with hv hw
      exact hend g cap hv.symm (.inl rfl)
    · have hr2 := run_append_grow (P := Tryz.prog) w 22 o.type 42 i0 _ Tryz.underlying22 hi hz0 ⟨g, 0, none⟩ n cap xs (by rw [hz1]; exact hown.1) (hown.cells (g := g) rfl) ad 1 1 news (by rw [hz1, hl]) hnews (by omega) (by simp only [maxLen] at h63; omega) (by rw [hz2]; exact growslice_fits (by omega) (by omega))
      rw [hr2] at hr
      injection hr with hv hw
      refine hend w.heap.size _ hv.symm (.inr ⟨Nat.le_refl _, fun k hk => ?_⟩)
      rw [← hw]
      exact heap_old w.drew _ hk

/-- The marks. -/
def mkA (j t : Nat) : Value := .int .i64 (100000 * (j : Int) + (t : Int))
def mkB (j t : Nat) : Value := .int .i64 (-1000 * (j : Int) - (t : Int) - 1)

/-- Rows of nodes, each in memory of its own; the list of them lies in block G. -/
structure Fam (n : Nat) (G B : Nat) (us : Nat → Value) (ln : Nat → Nat) : Prop where
  n0 : n ≤ 10000000
  form : ∀ i, i < n → ∃ a cap, us i = .slice a (ln i) cap ∧ (0 < ln i → ∃ g, a = some ⟨g, 0, none⟩)
  small : ∀ i, i < n → ln i ≤ 1048576
  apart : ∀ i j, i < n → j < n → i ≠ j → ∀ g, (us i).ownBlock = some g → (us j).ownBlock ≠ some g
  far : ∀ i, i < n → (us i).ownBlock ≠ some G
/-- All but these rows is as it was. -/
structure KR (n : Nat) (us : Nat → Value) (W0 W : World) : Prop where
  os : W.os = W0.os
  tape : W.tape = W0.tape
  output : W.output = W0.output
  size : W0.heap.size ≤ W.heap.size
  block : ∀ k, k < W0.heap.size → (∀ i, i < n → (us i).ownBlock ≠ some k) → W.heap[k]? = W0.heap[k]?
theorem KR.refl (n : Nat) (us : Nat → Value) (W : World) : KR n us W W := ⟨rfl, rfl, rfl, Nat.le_refl _, fun _ _ _ => rfl⟩
theorem KR.step {n : Nat} {us : Nat → Value} {W0 W W' : World} (h : KR n us W0 W) (h2 : KR n us W W') : KR n us W0 W' :=
  ⟨h2.os.trans h.os, h2.tape.trans h.tape, h2.output.trans h.output, Nat.le_trans h.size h2.size, fun k hk hn => (h2.block k (Nat.lt_of_lt_of_le hk h.size) hn).trans (h.block k hk hn)⟩
structure FA (W0 : World) (n G B : Nat) (us : Nat → Value) (ln : Nat → Nat) (c : Nat → List Value) (W : World) : Prop where
  l : ∀ i, i < n → W.cell? ⟨G, i, none⟩ = some (us i)
  own : ∀ i, i < n → W.ownsRow B 42 4 (us i) (ln i) (c i)
  b : KR n us W0 W

/-- A cell of a row is written. -/
theorem FA.set {W0 W : World} {n G B : Nat} {us : Nat → Value} {c : Nat → List Value} {ln : Nat → Nat} (hF : Fam n G B us ln) (h : FA W0 n G B us ln c W) {i g m cap k : Nat} {b : Value} (hi : i < n) (hu : us i = .slice (some ⟨g, 0, none⟩) m cap) (hm : m = ln i) :
    FA W0 n G B us ln (fun j => if j = i then (c i).set k b else c j) (W.setCell ⟨g, k, none⟩ b) := by
  have hgi : (us i).ownBlock = some g := by rw [hu]; rfl
  have hG : G ≠ g := fun e => hF.far i hi (by rw [hgi, e])
  have hsz : (W.setCell ⟨g, k, none⟩ b).heap.size = W.heap.size := by simp
  refine ⟨fun j hj => ?_, fun j hj => ?_, ?_⟩
  · rw [← h.l j hj]
    exact World.cell?_of_block (Below.heap_setCell _ _ _ G hG)
  · by_cases e : j = i
    · subst e
      simp only [if_pos]
      have h1 := h.own j hj
      rw [hu, ← hm] at h1
      have h2 := h1.stored k b
      rw [hu, ← hm]
      exact h2.1
    · simp only [if_neg e]
      exact ownsRow_setCell_other (h.own j hj) (fun he => hF.apart i j hi hj (fun q => e q.symm) g hgi he) _
  · exact h.b.step ⟨rfl, rfl, rfl, by rw [hsz]; exact Nat.le_refl _, fun j hj hn => Below.heap_setCell _ _ _ j (fun e => hn i hi (by rw [hgi, e]))⟩

/-- What is put behind a row. -/
def apn (i k : Nat) : List Value := (List.range k).flatMap (fun t : Nat => nd 0 0 (-1000 * (i : Int) - (t : Int) - 1) ⟨#[]⟩)
theorem apn_next (i k : Nat) : apn i (k + 1) = apn i k ++ nd 0 0 (-1000 * (i : Int) - (k : Int) - 1) ⟨#[]⟩ := by
  unfold apn
  rw [List.range_succ, List.flatMap_append]
  simp
theorem apn_len (i : Nat) : ∀ k, (apn i k).length = k * 4
  | 0 => rfl
  | k + 1 => by rw [apn_next, List.length_append, apn_len i k]; simp [nd]; omega
theorem apn_get (i : Nat) : ∀ k t, t < k → (apn i k)[t * 4 + 2]? = some (mkB i t)
  | 0, t, h => by omega
  | k + 1, t, h => by
    rw [apn_next]
    by_cases e : t < k
    · rw [List.getElem?_append_left (by rw [apn_len]; omega)]
      exact apn_get i k t e
    · obtain rfl : t = k := by omega
      rw [List.getElem?_append_right (by rw [apn_len]; omega), apn_len, show t * 4 + 2 - t * 4 = 2 by omega]
      rfl

/-- Some rows are grown (i), some of what they have become stand in a list (e). -/
structure P3 (W0 W1 : World) (n G B : Nat) (us : Nat → Value) (ln : Nat → Nat) (c : Nat → List Value) (i e : Nat) (vs : Nat → Value) (p : Value) (wx : World) : Prop where
  l : ∀ j, j < n → wx.cell? ⟨G, j, none⟩ = some (us j)
  un : ∀ j, i ≤ j → j < n → wx.ownsRow B 42 4 (us j) (ln j) (c j)
  rd : ∀ j, j < n → ∀ g, (us j).ownBlock = some g → ∀ t, t < ln j → wx.cell? ⟨g, t * 4 + 2, none⟩ = some (mkA j t)
  vg : ∀ j, j < i → ∃ g cap, vs j = .slice (some ⟨g, 0, none⟩) (ln j + 64) cap ∧ ((us j).ownBlock = some g ∨ W1.heap.size ≤ g) ∧ (∃ cur, wx.heap[g]? = some (.cells cur 42)) ∧ ∀ t, t < ln j + 64 → wx.cell? ⟨g, t * 4 + 2, none⟩ = some (if t < ln j then mkA j t else mkB j (t - ln j))
  pw : wx.ownsRow W1.heap.size 22 1 p e ((List.range e).map vs)
  ne : p = .slice none 0 0 ∨ 0 < e
  kr : KR n us W0 wx
  sz : W1.heap.size ≤ wx.heap.size
/-- One row is being grown. -/
structure P4 (Wi : World) (B i : Nat) (u : Value) (ln : Nat) (c : List Value) (k : Nat) (mv : Value) (wx : World) : Prop where
  own : wx.ownsRow B 42 4 mv (ln + k) (c ++ apn i k)
  lies : mv.ownBlock = u.ownBlock ∨ ∃ g, mv.ownBlock = some g ∧ Wi.heap.size ≤ g
  rd : ∀ g, u.ownBlock = some g → ∀ t, t < ln → wx.cell? ⟨g, t * 4 + 2, none⟩ = some (mkA i t)
  ke : KR 1 (fun _ => u) Wi wx
/-- What stays in all rounds. -/
structure PC (W1 : World) (n G : Nat) (us : Nat → Value) (ln : Nat → Nat) (c : Nat → List Value) : Prop where
  len : ∀ j, j < n → (c j).length = ln j * 4
  mark : ∀ j, j < n → ∀ t, t < ln j → (c j)[t * 4 + 2]? = some (mkA j t)
  lt : ∀ j, j < n → ∀ g, (us j).ownBlock = some g → g < W1.heap.size
  gl : 0 < n → G < W1.heap.size

theorem rep_get {c : List Value} {i k t ln : Nat} (hl : c.length = ln * 4) (ht : t < ln + k) : (c ++ apn i k)[t * 4 + 2]? = if t < ln then c[t * 4 + 2]? else some (mkB i (t - ln)) := by
  by_cases h : t < ln
  · rw [if_pos h, List.getElem?_append_left (by omega)]
  · rw [if_neg h, List.getElem?_append_right (by omega), hl, show t * 4 + 2 - ln * 4 = (t - ln) * 4 + 2 by omega]
    exact apn_get i k (t - ln) (by omega)

theorem P4.app {Wi wr X W' : World} {B i ln k : Nat} {u mv : Value} {c : List Value} (h : P4 Wi B i u ln c k mv wr) (hlc : c.length = ln * 4) (hmk : ∀ t, t < ln → c[t * 4 + 2]? = some (mkA i t)) (hul : ∀ g, u.ownBlock = some g → g < Wi.heap.size) (hX : Below wr.heap.size wr X) {g cap : Nat}
    (ho : W'.ownsRow B 42 4 (.slice (some ⟨g, 0, none⟩) (ln + k + 1) cap) (ln + k + 1) (c ++ apn i k ++ nd 0 0 (-1000 * (i : Int) - (k : Int) - 1) ⟨#[]⟩)) (hg : X.grownBy W' mv.ownBlock)
    (hd : mv.ownBlock = some g ∨ (X.heap.size ≤ g ∧ ∀ b, b < X.heap.size → W'.heap[b]? = X.heap[b]?)) : P4 Wi B i u ln c (k + 1) (.slice (some ⟨g, 0, none⟩) (ln + k + 1) cap) W' := by
  have hsz := h.ke.size
  have hXs := hX.size
  rw [List.append_assoc, ← apn_next] at ho
  refine ⟨ho, ?_, ?_, ?_⟩
  · rcases hd with e | ⟨e, _⟩
    · rcases h.lies with e2 | ⟨g', e2, e3⟩
      · exact .inl (by rw [← e2, e]; rfl)
      · exact .inr ⟨g, rfl, by rw [e] at e2; cases e2; exact e3⟩
    · exact .inr ⟨g, rfl, by omega⟩
  · intro gu hu t ht
    by_cases e : gu = g
    · subst e
      rw [ho.cellAt (t * 4 + 2) (by omega), rep_get hlc (by omega), if_pos ht, hmk t ht]
    · have hgl := hul gu hu
      have hbX : X.heap[gu]? = wr.heap[gu]? := hX.block gu (by omega)
      have hb : W'.heap[gu]? = wr.heap[gu]? := by
        rcases hd with e1 | ⟨_, e1⟩
        · refine (hg.block gu (by omega) ?_).trans hbX
          rw [e1]
          intro q
          exact e (Option.some.inj q)
        · exact (e1 gu (by omega)).trans hbX
      rw [← h.rd gu hu t ht]
      exact World.cell?_of_block hb
  · refine ⟨(hg.os.trans hX.os).trans h.ke.os, (hg.tape.trans hX.tape).trans h.ke.tape, (hg.output.trans hX.output).trans h.ke.output, Nat.le_trans (Nat.le_trans hsz hX.size) hg.size, fun b hb hn => ?_⟩
    have hub := hn 0 (by decide)
    have hmb : some b ≠ mv.ownBlock := by
      rcases h.lies with e | ⟨g', e, e3⟩
      · rw [e]; exact fun q => hub q.symm
      · rw [e]; intro q; have := Option.some.inj q; omega
    exact ((hg.block b (by omega) hmb).trans (hX.block b (by omega))).trans (h.ke.block b hb hn)

section
variable {W0 W1 Wi wx wz : World} {n G B i e : Nat} {us vs : Nat → Value} {ln : Nat → Nat} {c : Nat → List Value} {p p' mv : Value}
/-- A row has been grown. -/
theorem P3.grow (hF : Fam n G B us ln) (hC : PC W1 n G us ln c) (h : P3 W0 W1 n G B us ln c i i vs p Wi) (hi : i < n) (h4 : P4 Wi B i (us i) (ln i) (c i) 64 mv wx) : P3 W0 W1 n G B us ln c (i + 1) i (fun j => if j = i then mv else vs j) p wx := by
  have hb : ∀ b, b < Wi.heap.size → (us i).ownBlock ≠ some b → wx.heap[b]? = Wi.heap[b]? := fun b hb hn => h4.ke.block b hb (fun _ _ => hn)
  have hmap : (List.range i).map (fun j => if j = i then mv else vs j) = (List.range i).map vs := by
    refine List.map_congr_left fun j hj => ?_
    rw [List.mem_range] at hj
    rw [if_neg (by omega)]
  refine ⟨fun j hj => ?_, fun j hj1 hj2 => ?_, fun j hj g hg t ht => ?_, fun j hj => ?_, ?_, h.ne, ?_, Nat.le_trans h.sz h4.ke.size⟩
  · rw [← h.l j hj]
    exact World.cell?_of_block (hb G (cell_lt (h.l j hj)) (hF.far i hi))
  · have ho := h.un j (by omega) hj2
    exact own_keep ho (fun g hg => hb g (ho.lt g hg).2 (fun e => hF.apart i j hi hj2 (by omega) g e hg))
  · by_cases e : j = i
    · subst e; exact h4.rd g hg t ht
    · rw [← h.rd j hj g hg t ht]
      exact World.cell?_of_block (hb g (cell_lt (h.rd j hj g hg t ht)) (fun q => hF.apart i j hi hj (fun z => e z.symm) g q hg))
  · by_cases e : j = i
    · subst e
      simp only [if_pos]
      obtain ⟨g, cap, hm, -, -⟩ := h4.own.form (by omega)
      refine ⟨g, cap, hm, ?_, ?_, fun t ht => ?_⟩
      · rcases h4.lies with q | ⟨g', q, q2⟩
        · exact .inl (by rw [← q, hm]; rfl)
        · rw [hm] at q
          cases q
          exact .inr (Nat.le_trans h.sz q2)
      · rcases h4.own.2 with ⟨-, q⟩ | ⟨g1, c1, cur, hv, -, hh, -⟩
        · omega
        · rw [hm] at hv
          cases hv
          exact ⟨cur, hh⟩
      · have ho := h4.own
        rw [hm] at ho
        rw [ho.cellAt (t * 4 + 2) (by omega), rep_get (hC.len j hi) ht]
        by_cases ht2 : t < ln j
        · rw [if_pos ht2, if_pos ht2, hC.mark j hi t ht2]
        · rw [if_neg ht2, if_neg ht2]
    · simp only [if_neg e]
      obtain ⟨g, cap, h1, h2, ⟨cur, hcur⟩, h3⟩ := h.vg j (by omega)
      have hbg : wx.heap[g]? = Wi.heap[g]? := hb g (cell_lt (h3 0 (by omega))) (fun q => by
        rcases h2 with h2 | h2
        · exact hF.apart i j hi (by omega) (fun z => e z.symm) g q h2
        · have := hC.lt i hi g q; omega)
      refine ⟨g, cap, h1, h2, ⟨cur, hbg.trans hcur⟩, fun t ht => ?_⟩
      rw [← h3 t ht]
      exact World.cell?_of_block hbg
  · rw [hmap]
    exact own_keep h.pw (fun g hg => hb g (h.pw.lt g hg).2 (fun q => by have := hC.lt i hi g q; have := (h.pw.lt g hg).1; omega))
  · exact h.kr.step ⟨h4.ke.os, h4.ke.tape, h4.ke.output, h4.ke.size, fun k hk hn => hb k hk (hn i hi)⟩

/-- What it has become is put into the list. -/
theorem P3.push (h01 : W0.heap.size ≤ W1.heap.size) (hC : PC W1 n G us ln c) (h : P3 W0 W1 n G B us ln c i e vs p wx) (hi0 : 0 < n) {X : World} (hX : Below wx.heap.size wx X) (hg : X.grownBy wz p.ownBlock) (hp : wz.ownsRow W1.heap.size 22 1 p' (e + 1) ((List.range e).map vs ++ [vs e])) : P3 W0 W1 n G B us ln c i (e + 1) vs p' wz := by
  have hb : ∀ b, b < wx.heap.size → p.ownBlock ≠ some b → wz.heap[b]? = wx.heap[b]? := fun b hb hn => (hg.block b (Nat.lt_of_lt_of_le hb hX.size) (fun q => hn q.symm)).trans (hX.block b hb)
  have hpl : ∀ b, b < W1.heap.size → p.ownBlock ≠ some b := fun b hb q => by have := (h.pw.lt b q).1; omega
  have hs1 := h.sz
  refine ⟨fun j hj => ?_, fun j hj1 hj2 => ?_, fun j hj g hg t ht => ?_, fun j hj => ?_, ?_, .inr (by omega), ?_, Nat.le_trans h.sz (Nat.le_trans hX.size hg.size)⟩
  · rw [← h.l j hj]
    exact World.cell?_of_block (hb G (cell_lt (h.l j hj)) (hpl G (hC.gl hi0)))
  · have ho := h.un j hj1 hj2
    exact own_keep ho (fun g hg => hb g (ho.lt g hg).2 (hpl g (hC.lt j hj2 g hg)))
  · rw [← h.rd j hj g hg t ht]
    exact World.cell?_of_block (hb g (cell_lt (h.rd j hj g hg t ht)) (hpl g (hC.lt j hj g hg)))
  · obtain ⟨g, cap, h1, h2, ⟨cur, hcur⟩, h3⟩ := h.vg j hj
    have hbg : wz.heap[g]? = wx.heap[g]? := hb g (cell_lt (h3 0 (by omega))) (fun q => by
      rcases h.pw.2 with ⟨hv, -⟩ | ⟨g1, c1, cur1, hv, -, hh, -⟩
      · rw [hv] at q; cases q
      · rw [hv] at q
        cases q
        rw [hcur] at hh
        cases hh)
    refine ⟨g, cap, h1, h2, ⟨cur, hbg.trans hcur⟩, fun t ht => ?_⟩
    rw [← h3 t ht]
    exact World.cell?_of_block hbg
  · rw [List.range_succ, List.map_append]
    exact hp
  · exact ⟨(hg.os.trans hX.os).trans h.kr.os, (hg.tape.trans hX.tape).trans h.kr.tape, (hg.output.trans hX.output).trans h.kr.output, Nat.le_trans h.kr.size (Nat.le_trans hX.size hg.size), fun k hk hn => (hb k (by omega) (hpl k (by omega))).trans (h.kr.block k hk hn)⟩
end
end Go.Proofs.YtmocofmlehmneaaGreatDoor.Wk
