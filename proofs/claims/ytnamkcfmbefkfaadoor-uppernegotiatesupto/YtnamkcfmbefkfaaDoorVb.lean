import Derived.Test.YtnamkcfmbefkfaaDoorVa
import Derived.Deep.LoopGhost
import Derived.Deep.AppendLies
namespace Go.Proofs.YtnamkcfmbefkfaaDoor.Fr
open Go Go.Proofs Go.RowKit
theorem own_keep {w w' : World} {base : Nat} {e : TypeId} {size : Nat} {v : Value} {n : Nat} {xs : List Value} (h : w.ownsRow base e size v n xs) (hk : ∀ g, v.ownBlock = some g → w'.heap[g]? = w.heap[g]?) : w'.ownsRow base e size v n xs := owns_same h hk
def Stop (p : Prop) : Prop := p
theorem Stop.mk {p : Prop} (h : Stop p) : p := h
theorem Stop.out {p : Prop} (h : p) : Stop p := h
theorem info5 : (Tryd.prog.info? 5).map (fun i => (i.zero, i.size, i.bytes)) = some (some (.int .u8 0), 1, 1) := by kernel_rfl
def u8s (bs : List Nat) : List Value := bs.map fun (b : Nat) => Value.int .u8 (b : Int)
theorem u8s_get (bs : List Nat) (k : Nat) (hk : k < bs.length) : (u8s bs)[k]? = some (.int .u8 (bs.getD k 0 : Nat)) := by
  simp [u8s, List.getElem?_eq_getElem hk]
theorem u8s_append (a b : List Nat) : u8s (a ++ b) = u8s a ++ u8s b := by simp [u8s]
theorem heap_alloc_old (w : World) (o : Obj) {k : Nat} (h : k < w.heap.size) : (w.alloc o).heap[k]? = w.heap[k]? := Below.heap_alloc w o _ h
theorem heap_alloc_new (w : World) (o : Obj) : (w.alloc o).heap[w.heap.size]? = some o := alloc_new w o
theorem wpList_append_keeps {w : World} {ops : Array Oper} {rest : List Oper} {o : Oper} {a : Act} {Q : Exit → Act → World → Prop} (hgd : o.guard = none) (s x : Operand)
    (ho : o.op = .call { callee := .builtin .append, args := #[s, x], argTypes := #[55, 55] }) (base : Nat) (v : Value) (n : Nat) (xs : List Value) (hs : a.eval s = v) (hown : w.ownsRow base 5 1 v n xs)
    (ad : Addr) (b : Value) (hb1 : b.oneCell' = true) (hx : a.eval x = .slice (some ad) 1 1) (hnews : w.cell? ad = some b) (h63 : n + 1 ≤ maxLen) (hbytes : n + 1 ≤ 140737488355328) (hbase : base ≤ w.heap.size)
    (h : ∀ g cap w', w'.ownsRow base 5 1 (.slice (some ⟨g, 0, none⟩) (n + 1) cap) (n + 1) (xs ++ [b]) → w.grownBy w' v.ownBlock → (v.ownBlock = some g ∨ (w.heap.size ≤ g ∧ ∀ k, k < w.heap.size → w'.heap[k]? = w.heap[k]?)) → wpList Tryd.prog ops Q rest (a.put o.dst (.slice (some ⟨g, 0, none⟩) (n + 1) cap)) w') : wpList Tryd.prog ops Q (o :: rest) a w := by
  obtain ⟨i0, hi, hz0, hz1, hz2⟩ := info_parts info5
  have hn1 : ∀ (j : Nat) (u : Value), [b][j]? = some u → w.cell? (ad.add j) = some u := by
    intro j u hj
    match j, hj with
    | 0, hj => simp at hj; subst hj; simpa [Addr.add] using hnews
  have h1 : ∀ u ∈ [b], u.oneCell' = true := by intro u hu; simp at hu; subst hu; exact hb1
  refine wpList_plain hgd fun K hK => ?_
  obtain ⟨v', w', hr, ho', hg', -⟩ := run_append_own (P := Tryd.prog) w base 55 o.type 5 i0 (.int .u8 0) 1 1 Tryd.underlying55 hi hz0 hz1 hz2 rfl (by decide) v n xs hown ad 1 1 [b] rfl hn1 h1 h63 (by omega) hbase
  have hend : ∀ g cap, v' = .slice (some ⟨g, 0, none⟩) (n + 1) cap → (v.ownBlock = some g ∨ (w.heap.size ≤ g ∧ ∀ k, k < w.heap.size → w'.heap[k]? = w.heap[k]?)) → Oper.wp Tryd.prog o a w K Q := by
    intro g cap hv' hd
    subst hv'
    unfold Oper.wp execOp
    simp only [ho, resolve, invoke, builtin, Sem.run_bind, Sem.run_pure, Result.andThen_ok, List.map_toArray, List.map_cons, List.map_nil, hs, hx, hr]
    exact hK _ _ (h g cap w' ho' hg' hd)
  rcases hown.2 with ⟨rfl, rfl⟩ | ⟨g, cap, cur, rfl, hbg, hgc, hnc, hcm, hcs, htake⟩
  · have hr2 := run_append_nil (P := Tryd.prog) w 55 o.type 5 i0 (.int .u8 0) Tryd.underlying55 hi hz0 ad 1 1 [b] (by rw [hz1]; rfl) hn1 (by decide) (by decide) (by rw [hz2]; decide)
    rw [hr2] at hr
    injection hr with hv hw
    refine hend w.heap.size _ hv.symm (.inr ⟨Nat.le_refl _, fun k hk => ?_⟩)
    rw [← hw]
    exact heap_alloc_old w.drew _ hk
  · by_cases hroom : n + 1 ≤ cap
    · have hr2 := run_append_room (P := Tryd.prog) w 55 o.type 5 i0 Tryd.underlying55 hi g n cap cur hgc ad 1 1 [b] (by rw [hz1]; rfl) hn1 h1 hroom (by rw [hz1, hcs]; simp; omega)
      rw [hr2] at hr
      injection hr with hv hw
      exact hend g cap hv.symm (.inl rfl)
    · have hr2 := run_append_grow (P := Tryd.prog) w 55 o.type 5 i0 (.int .u8 0) Tryd.underlying55 hi hz0 ⟨g, 0, none⟩ n cap xs (by rw [hz1]; exact hown.1) (hown.cells (g := g) rfl) ad 1 1 [b] (by rw [hz1]; rfl) hn1 (by omega) (by simp only [maxLen] at h63; omega) (by rw [hz2]; exact growslice_fits (by omega) (by omega))
      rw [hr2] at hr
      injection hr with hv hw
      refine hend w.heap.size _ hv.symm (.inr ⟨Nat.le_refl _, fun k hk => ?_⟩)
      rw [← hw]
      exact heap_alloc_old w.drew _ hk
structure Fam (n : Nat) (G B : Nat) (us : Nat → Value) (ln : Nat → Nat) : Prop where
  n0 : n ≤ 4398046511104
  form : ∀ i, i < n → ∃ a cap, us i = .slice a (ln i) cap ∧ (0 < ln i → ∃ g, a = some ⟨g, 0, none⟩)
  small : ∀ i, i < n → ln i ≤ 4000000
  apart : ∀ i j, i < n → j < n → i ≠ j → ∀ g, (us i).ownBlock = some g → (us j).ownBlock ≠ some g
  far : ∀ i, i < n → (us i).ownBlock ≠ some G
structure KR (n : Nat) (us : Nat → Value) (W0 W : World) : Prop where
  os : W.os = W0.os
  tape : W.tape = W0.tape
  output : W.output = W0.output
  size : W0.heap.size ≤ W.heap.size
  block : ∀ k, k < W0.heap.size → (∀ i, i < n → (us i).ownBlock ≠ some k) → W.heap[k]? = W0.heap[k]?
theorem KR.refl (n : Nat) (us : Nat → Value) (W : World) : KR n us W W := ⟨rfl, rfl, rfl, Nat.le_refl _, fun _ _ _ => rfl⟩
theorem KR.step {n : Nat} {us : Nat → Value} {W0 W W' : World} (h : KR n us W0 W) (h2 : KR n us W W') : KR n us W0 W' :=
  ⟨h2.os.trans h.os, h2.tape.trans h.tape, h2.output.trans h.output, Nat.le_trans h.size h2.size, fun k hk hn => (h2.block k (Nat.lt_of_lt_of_le hk h.size) hn).trans (h.block k hk hn)⟩
structure FA (W0 : World) (n G B : Nat) (us : Nat → Value) (c : Nat → List Nat) (W : World) : Prop where
  l : ∀ i, i < n → W.cell? ⟨G, i, none⟩ = some (us i)
  own : ∀ i, i < n → W.ownsRow B 5 1 (us i) (c i).length (u8s (c i))
  b : KR n us W0 W
theorem u8s_set (l : List Nat) (k b : Nat) : (u8s l).set k (.int .u8 (b : Int)) = u8s (l.set k b) := by
  unfold u8s
  rw [List.map_set]
theorem FA.set {W0 W : World} {n G B : Nat} {us : Nat → Value} {c : Nat → List Nat} {ln : Nat → Nat} (hF : Fam n G B us ln) (h : FA W0 n G B us c W) {i g m cap k b : Nat} (hi : i < n) (hu : us i = .slice (some ⟨g, 0, none⟩) m cap) (hm : m = (c i).length) :
    FA W0 n G B us (fun j => if j = i then (c i).set k b else c j) (W.setCell ⟨g, k, none⟩ (.int .u8 (b : Int))) := by
  have hgi : (us i).ownBlock = some g := by rw [hu]; rfl
  have hG : G ≠ g := fun e => hF.far i hi (by rw [hgi, e])
  have hsz : (W.setCell ⟨g, k, none⟩ (.int .u8 (b : Int))).heap.size = W.heap.size := by simp
  refine ⟨fun j hj => ?_, fun j hj => ?_, ?_⟩
  · rw [← h.l j hj]
    exact World.cell?_of_block (Below.heap_setCell _ _ _ G hG)
  · by_cases e : j = i
    · subst e
      simp only [if_pos]
      have h1 := h.own j hj
      rw [hu, ← hm] at h1
      have h2 := h1.stored k (.int .u8 (b : Int))
      rw [u8s_set] at h2
      rw [hu, List.length_set, ← hm]
      exact h2.1
    · simp only [if_neg e]
      exact ownsRow_setCell_other (h.own j hj) (fun he => hF.apart i j hi hj (fun q => e q.symm) g hgi he) _
  · exact h.b.step ⟨rfl, rfl, rfl, by rw [hsz]; exact Nat.le_refl _, fun j hj hn => Below.heap_setCell _ _ _ j (fun e => hn i hi (by rw [hgi, e]))⟩
end Go.Proofs.YtnamkcfmbefkfaaDoor.Fr
namespace Go.Proofs.YtnamkcfmbefkfaaDoor.Fr
open Go Go.Proofs Go.RowKit
theorem info27 : (Tryd.prog.info? 55).map (fun i => (i.zero, i.size, i.bytes)) = some (some (.slice none 0 0), 1, 24) := by kernel_rfl
structure P3 (W0 W1 : World) (n G B : Nat) (us : Nat → Value) (ln : Nat → Nat) (c : Nat → List Nat) (i e : Nat) (vs : Nat → Value) (p : Value) (wx : World) : Prop where
  l : ∀ j, j < n → wx.cell? ⟨G, j, none⟩ = some (us j)
  un : ∀ j, i ≤ j → j < n → wx.ownsRow B 5 1 (us j) (ln j) (u8s (c j))
  rd : ∀ j, j < n → ∀ g, (us j).ownBlock = some g → ∀ t, t < ln j → wx.cell? ⟨g, t, none⟩ = some (.int .u8 ((j % 100 : Nat) : Int))
  vg : ∀ j, j < i → ∃ g cap, vs j = .slice (some ⟨g, 0, none⟩) (ln j + 64) cap ∧ ((us j).ownBlock = some g ∨ W1.heap.size ≤ g) ∧ ∀ t, t < ln j + 64 → wx.cell? ⟨g, t, none⟩ = some (.int .u8 (((if t < ln j then j % 100 else 128 + j % 100) : Nat) : Int))
  pw : wx.ownsRow W1.heap.size 55 1 p e ((List.range e).map vs)
  ne : p = .slice none 0 0 ∨ 0 < e
  kr : KR n us W0 wx
  sz : W1.heap.size ≤ wx.heap.size
structure P4 (Wi : World) (B i : Nat) (u : Value) (ln : Nat) (c : List Nat) (k : Nat) (mv : Value) (wx : World) : Prop where
  own : wx.ownsRow B 5 1 mv (ln + k) (u8s (c ++ List.replicate k (128 + i % 100)))
  lies : mv.ownBlock = u.ownBlock ∨ ∃ g, mv.ownBlock = some g ∧ Wi.heap.size ≤ g
  rd : ∀ g, u.ownBlock = some g → ∀ t, t < ln → wx.cell? ⟨g, t, none⟩ = some (.int .u8 ((i % 100 : Nat) : Int))
  ke : KR 1 (fun _ => u) Wi wx
structure PC (W1 : World) (n G : Nat) (us : Nat → Value) (ln : Nat → Nat) (c : Nat → List Nat) : Prop where
  len : ∀ j, j < n → (c j).length = ln j
  mark : ∀ j, j < n → ∀ t, t < ln j → (c j)[t]? = some (j % 100)
  lt : ∀ j, j < n → ∀ g, (us j).ownBlock = some g → g < W1.heap.size
  gl : 0 < n → G < W1.heap.size
theorem rep_get {c : List Nat} {k b t ln : Nat} (hl : c.length = ln) (ht : t < ln + k) : (u8s (c ++ List.replicate k b))[t]? = some (.int .u8 (((if t < ln then c.getD t 0 else b) : Nat) : Int)) := by
  rw [u8s_get _ t (by rw [List.length_append, List.length_replicate]; omega)]
  congr 2
  by_cases h : t < ln
  · rw [if_pos h, List.getD_eq_getElem?_getD, List.getElem?_append_left (by omega), List.getD_eq_getElem?_getD]
  · rw [if_neg h, List.getD_eq_getElem?_getD, List.getElem?_append_right (by omega), List.getElem?_replicate, if_pos (by omega)]
    rfl
theorem P4.app {Wi wr X W' : World} {B i ln k : Nat} {u mv : Value} {c : List Nat} (h : P4 Wi B i u ln c k mv wr) (hlc : c.length = ln) (hmk : ∀ t, t < ln → c[t]? = some (i % 100)) (hul : ∀ g, u.ownBlock = some g → g < Wi.heap.size) (hX : Below wr.heap.size wr X) {g cap : Nat}
    (ho : W'.ownsRow B 5 1 (.slice (some ⟨g, 0, none⟩) (ln + k + 1) cap) (ln + k + 1) (u8s (c ++ List.replicate k (128 + i % 100)) ++ [.int .u8 (((128 + i % 100 : Nat)) : Int)])) (hg : X.grownBy W' mv.ownBlock)
    (hd : mv.ownBlock = some g ∨ (X.heap.size ≤ g ∧ ∀ b, b < X.heap.size → W'.heap[b]? = X.heap[b]?)) : P4 Wi B i u ln c (k + 1) (.slice (some ⟨g, 0, none⟩) (ln + k + 1) cap) W' := by
  have hsz := h.ke.size
  have hXs := hX.size
  have hlist : u8s (c ++ List.replicate k (128 + i % 100)) ++ [.int .u8 (((128 + i % 100 : Nat)) : Int)] = u8s (c ++ List.replicate (k + 1) (128 + i % 100)) := by
    rw [List.replicate_succ', ← List.append_assoc, u8s_append (c ++ _)]
    rfl
  rw [hlist] at ho
  refine ⟨ho, ?_, ?_, ?_⟩
  · rcases hd with e | ⟨e, _⟩
    · rcases h.lies with e2 | ⟨g', e2, e3⟩
      · exact .inl (by rw [← e2, e]; rfl)
      · exact .inr ⟨g, rfl, by rw [e] at e2; cases e2; exact e3⟩
    · exact .inr ⟨g, rfl, by omega⟩
  · intro gu hu t ht
    by_cases e : gu = g
    · subst e
      rw [ho.cellAt t (by omega), rep_get hlc (by omega), if_pos ht, List.getD_eq_getElem?_getD, hmk t ht]
      rfl
    · have hgl := hul gu hu
      have hbX : X.heap[gu]? = wr.heap[gu]? := hX.block gu (by omega)
      have hb : W'.heap[gu]? = wr.heap[gu]? := by
        rcases hd with e1 | ⟨_, e1⟩
        · refine (hg.block gu (by omega) ?_).trans hbX
          rw [e1]
          intro q
          exact e (Option.some.inj q)
        · exact (e1 gu (by omega)).trans hbX
      rw [← h.rd gu hu t ht]
      exact World.cell?_of_block hb
  · refine ⟨(hg.os.trans hX.os).trans h.ke.os, (hg.tape.trans hX.tape).trans h.ke.tape, (hg.output.trans hX.output).trans h.ke.output, Nat.le_trans (Nat.le_trans hsz hX.size) hg.size, fun b hb hn => ?_⟩
    have hub := hn 0 (by decide)
    have hmb : some b ≠ mv.ownBlock := by
      rcases h.lies with e | ⟨g', e, e3⟩
      · rw [e]; exact fun q => hub q.symm
      · rw [e]; intro q; have := Option.some.inj q; omega
    exact ((hg.block b (by omega) hmb).trans (hX.block b (by omega))).trans (h.ke.block b hb hn)
section
variable {W0 W1 Wi wx wz : World} {n G B i e : Nat} {us vs : Nat → Value} {ln : Nat → Nat} {c : Nat → List Nat} {p p' mv : Value}
theorem P3.grow (hF : Fam n G B us ln) (hC : PC W1 n G us ln c) (h : P3 W0 W1 n G B us ln c i i vs p Wi) (hi : i < n) (h4 : P4 Wi B i (us i) (ln i) (c i) 64 mv wx) : P3 W0 W1 n G B us ln c (i + 1) i (fun j => if j = i then mv else vs j) p wx := by
  have hb : ∀ b, b < Wi.heap.size → (us i).ownBlock ≠ some b → wx.heap[b]? = Wi.heap[b]? := fun b hb hn => h4.ke.block b hb (fun _ _ => hn)
  have hmap : (List.range i).map (fun j => if j = i then mv else vs j) = (List.range i).map vs := by
    refine List.map_congr_left fun j hj => ?_
    rw [List.mem_range] at hj
    rw [if_neg (by omega)]
  refine ⟨fun j hj => ?_, fun j hj1 hj2 => ?_, fun j hj g hg t ht => ?_, fun j hj => ?_, ?_, h.ne, ?_, Nat.le_trans h.sz h4.ke.size⟩
  · rw [← h.l j hj]
    exact World.cell?_of_block (hb G (cell_lt (h.l j hj)) (hF.far i hi))
  · have ho := h.un j (by omega) hj2
    exact own_keep ho (fun g hg => hb g (ho.lt g hg).2 (fun e => hF.apart i j hi hj2 (by omega) g e hg))
  · by_cases e : j = i
    · subst e; exact h4.rd g hg t ht
    · rw [← h.rd j hj g hg t ht]
      exact World.cell?_of_block (hb g (cell_lt (h.rd j hj g hg t ht)) (fun q => hF.apart i j hi hj (fun z => e z.symm) g q hg))
  · by_cases e : j = i
    · subst e
      simp only [if_pos]
      obtain ⟨g, cap, hm, -, -⟩ := h4.own.form (by omega)
      refine ⟨g, cap, hm, ?_, fun t ht => ?_⟩
      · rcases h4.lies with q | ⟨g', q, q2⟩
        · exact .inl (by rw [← q, hm]; rfl)
        · rw [hm] at q
          cases q
          exact .inr (Nat.le_trans h.sz q2)
      · have ho := h4.own
        rw [hm] at ho
        rw [ho.cellAt t (by omega), rep_get (hC.len j hi) ht]
        by_cases ht2 : t < ln j
        · rw [if_pos ht2, if_pos ht2, List.getD_eq_getElem?_getD, hC.mark j hi t ht2]
          rfl
        · rw [if_neg ht2, if_neg ht2]
    · simp only [if_neg e]
      obtain ⟨g, cap, h1, h2, h3⟩ := h.vg j (by omega)
      refine ⟨g, cap, h1, h2, fun t ht => ?_⟩
      rw [← h3 t ht]
      refine World.cell?_of_block (hb g (cell_lt (h3 0 (by omega))) (fun q => ?_))
      rcases h2 with h2 | h2
      · exact hF.apart i j hi (by omega) (fun z => e z.symm) g q h2
      · have := hC.lt i hi g q; omega
  · rw [hmap]
    exact own_keep h.pw (fun g hg => hb g (h.pw.lt g hg).2 (fun q => by have := hC.lt i hi g q; have := (h.pw.lt g hg).1; omega))
  · exact h.kr.step ⟨h4.ke.os, h4.ke.tape, h4.ke.output, h4.ke.size, fun k hk hn => hb k hk (hn i hi)⟩
theorem P3.push (h01 : W0.heap.size ≤ W1.heap.size) (hC : PC W1 n G us ln c) (h : P3 W0 W1 n G B us ln c i e vs p wx) (he : e < i) {X : World} (hX : Below wx.heap.size wx X) (hg : X.grownBy wz p.ownBlock) (hp : wz.ownsRow W1.heap.size 55 1 p' (e + 1) ((List.range e).map vs ++ [vs e])) : P3 W0 W1 n G B us ln c i (e + 1) vs p' wz := by
  have hb : ∀ b, b < wx.heap.size → p.ownBlock ≠ some b → wz.heap[b]? = wx.heap[b]? := fun b hb hn => (hg.block b (Nat.lt_of_lt_of_le hb hX.size) (fun q => hn q.symm)).trans (hX.block b hb)
  have hpl : ∀ b, b < W1.heap.size → p.ownBlock ≠ some b := fun b hb q => by have := (h.pw.lt b q).1; omega
  have hs1 := h.sz
  refine ⟨fun j hj => ?_, fun j hj1 hj2 => ?_, fun j hj g hg t ht => ?_, fun j hj => ?_, ?_, .inr (by omega), ?_, Nat.le_trans h.sz (Nat.le_trans hX.size hg.size)⟩
  · rw [← h.l j hj]
    exact World.cell?_of_block (hb G (cell_lt (h.l j hj)) (hpl G (hC.gl (by omega))))
  · have ho := h.un j hj1 hj2
    exact own_keep ho (fun g hg => hb g (ho.lt g hg).2 (hpl g (hC.lt j hj2 g hg)))
  · rw [← h.rd j hj g hg t ht]
    exact World.cell?_of_block (hb g (cell_lt (h.rd j hj g hg t ht)) (hpl g (hC.lt j hj g hg)))
  · obtain ⟨g, cap, h1, h2, h3⟩ := h.vg j hj
    refine ⟨g, cap, h1, h2, fun t ht => ?_⟩
    rw [← h3 t ht]
    refine World.cell?_of_block (hb g (cell_lt (h3 0 (by omega))) (fun q => ?_))
    rcases h.ne with q1 | q1
    · rw [q1] at q; cases q
    · obtain ⟨g0, c0, e1, -, -⟩ := h.pw.form q1
      have hpw := h.pw
      rw [e1] at q hpw
      cases q
      have h4 := hpw.cellAt 0 (by omega)
      obtain ⟨g1, c1, e2, -, -⟩ := h.vg 0 (by omega)
      rw [h3 0 (by omega), List.getElem?_map, List.getElem?_range q1] at h4
      simp only [Option.map_some] at h4
      rw [e2] at h4
      cases h4
  · rw [List.range_succ, List.map_append]
    exact hp
  · exact ⟨(hg.os.trans hX.os).trans h.kr.os, (hg.tape.trans hX.tape).trans h.kr.tape, (hg.output.trans hX.output).trans h.kr.output, Nat.le_trans h.kr.size (Nat.le_trans hX.size hg.size), fun k hk hn => (hb k (by omega) (hpl k (by omega))).trans (h.kr.block k hk hn)⟩
end
end Go.Proofs.YtnamkcfmbefkfaaDoor.Fr
namespace Go.Proofs.YtnamkcfmbefkfaaDoor.Fr
open Go Go.Proofs Go.RowKit
def L1 (W0 : World) (n G B : Nat) (us : Nat → Value) (ln : Nat → Nat) (g : Nat) (s3 : Value) (wx : World) : Prop :=
  ∃ (i : Nat) (c : Nat → List Nat), s3 = .int .i64 (i : Int) ∧ g + i = n ∧ FA W0 n G B us c wx ∧ (∀ j, j < n → (c j).length = ln j) ∧ (∀ j, j < i → ∀ t, t < ln j → (c j)[t]? = some (j % 100))
def L2 (W0 : World) (n G B : Nat) (us : Nat → Value) (ln : Nat → Nat) (i g : Nat) (s4 : Value) (wx : World) : Prop :=
  ∃ (k : Nat) (c : Nat → List Nat), s4 = .int .i64 (k : Int) ∧ g + k = ln i ∧ FA W0 n G B us c wx ∧ (∀ j, j < n → (c j).length = ln j) ∧ (∀ j, j < i → ∀ t, t < ln j → (c j)[t]? = some (j % 100)) ∧ ∀ t, t < k → (c i)[t]? = some (i % 100)
def L3 (W0 W1 : World) (n G B : Nat) (us : Nat → Value) (ln : Nat → Nat) (c : Nat → List Nat) (g : Nat) (s5 s6 : Value) (wx : World) : Prop :=
  ∃ (i : Nat) (vs : Nat → Value), s6 = .int .i64 (i : Int) ∧ g + i = n ∧ P3 W0 W1 n G B us ln c i i vs s5 wx
def L4 (Wi : World) (B i : Nat) (u : Value) (ln : Nat) (c : List Nat) (g : Nat) (s7 s8 : Value) (wx : World) : Prop :=
  ∃ k : Nat, s8 = .int .i64 (k : Int) ∧ g + k = 64 ∧ P4 Wi B i u ln c k s7 wx
set_option maxRecDepth 100000 in
set_option maxHeartbeats 4000000 in
theorem free_any (W0 : World) (n G B cap : Nat) (us : Nat → Value) (ln : Nat → Nat) (c0 : Nat → List Nat) (hF : Fam n G B us ln) (h0 : FA W0 n G B us c0 W0) (hl0 : ∀ j, j < n → (c0 j).length = ln j) (hB : B ≤ W0.heap.size) :
    Calls Tryd.prog 22 #[.slice (some ⟨G, 0, none⟩) n cap] W0 fun e w' => e = .returned (.bool true) ∧ KR n us W0 w' := by
  have HF : Hid (Fam n G B us ln) := hF
  have H0 : Hid (FA W0 n G B us c0 W0 ∧ ∀ j, j < n → (c0 j).length = ln j) := ⟨h0, hl0⟩
  have hn1000 := hF.n0
  clear hF h0 hl0
  go_enter Tryd.func22, Tryd.ntmps22
  go_wp2
  go_loopg [3] n (fun g s3 wx => Hid (L1 W0 n G B us ln g s3 wx))
  case atStart => exact ⟨0, c0, rfl, by omega, H0.out.1, H0.out.2, fun j hj => by omega⟩
  case round =>
    obtain ⟨i, c, rfl, hgi, hfa, hlen, hmk⟩ := hrel.out
    by_cases hin : i < n
    · obtain ⟨ua, uc, hu, -⟩ := HF.out.form i hin
      have hsm := HF.out.small i hin
      obtain ⟨m, hm⟩ : ∃ m, ln i = m := ⟨_, rfl⟩
      rw [hm] at hu hsm
      have hcl := hfa.l i hin
      rw [hu] at hcl
      have hI : (i : Int) < (n : Int) := by omega
      have HC : Hid (FA W0 n G B us c wr ∧ (∀ j, j < n → (c j).length = ln j) ∧ (∀ j, j < i → ∀ t, t < ln j → (c j)[t]? = some (j % 100))) := ⟨hfa, hlen, hmk⟩
      have HU : Hid _ := hu
      have HM : Hid _ := hm
      clear hfa hlen hmk hu hm hrel
      go_wp2
      go_loopg [4] m (fun g2 s4 wx => Hid (L2 W0 n G B us ln i g2 s4 wx))
      case atStart => exact ⟨0, c, rfl, by rw [HM.out]; omega, HC.out.1, HC.out.2.1, HC.out.2.2, fun t ht => by omega⟩
      case round =>
        obtain ⟨k, c2, rfl, hgk, hfa, hlen, hmk, hmi⟩ := hrel.out
        rw [HM.out] at hgk
        have hcl := hfa.l i hin
        rw [HU.out] at hcl
        by_cases hkm : k < m
        · have hown := hfa.own i hin
          rw [hlen i hin, HU.out, HM.out] at hown
          obtain ⟨gu, cu, heq, -, -⟩ := hown.form (by omega)
          cases heq
          have hfz := hown.frozenAt k
          have hcc := hown.cellAt k (by omega)
          rw [u8s_get (c2 i) k (by rw [hlen i hin, HM.out]; exact hkm)] at hcc
          generalize (c2 i).getD k 0 = y at hcc
          have hkI : (k : Int) < (m : Int) := by omega
          obtain ⟨z, hz⟩ : ∃ z, i % 100 = z := ⟨_, rfl⟩
          have hzl : z < 100 := by omega
          have hmod : Int.tmod (i : Int) 100 = (z : Int) := by rw [Int.tmod_eq_emod_of_nonneg (by omega)]; omega
          have HFA : Hid _ := hfa.set (k := k) (b := z) HF.out hin HU.out (by rw [hlen i hin, HM.out])
          have HL : Hid (∀ j, j < n → (c2 j).length = ln j) := hlen
          have HK : Hid ((∀ j, j < i → ∀ t, t < ln j → (c2 j)[t]? = some (j % 100)) ∧ ∀ t, t < k → (c2 i)[t]? = some (i % 100)) := ⟨hmk, hmi⟩
          have HZ : Hid _ := hz
          clear hfa hlen hmk hmi hrel hown hz
          go_wp2
          go_roundg (m - (k + 1))
          case measure => omega
          case rel =>
            refine ⟨k + 1, _, by simp, by rw [HM.out]; omega, HFA.out, fun j hj => ?_, fun j hj t ht => ?_, fun t ht => ?_⟩
            · by_cases e : j = i
              · subst e; simp only [if_pos]; rw [List.length_set]; exact HL.out j hj
              · simp only [if_neg e]; exact HL.out j hj
            · simp only [if_neg (show ¬ j = i by omega)]
              exact HK.out.1 j hj t ht
            · simp only [if_pos]
              by_cases e : k = t
              · subst e
                rw [List.getElem?_set_self (by rw [HL.out i hin, HM.out]; exact hkm), HZ.out]
              · rw [List.getElem?_set_ne e]
                exact HK.out.2 t (by omega)
        · obtain rfl : k = m := by omega
          have HC2 : Hid (FA W0 n G B us c2 wr ∧ (∀ j, j < n → (c2 j).length = ln j) ∧ (∀ j, j < i + 1 → ∀ t, t < ln j → (c2 j)[t]? = some (j % 100))) := by
            refine ⟨hfa, hlen, fun j hj t ht => ?_⟩
            by_cases e : j = i
            · subst e; exact hmi t (by rw [HM.out] at ht; exact ht)
            · exact hmk j (by omega) t ht
          have hkI : ¬ (k : Int) < (k : Int) := by omega
          clear hfa hlen hmk hmi hrel
          go_wp2
          go_roundg (n - (i + 1))
          case measure => omega
          case rel => exact ⟨i + 1, c2, by simp, by omega, HC2.out.1, HC2.out.2.1, HC2.out.2.2⟩
    · obtain rfl : i = n := by omega
      have hI : ¬ (i : Int) < (i : Int) := by omega
      have HC : Hid (FA W0 i G B us c wr ∧ (∀ j, j < i → (c j).length = ln j) ∧ (∀ j, j < i → ∀ t, t < ln j → (c j)[t]? = some (j % 100))) := ⟨hfa, hlen, hmk⟩
      clear hfa hlen hmk hrel
      have hn0 : i = 0 ∨ 0 < i := by omega
      have HPC : Hid (PC wr i G us ln c) := ⟨HC.out.2.1, HC.out.2.2, fun j hj g hg => ((HC.out.1.own j hj).lt g hg).2, fun h => cell_lt (HC.out.1.l 0 h)⟩
      have HP0 : Hid (P3 W0 wr i G B us ln c 0 0 us (.slice none 0 0) wr) := by
        refine ⟨HC.out.1.l, fun j _ hj => ?_, fun j hj g hg t ht => ?_, fun j hj => by omega, World.ownsRow_nil _ _ _ _, .inl rfl, HC.out.1.b, Nat.le_refl _⟩
        · rw [← HC.out.2.1 j hj]; exact HC.out.1.own j hj
        · have ho := HC.out.1.own j hj
          obtain ⟨ua, uc, hu, -⟩ := HF.out.form j hj
          rw [hu] at ho hg
          obtain ⟨g2, c2, e2, -, -⟩ := ho.form (by rw [HC.out.2.1 j hj]; omega)
          have hl := HC.out.2.1 j hj
          rw [e2] at hg ho
          cases hg
          rw [ho.cellAt t (by rw [hl]; omega), u8s_get _ t (by rw [hl]; exact ht), List.getD_eq_getElem?_getD, HC.out.2.2 j hj t ht]
          rfl
      have H01 : Hid (W0.heap.size ≤ wr.heap.size) := HC.out.1.b.size
      obtain ⟨W1, hW1⟩ : ∃ W1, W1 = wr := ⟨_, rfl⟩
      rw [← hW1] at HPC HP0 H01 ⊢
      clear hW1 HC
      go_wp2
      go_loopg [5, 6] i (fun g s5 s6 wx => Hid (L3 W0 W1 i G B us ln c g s5 s6 wx))
      case atStart => exact ⟨0, us, rfl, by omega, HP0.out⟩
      case round =>
        obtain ⟨a, vs, rfl, hga, hp3⟩ := hrel.out
        by_cases han : a < i
        · obtain ⟨ua, uc, hu, -⟩ := HF.out.form a han
          have hsm := HF.out.small a han
          have hcl := hp3.l a han
          rw [hu] at hcl
          have hA : (a : Int) < (i : Int) := by omega
          have HU : Hid _ := hu
          have HP4 : Hid (P4 wr B a (us a) (ln a) (c a) 0 (us a) wr) := by
            refine ⟨?_, .inl rfl, fun g hg t ht => hp3.rd a han g hg t ht, KR.refl _ _ _⟩
            have := hp3.un a (Nat.le_refl _) han
            simpa using this
          have HP3 : Hid _ := hp3
          obtain ⟨Wi, hWi⟩ : ∃ Wi, Wi = wr := ⟨_, rfl⟩
          rw [hu] at HP4
          rw [← hWi] at HP3 HP4 hcl ⊢
          obtain ⟨m, hm⟩ : ∃ m, ln a = m := ⟨_, rfl⟩
          rw [hm] at hcl HP4 HU hsm
          have HM : Hid _ := hm
          clear hp3 hu hrel hWi hm
          go_wp2
          go_loopg [7, 8] 64 (fun g s7 s8 wx => Hid (L4 Wi B a (us a) m (c a) g s7 s8 wx))
          case atStart => exact ⟨0, rfl, rfl, by rw [HU.out]; exact HP4.out⟩
          case round =>
            obtain ⟨k, rfl, hgk, hp4⟩ := hrel.out
            have hWs := hp4.ke.size
            have hBi : Hid (B ≤ Wi.heap.size) := Nat.le_trans hB (Nat.le_trans H01.out HP3.out.sz)
            have hBw : B ≤ wr.heap.size := Nat.le_trans hBi.out hWs
            have HQ : Hid _ := hp4
            by_cases hk : k < 64
            · obtain ⟨z, hz⟩ : ∃ z, a % 100 = z := ⟨_, rfl⟩
              have hzl : z < 100 := by omega
              have hmod : Int.tmod (a : Int) 100 = (z : Int) := by rw [Int.tmod_eq_emod_of_nonneg (by omega)]; omega
              have hkI : (k : Int) < 64 := by omega
              have HZ : Hid _ := hz
              clear hp4 hrel hz
              go_wp2_with (at_builtin; refine Stop.mk ?_)
              refine Stop.out (wpList_append_keeps rfl (.tmp 51) (.tmp 56) rfl B u7 (m + k) _ rfl (World.ownsRow.alloc HQ.out.own _) ⟨wr.heap.size, 0, none⟩ (.int .u8 (128 + (z : Int))) rfl rfl (by simp) (by unfold maxLen; omega) (by omega) (by simp; omega) ?_)
              intro g9 c9 W9 ho9 hg9 hd9
              have HP9 : Hid (P4 Wi B a (us a) m (c a) (k + 1) (.slice (some ⟨g9, 0, none⟩) (m + k + 1) c9) W9) := by
                refine HQ.out.app (by rw [HPC.out.len a han, HM.out]) (fun t ht => HPC.out.mark a han t (by rw [HM.out]; exact ht)) (fun g hg => Nat.lt_of_lt_of_le (HPC.out.lt a han g hg) HP3.out.sz) ((Below.refl _ _).alloc (Nat.le_refl _) _) ?_ hg9 hd9
                rw [show (((128 + a % 100 : Nat)) : Int) = 128 + (z : Int) by rw [HZ.out]; omega]
                exact ho9
              clear ho9 hg9 hd9
              go_wp2
              go_roundg (64 - (k + 1))
              case measure => omega
              case rel => exact ⟨k + 1, by simp, by omega, HP9.out⟩
            · obtain rfl : k = 64 := by omega
              have hkI : ¬ ((64 : Nat) : Int) < 64 := by omega
              obtain ⟨gm, cm, hmv, -, -⟩ := hp4.own.form (by omega)
              have HG : Hid (P3 W0 W1 i G B us ln c (a + 1) a (fun j => if j = a then u7 else vs j) u5 wr) := by
                refine HP3.out.grow HF.out HPC.out han ?_
                rw [HM.out]
                exact hp4
              obtain ⟨i1, hi1, hy0, hy1, hy2⟩ := info_parts info27
              have hW1w : W1.heap.size ≤ wr.heap.size := HG.out.sz
              subst hmv
              clear hp4 hrel HQ HP4
              go_wp2_with (at_builtin; refine Stop.mk ?_)
              refine Stop.out (wpList_append_lies _ rfl (.tmp 58) (.tmp 60) 77 rfl W1.heap.size 55 i1 _ 1 24 Tryd.underlying77 hi1 hy0 hy1 hy2 rfl (by decide) u5 a _ rfl (World.ownsRow.alloc HG.out.pw _) ⟨wr.heap.size, 0, none⟩ 1 1 [.slice (some ⟨gm, 0, none⟩) (m + 64) cm] rfl rfl (World.news_of_block (heap_alloc_new wr _)) (by intro u hu; simp at hu; subst hu; rfl) (by decide) (by unfold maxLen; omega) (by omega) (by simp; omega) _ rfl ?_)
              intro g9 c9 W9 ho9 hg9 _ _
              have HP9 : Hid (P3 W0 W1 i G B us ln c (a + 1) (a + 1) (fun j => if j = a then .slice (some ⟨gm, 0, none⟩) (m + 64) cm else vs j) (.slice (some ⟨g9, 0, none⟩) (a + 1) c9) W9) := by
                refine HG.out.push H01.out HPC.out (by omega) ((Below.refl _ _).alloc (Nat.le_refl _) _) hg9 ?_
                simp only [if_pos]
                exact ho9
              clear ho9 hg9
              go_wp2
              go_roundg (i - (a + 1))
              case measure => omega
              case rel => exact ⟨a + 1, _, by simp, by omega, HP9.out⟩
        · obtain rfl : a = i := by omega
          have hA : ¬ (a : Int) < (a : Int) := by omega
          have HP3 : Hid _ := hp3
          clear hp3 hrel
          obtain ⟨W2, hW2⟩ : ∃ W2, W2 = wr := ⟨_, rfl⟩
          rw [← hW2] at HP3 ⊢
          clear hW2
          go_wp2
          go_loopg [9] a (fun g s9 wx => ∃ b : Nat, s9 = .int .i64 (b : Int) ∧ g + b = a ∧ wx = W2)
          case atStart => exact ⟨0, rfl, by omega, rfl⟩
          case round =>
            obtain ⟨b, rfl, hgb, rfl⟩ := hrel
            by_cases hba : b < a
            · obtain ⟨ua, uc, hu, hua⟩ := HF.out.form b hba
              have HUA : Hid _ := hua
              have hsm := HF.out.small b hba
              have hcl := HP3.out.l b hba
              rw [hu] at hcl
              obtain ⟨gp, cp, hpe, -, -⟩ := HP3.out.pw.form (by omega)
              have hpw := HP3.out.pw
              rw [hpe] at hpw
              have hpc := hpw.cellAt b (by omega)
              rw [List.getElem?_map, List.getElem?_range hba] at hpc
              simp only [Option.map_some] at hpc
              obtain ⟨gv, cv, hv1, -, hv3⟩ := HP3.out.vg b hba
              rw [hv1] at hpc
              have HRD : Hid _ := HP3.out.rd b hba
              have HV3 : Hid _ := hv3
              obtain ⟨m, hm⟩ : ∃ m, ln b = m := ⟨_, rfl⟩
              rw [hm] at hcl hpc hu hsm
              have HM : Hid _ := hm
              have HU : Hid _ := hu
              obtain ⟨z, hz⟩ : ∃ z, b % 100 = z := ⟨_, rfl⟩
              have hzl : z < 100 := by omega
              have hmod : Int.tmod (b : Int) 100 = (z : Int) := by rw [Int.tmod_eq_emod_of_nonneg (by omega)]; omega
              have HZ : Hid _ := hz
              have hbI : (b : Int) < (a : Int) := by omega
              subst hpe
              clear hv3 hm hu hz hpw hv1 hua
              go_wp2
              go_loopg [11] m (fun g s11 wx => ∃ k : Nat, s11 = .int .i64 (k : Int) ∧ g + k = m ∧ wx = wr)
              case atStart => exact ⟨0, rfl, by omega, rfl⟩
              case round =>
                obtain ⟨k, rfl, hgk, rfl⟩ := hrel
                by_cases hkm : k < m
                · obtain ⟨gu, rfl⟩ : ∃ gu, ua = some ⟨gu, 0, none⟩ := HUA.out (by rw [HM.out]; omega)
                  have hc := HRD.out gu (by rw [HU.out]; rfl) k (by rw [HM.out]; exact hkm)
                  rw [HZ.out] at hc
                  have hkI : (k : Int) < (m : Int) := by omega
                  go_wp2
                  go_roundg (m - (k + 1))
                  case measure => omega
                  case rel => exact ⟨k + 1, by simp, by omega, rfl⟩
                · obtain rfl : k = m := by omega
                  have hkI : ¬ (k : Int) < (k : Int) := by omega
                  go_wp2
                  go_loopg [12] 64 (fun g s12 wx => ∃ y : Nat, s12 = .int .i64 (y : Int) ∧ g + y = 64 ∧ wx = wr)
                  case atStart => exact ⟨0, rfl, rfl, rfl⟩
                  case round =>
                    obtain ⟨y, rfl, hgy, rfl⟩ := hrel
                    by_cases hy : y < 64
                    · have hc := HV3.out (k + y) (by rw [HM.out]; omega)
                      rw [if_neg (by rw [HM.out]; omega), HZ.out] at hc
                      have hc2 : wr.cell? ⟨gv, k + y, none⟩ = some (.int .u8 (128 + (z : Int))) := by rw [hc]; simp
                      have hyI : (y : Int) < 64 := by omega
                      clear hc
                      go_wp2
                      go_roundg (64 - (y + 1))
                      case measure => omega
                      case rel => exact ⟨y + 1, by simp, by omega, rfl⟩
                    · obtain rfl : y = 64 := by omega
                      have hyI : ¬ ((64 : Nat) : Int) < 64 := by omega
                      go_wp2
                      go_roundg (a - (b + 1))
                      case measure => omega
                      case rel => exact ⟨b + 1, by simp, by omega, rfl⟩
            · obtain rfl : b = a := by omega
              have hbI : ¬ (b : Int) < (b : Int) := by omega
              go_wp2
              go_ret
              exact ⟨rfl, HP3.out.kr⟩
set_option maxRecDepth 100000 in
theorem free_nil (W : World) : Calls Tryd.prog 22 #[.slice none 0 0] W fun e w' => e = .returned (.bool true) ∧ Below W.heap.size W w' := by
  go_enter Tryd.func22, Tryd.ntmps22
  go_wp2
  go_loopg [3] 0 (fun g s wx => s = .int .i64 0 ∧ wx = W)
  case atStart => exact ⟨rfl, rfl⟩
  case round =>
    obtain ⟨rfl, rfl⟩ := hrel
    go_wp2
    go_loopg [5, 6] 0 (fun g s5 s6 wx => s5 = .slice none 0 0 ∧ s6 = .int .i64 0 ∧ wx = wr)
    case atStart => exact ⟨rfl, rfl, rfl⟩
    case round =>
      obtain ⟨rfl, rfl, rfl⟩ := hrel
      go_wp2
      go_loopg [9] 0 (fun g s wx => s = .int .i64 0 ∧ wx = wr)
      case atStart => exact ⟨rfl, rfl⟩
      case round =>
        obtain ⟨rfl, rfl⟩ := hrel
        go_wp2
        go_ret
        exact ⟨rfl, Below.refl _ _⟩
end Go.Proofs.YtnamkcfmbefkfaaDoor.Fr
