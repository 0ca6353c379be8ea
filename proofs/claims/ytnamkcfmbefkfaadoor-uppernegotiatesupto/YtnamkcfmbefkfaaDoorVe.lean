import Derived.Test.YtnamkcfmbefkfaaDoorVd
namespace Go.Proofs.YtnamkcfmbefkfaaDoor
open Go Go.Proofs Go.RowKit
theorem app_keeps {w : World} {ops : Array Oper} {rest : List Oper} {o : Oper} {a : Act} {Q : Exit → Act → World → Prop} (hgd : o.guard = none) (s x : Operand) (t : TypeId)
    (ho : o.op = .call { callee := .builtin .append, args := #[s, x], argTypes := #[t, t] }) (base : Nat) (e : TypeId) (i : TypeInfo) (z : Value) (size bytes : Nat) (ht : Tryd.prog.underlying t = some (.slice e)) (hi : Tryd.prog.info? e = some i) (hz : i.zero = some z)
    (hsize : i.size = size) (hby : i.bytes = bytes) (hzs : z.cells.size = size) (hsz : 0 < size) (v : Value) (n : Nat) (xs : List Value) (hs : a.eval s = v) (hown : w.ownsRow base e size v n xs)
    (ad : Addr) (news : List Value) (hx : a.eval x = .slice (some ad) 1 1) (hl : news.length = size) (hnews : ∀ j u, news[j]? = some u → w.cell? (ad.add j) = some u) (h1 : ∀ u ∈ news, u.oneCell' = true) (h63 : n + 1 ≤ maxLen) (hbytes : (n + 1) * bytes ≤ 140737488355328) (hbase : base ≤ w.heap.size)
    (h : ∀ g cap w', w'.ownsRow base e size (.slice (some ⟨g, 0, none⟩) (n + 1) cap) (n + 1) (xs ++ news) → w.grownBy w' v.ownBlock → (v = .slice (some ⟨g, 0, none⟩) n cap ∨ (w.heap.size ≤ g ∧ ∀ k, k < w.heap.size → w'.heap[k]? = w.heap[k]?)) → wpList Tryd.prog ops Q rest (a.put o.dst (.slice (some ⟨g, 0, none⟩) (n + 1) cap)) w') : wpList Tryd.prog ops Q (o :: rest) a w := by
  refine wpList_plain hgd fun K hK => ?_
  have hl' : news.length = 1 * size := by rw [hl, Nat.one_mul]
  have hl2 : news.length = 1 * i.size := by rw [hl', hsize]
  obtain ⟨v', w', hr, ho', hg', -⟩ := run_append_own (P := Tryd.prog) w base t o.type e i z size bytes ht hi hz hsize hby hzs hsz v n xs hown ad 1 1 news hl' hnews h1 h63 hbytes hbase
  have hend : ∀ g cap, v' = .slice (some ⟨g, 0, none⟩) (n + 1) cap → (v = .slice (some ⟨g, 0, none⟩) n cap ∨ (w.heap.size ≤ g ∧ ∀ k, k < w.heap.size → w'.heap[k]? = w.heap[k]?)) → Oper.wp Tryd.prog o a w K Q := by
    intro g cap hv' hd
    subst hv'
    unfold Oper.wp execOp
    simp only [ho, resolve, invoke, builtin, Sem.run_bind, Sem.run_pure, Result.andThen_ok, List.map_toArray, List.map_cons, List.map_nil, hs, hx, hr]
    exact hK _ _ (h g cap w' ho' hg' hd)
  rcases hown.2 with ⟨rfl, rfl⟩ | ⟨g, cap, cur, rfl, hbg, hgc, hnc, hcm, hcs, htake⟩
  · have hr2 := run_append_nil (P := Tryd.prog) w t o.type e i z ht hi hz ad 1 1 news hl2 hnews (by decide) (by decide) (by rw [hby]; omega)
    rw [hr2] at hr
    injection hr with hv hw
    refine hend w.heap.size _ hv.symm (.inr ⟨Nat.le_refl _, fun k hk => ?_⟩)
    rw [← hw]
    exact Below.heap_alloc w.drew _ _ hk
  · by_cases hroom : n + 1 ≤ cap
    · have hr2 := run_append_room (P := Tryd.prog) w t o.type e i ht hi g n cap cur hgc ad 1 1 news hl2 hnews h1 hroom (by
        rw [hsize, hcs, hl]
        have := Nat.mul_le_mul_right size hroom
        rw [Nat.add_mul, Nat.one_mul] at this
        omega)
      rw [hr2] at hr
      injection hr with hv hw
      exact hend g cap hv.symm (.inl rfl)
    · have hr2 := run_append_grow (P := Tryd.prog) w t o.type e i z ht hi hz ⟨g, 0, none⟩ n cap xs (by rw [hsize]; exact hown.1) (hown.cells (g := g) rfl) ad 1 1 news hl2 hnews (by omega) (by simp only [maxLen] at h63; omega) (by rw [hby]; exact growslice_fits (by omega) hbytes)
      rw [hr2] at hr
      injection hr with hv hw
      refine hend w.heap.size _ hv.symm (.inr ⟨Nat.le_refl _, fun k hk => ?_⟩)
      rw [← hw]
      exact Below.heap_alloc w.drew _ _ hk
def SK (W W' : World) : Prop := ∀ (b : Nat) (cur : Array Value) (e : TypeId) (fr : Nat × Nat), W.heap[b]? = some (.cells cur e fr) → ∃ cur' : Array Value, W'.heap[b]? = some (.cells cur' e fr) ∧ cur'.size = cur.size
theorem SK.trans {W W' W'' : World} (h : SK W W') (h2 : SK W' W'') : SK W W'' := fun b cur e fr hb => by
  obtain ⟨c1, a1, a2⟩ := h b cur e fr hb
  obtain ⟨c2, b1, b2⟩ := h2 b c1 e fr a1
  exact ⟨c2, b1, b2.trans a2⟩
theorem SK.of {W W' : World} (h : ∀ b, b < W.heap.size → W'.heap[b]? = W.heap[b]?) : SK W W' := fun b cur _ _ hb => ⟨cur, (h b (Array.getElem?_eq_some_iff.1 hb).1).trans hb, rfl⟩
theorem SK.set (W : World) (g o : Nat) (u : Value) : SK W (W.setCell ⟨g, o, none⟩ u) := fun b cur e fr hb => by
  by_cases hg : b = g
  · subst hg
    rw [setCell_eq_setRow W b o cur e fr u hb]
    exact ⟨_, setRow_heap W b cur _ e _ hb, by simp⟩
  · exact ⟨cur, (Below.heap_setCell _ _ _ _ hg).trans hb, rfl⟩
theorem OwnW.sk {W W' : World} {B s n : Nat} {e : TypeId} {v : Value} (h : OwnW W B e s v n) (hk : SK W W') : OwnW W' B e s v n := by
  obtain ⟨xs, h1, h2⟩ := h
  rcases h2 with ⟨rfl, h0⟩ | ⟨g, cap, cur, rfl, h3, h4, h5, h6, h7, h8⟩
  · exact ⟨xs, h1, .inl ⟨rfl, h0⟩⟩
  · obtain ⟨cur', a1, a2⟩ := hk g cur e _ h4
    refine ⟨cur'.toList.take (n * s), ?_, .inr ⟨g, cap, cur', rfl, h3, a1, h5, h6, a2.trans h7, rfl⟩⟩
    rw [List.length_take, Array.length_toList, a2, h7]
    exact Nat.min_eq_left (Nat.mul_le_mul_right s h5)
def CK (D : PdD) (e : TypeId) (o : Nat) : Prop := e = 5 ∨ (e = 51 ∧ o < D.cx.length * 4 ∧ o % 4 = 3) ∨ (e = 60 ∧ o < D.vl.length * 4 ∧ o % 4 = 3) ∨ (e = 57 ∧ o < D.ot.length * 2 ∧ o % 2 = 1)
structure MI (F : Nat → Prop) (w : World) (PQ : Array Value) (D : PdD) (wr : World) : Prop where
  kf : KF F w wr
  sk : SK w wr
  p : wr.heap[w.heap.size]? = some (.cells PQ 33)
  cc : ∀ (b : Nat) (cur : Array Value) (e : TypeId) (fr : Nat × Nat) (o : Nat) (y : Value), w.heap[b]? = some (.cells cur e fr) → CK D e o → w.cell? ⟨b, o, none⟩ = some y → wr.cell? ⟨b, o, none⟩ = some y
theorem MI.set {F : Nat → Prop} {w wr : World} {PQ : Array Value} {D : PdD} (h : MI F w PQ D wr) {g o : Nat} (u : Value) {cur : Array Value} {e : TypeId} {fr : Nat × Nat} (hg : w.heap[g]? = some (.cells cur e fr)) (hF : F g) (hc : ¬ CK D e o) : MI F w PQ D (wr.setCell ⟨g, o, none⟩ u) := by
  have hp : g < w.heap.size := (Array.getElem?_eq_some_iff.1 hg).1
  refine ⟨h.kf.set (.inl hF) o u, h.sk.trans (SK.set _ _ _ _), (Below.heap_setCell _ _ _ _ (show w.heap.size ≠ g by omega)).trans h.p, fun b cur' e' fr' o' y hb hk hy => ?_⟩
  by_cases hbg : b = g
  · subst hbg
    rw [hg] at hb
    simp at hb
    obtain ⟨-, rfl, -⟩ := hb
    by_cases hoo : o' = o
    · subst hoo; exact absurd hk hc
    · exact (cell_set_ne (Ne.symm hoo)).trans (h.cc b cur e _ o' y hg hk hy)
  · exact (World.cell?_of_block (Below.heap_setCell _ _ _ _ (show b ≠ g from hbg))).trans (h.cc b cur' e' fr' o' y hb hk hy)
structure AppR (F : Nat → Prop) (w : World) (base : Nat) (e : TypeId) (s : Nat) (n : Nat) (l : Value) (wr : World) : Prop where
  own : OwnW wr base e s l n
  at' : ∀ b, l.ownBlock = some b → w.heap.size < b ∨ (F b ∧ ∃ (cur : Array Value) (fr : Nat × Nat), w.heap[b]? = some (.cells cur e fr))
theorem AppR.far {F : Nat → Prop} {w wr W9 : World} {base s n s' n' : Nat} {e e' : TypeId} {l l' : Value} (h : AppR F w base e s n l wr) (h' : OwnW wr base e' s' l' n') (he : e ≠ e') (hg : wr.grownBy W9 l'.ownBlock) : AppR F w base e s n l W9 := by
  refine ⟨h.own.same fun b hb => ?_, h.at'⟩
  obtain ⟨xs, hx⟩ := h.own
  obtain ⟨ys, hy⟩ := h'
  obtain ⟨_, t2, cur, fr, t3⟩ := own_ty hx hb
  refine hg.block b t2 fun e2 => ?_
  obtain ⟨_, _, cur', fr', t4⟩ := own_ty hy e2.symm
  rw [t3] at t4
  simp at t4
  exact he t4.2.1
theorem AppR.alloc {F : Nat → Prop} {w wr : World} {base s n : Nat} {e : TypeId} {l : Value} (h : AppR F w base e s n l wr) (o : Obj) : AppR F w base e s n l (wr.alloc o) := by
  refine ⟨h.own.same fun b hb => ?_, h.at'⟩
  obtain ⟨xs, hx⟩ := h.own
  exact Below.heap_alloc wr o b (hx.lt b hb).2
theorem MI.alloc {F : Nat → Prop} {w wr : World} {PQ : Array Value} {D : PdD} (h : MI F w PQ D wr) (o : Obj) : MI F w PQ D (wr.alloc o) := by
  have hz : w.heap.size < wr.heap.size := (Array.getElem?_eq_some_iff.1 h.p).1
  have hb : ∀ b, b < wr.heap.size → (wr.alloc o).heap[b]? = wr.heap[b]? := fun b hb => Below.heap_alloc wr o b hb
  exact ⟨h.kf.trans (KF.of ((Below.refl _ _).alloc (Nat.le_refl _) o)), h.sk.trans (SK.of hb), (hb _ hz).trans h.p, fun b cur e fr ofs y h1 h2 h3 => by
    have h4 := h.cc b cur e fr ofs y h1 h2 h3
    exact (World.cell?_of_block (hb b (cell_lt h4))).trans h4⟩
theorem MI.app {F : Nat → Prop} {w wr W9 : World} {PQ : Array Value} {D : PdD} {base s n g9 c9 : Nat} {e : TypeId} {l : Value} {xs news : List Value} (h : MI F w PQ D wr) (hl : AppR F w base e s n l wr) (hx : wr.ownsRow base e s l n xs) (he : e ≠ 33)
    (ho : W9.ownsRow base e s (.slice (some ⟨g9, 0, none⟩) (n + 1) c9) (n + 1) (xs ++ news)) (hg : wr.grownBy W9 l.ownBlock) (hd : l = .slice (some ⟨g9, 0, none⟩) n c9 ∨ (wr.heap.size ≤ g9 ∧ ∀ k, k < wr.heap.size → W9.heap[k]? = wr.heap[k]?)) (hc : ∀ o, CK D e o → o < n * s) :
    MI F w PQ D W9 ∧ AppR F w base e s (n + 1) (.slice (some ⟨g9, 0, none⟩) (n + 1) c9) W9 := by
  have hz : w.heap.size < wr.heap.size := (Array.getElem?_eq_some_iff.1 h.p).1
  rcases hd with rfl | ⟨hd1, hd2⟩
  · have hb : ∀ b, b < wr.heap.size → b ≠ g9 → W9.heap[b]? = wr.heap[b]? := fun b h1 h2 => hg.block b h1 (fun e => h2 (by simpa [Value.ownBlock] using e))
    have hat := hl.at' g9 rfl
    obtain ⟨_, t2, cu, fu, t3⟩ := own_ty hx (show (Value.slice (some ⟨g9, 0, none⟩) n c9).ownBlock = some g9 from rfl)
    have hsk : SK wr W9 := fun b cur e' fr hbk => by
      by_cases hbg : b = g9
      · subst hbg
        rcases hx.2 with ⟨e1, _⟩ | ⟨g', cap, cu1, e1, _, k1, _, _, k2, _⟩
        · simp at e1
        · obtain ⟨rfl, rfl⟩ : b = g' ∧ c9 = cap := by simpa using e1
          rcases ho.2 with ⟨e2, _⟩ | ⟨g'', cap'', cu2, e2, _, j1, _, _, j2, _⟩
          · simp at e2
          · obtain ⟨rfl, rfl⟩ : b = g'' ∧ c9 = cap'' := by simpa using e2
            rw [k1] at hbk
            simp at hbk
            obtain ⟨rfl, rfl, rfl⟩ := hbk
            exact ⟨cu2, j1, by rw [k2, j2]⟩
      · exact ⟨cur, (hb b (Array.getElem?_eq_some_iff.1 hbk).1 hbg).trans hbk, rfl⟩
    have hgp : g9 ≠ w.heap.size := by
      intro e2
      rw [e2, h.p] at t3
      simp at t3
      exact he t3.2.1.symm
    refine ⟨⟨⟨hg.os.trans h.kf.os, hg.tape.trans h.kf.tape, hg.output.trans h.kf.output, Nat.le_trans h.kf.size hg.size, fun b h1 h2 => ?_⟩, h.sk.trans hsk, (hb _ hz (Ne.symm hgp)).trans h.p, fun b cur e' fr o y h1 h2 h3 => ?_⟩, ⟨_, ho⟩, fun b hb2 => (show g9 = b by simpa [Value.ownBlock] using hb2) ▸ hat⟩
    · have : b ≠ g9 := by
        rintro rfl
        rcases hat with h3 | h3
        · omega
        · exact h2 h3.1
      exact (hb b (by omega) this).trans (h.kf.block b h1 h2)
    · have h4 := h.cc b cur e' fr o y h1 h2 h3
      by_cases hbg : b = g9
      · subst hbg
        obtain ⟨cu', a1, a2⟩ := h.sk b cur e' fr h1
        rw [t3] at a1
        simp at a1
        obtain ⟨-, rfl, -⟩ := a1
        have hlt := hc o h2
        rw [hx.cellAt o hlt] at h4
        rw [ho.cellAt o (by have := Nat.mul_le_mul_right s (show n ≤ n + 1 by omega); omega), List.getElem?_append_left (by rw [hx.1]; exact hlt)]
        exact h4
      · exact (World.cell?_of_block (hb b (cell_lt h4) hbg)).trans h4
  · refine ⟨⟨⟨hg.os.trans h.kf.os, hg.tape.trans h.kf.tape, hg.output.trans h.kf.output, Nat.le_trans h.kf.size hg.size, fun b h1 h2 => (hd2 b (by omega)).trans (h.kf.block b h1 h2)⟩, h.sk.trans (SK.of hd2), (hd2 _ hz).trans h.p, fun b cur e' fr o y h1 h2 h3 => ?_⟩, ⟨_, ho⟩, fun b hb => .inl ?_⟩
    · have h4 := h.cc b cur e' fr o y h1 h2 h3
      exact (World.cell?_of_block (hd2 b (cell_lt h4))).trans h4
    · obtain rfl : g9 = b := by simpa [Value.ownBlock] using hb
      omega
end Go.Proofs.YtnamkcfmbefkfaaDoor
