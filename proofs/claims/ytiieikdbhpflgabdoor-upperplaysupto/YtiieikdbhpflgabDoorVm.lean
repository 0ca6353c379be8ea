import Derived.Test.YtiieikdbhpflgabDoorVj
import Derived.Test.YtiieikdbhpflgabDoorVl
/-
  DERIVED. What is told, gathered in lists: the lists.
-/
namespace Go.Proofs.YtiieikdbhpflgabDoor
open Go Go.Proofs Go.RowKit
set_option linter.unusedVariables false

theorem infoPdu : (Tryd.prog.info? 46).map (fun i => (i.zero, i.size, i.bytes)) = some (some (.agg (Pd 0 zc)), 19, 216) := by kernel_rfl
theorem fillP (k : Int) (c : Fin 18 → Value) : Go.Instr.fill (fun i => some (i * 19, 19)) (Array.map (fun x => (Value.agg (Pd 0 zc)).cells[x % (Value.agg (Pd 0 zc)).cells.size]!) (Array.range (1 * 19))) [(0, .agg (Pd k c))] = some (Pd k c) := by kernel_rfl
theorem sliceP {ops : Array Oper} {rest : List Oper} {o : Oper} {a : Act} {w : World} {Q : Exit → Act → World → Prop} (hg : o.guard = none) (x : Operand) (ho : o.op = .buildSlice 98 1 #[(0, x)]) (RQ : Array Value) (k : Int) (c : Fin 18 → Value) (hR : Pd k c = RQ) (hx : a.eval x = .agg RQ)
    (h : wpList Tryd.prog ops Q rest (a.put o.dst (.slice (some ⟨w.heap.size, 0, none⟩) 1 1)) (w.alloc (.cells RQ 46))) : wpList Tryd.prog ops Q (o :: rest) a w := by
  obtain ⟨i, hi, hz, hs, -⟩ := info_parts infoPdu
  subst hR
  refine wpList_buildSlice hg 98 46 1 #[(0, x)] ho (Pd k c) i (.agg (Pd 0 zc)) Tryd.underlying98 hi hz (by rw [hs]; decide) (by rw [hs]; decide) ?_ h
  rw [hs]
  simp only [List.map_toArray, List.map_cons, List.map_nil, hx]
  exact fillP k c
/-- PDUs that were told, and what they ought to be. -/
structure Ls (W : World) (q m : Nat) (T : Nat → KpD) (wc : Nat → Fin 18 → Value) (G : Nat → Prop) : Prop where
  ox : ∀ j, j < m → OXF (T j).F 0 W (T j).c (T j).D
  wo : ∀ j, j < m → OXF G 0 W (wc j) (T j).D
  gd : ∀ j, j < m → Gd (T j).c (T j).D
  same : ∀ j, j < m → SameC (T j).c (wc j)
  apt : ∀ i j, i < m → j < m → i ≠ j → ∀ b, (T i).F b → ¬ (T j).F b
  far : ∀ j, j < m → ∀ b, (T j).F b → ¬ G b
  lt : ∀ j, j < m → ∀ b, (T j).F b → q < b ∧ b < W.heap.size
  lg : ∀ b, G b → q < b ∧ b < W.heap.size
theorem Ls.keep {W W' : World} {q m : Nat} {T : Nat → KpD} {wc : Nat → Fin 18 → Value} {G : Nat → Prop} (h : Ls W q m T wc G) (hs : W.heap.size ≤ W'.heap.size) (hk : ∀ b, b < W.heap.size → (G b ∨ ∃ j, j < m ∧ (T j).F b) → W'.heap[b]? = W.heap[b]?) : Ls W' q m T wc G :=
  ⟨fun j hj => (h.ox j hj).keepF fun b h1 h2 => hk b h1 (.inr ⟨j, hj, h2⟩), fun j hj => (h.wo j hj).keepF fun b h1 h2 => hk b h1 (.inl h2), h.gd, h.same, h.apt, h.far, fun j hj b hb => ⟨(h.lt j hj b hb).1, Nat.lt_of_lt_of_le (h.lt j hj b hb).2 hs⟩, fun b hb => ⟨(h.lg b hb).1, Nat.lt_of_lt_of_le (h.lg b hb).2 hs⟩⟩
theorem Ls.nil (W : World) (q : Nat) (T : Nat → KpD) (wc : Nat → Fin 18 → Value) : Ls W q 0 T wc (fun _ => False) :=
  ⟨fun j h => absurd h (Nat.not_lt_zero _), fun j h => absurd h (Nat.not_lt_zero _), fun j h => absurd h (Nat.not_lt_zero _), fun j h => absurd h (Nat.not_lt_zero _), fun i j h => absurd h (Nat.not_lt_zero _), fun j h => absurd h (Nat.not_lt_zero _), fun j h => absurd h (Nat.not_lt_zero _), fun b h => absurd h id⟩
def catT (m : Nat) (T t : Nat → KpD) : Nat → KpD := fun j => if j < m then T j else t (j - m)
def catC (m : Nat) (wc : Nat → Fin 18 → Value) (t : Nat → KpD) : Nat → Fin 18 → Value := fun j => if j < m then wc j else (t (j - m)).c
theorem catT_old {m : Nat} {T t : Nat → KpD} {j : Nat} (h : j < m) : catT m T t j = T j := if_pos h
theorem catT_new {m : Nat} {T t : Nat → KpD} {j : Nat} (h : ¬ j < m) : catT m T t j = t (j - m) := if_neg h
theorem catC_old {m : Nat} {wc : Nat → Fin 18 → Value} {t : Nat → KpD} {j : Nat} (h : j < m) : catC m wc t j = wc j := if_pos h
theorem catC_new {m : Nat} {wc : Nat → Fin 18 → Value} {t : Nat → KpD} {j : Nat} (h : ¬ j < m) : catC m wc t j = (t (j - m)).c := if_neg h
/-- What one event makes both tell comes to it. -/
theorem Ls.ext {W W3 W4 W5 : World} {q m g g' : Nat} {T t t' : Nat → KpD} {wc : Nat → Fin 18 → Value} {G : Nat → Prop} {v v' : Value} {L M : List AcD} (h : Ls W q m T wc G) (hk : ∀ b, q < b → b < W.heap.size → W5.heap[b]? = W.heap[b]?) (s3 : W.heap.size ≤ W3.heap.size) (s4 : W3.heap.size ≤ W4.heap.size) (hq : q < W3.heap.size)
    (h1 : Tl W4 W3.heap.size v L g t) (ha : ∀ i j, i < L.length → j < L.length → i ≠ j → ∀ b, (t i).F b → ¬ (t j).F b) (h2 : Tl W5 W4.heap.size v' M g' t') (hb5 : BelBut q W4 W5) (hs : LSim M L) (hg : ∀ a ∈ L, Gd a.c a.D) :
    Ls W5 q (m + L.length) (catT m T t) (catC m wc t') (fun b => G b ∨ (W4.heap.size ≤ b ∧ b < W5.heap.size)) := by
  have s5 := hb5.size
  have hlen := hs.len
  have hold : ∀ j, j < m → OXF (T j).F 0 W5 (T j).c (T j).D ∧ OXF G 0 W5 (wc j) (T j).D := fun j hj => ⟨(h.ox j hj).keepF fun b h1 h2 => hk b (h.lt j hj b h2).1 h1, (h.wo j hj).keepF fun b h1 h2 => hk b (h.lg b h2).1 h1⟩
  have hi : ∀ j, ¬ j < m → j < m + L.length → j - m < L.length := fun j h1 h2 => by omega
  refine ⟨fun j hj => ?_, fun j hj => ?_, fun j hj => ?_, fun j hj => ?_, fun i j hi' hj hij b hb => ?_, fun j hj b hb => ?_, fun j hj b hb => ?_, fun b hb => ?_⟩
  · by_cases hm : j < m
    · rw [catT_old hm]; exact (hold j hm).1
    · rw [catT_new hm]
      exact (h1.ox _ (hi j hm hj)).keepF fun b e1 e2 => hb5.block b e1 (by have := (h1.lo _ (hi j hm hj) b e2).1; omega)
  · by_cases hm : j < m
    · rw [catT_old hm, catC_old hm]; exact (hold j hm).2.mono fun b hb => .inl hb
    · rw [catT_new hm, catC_new hm]
      have k := hi j hm hj
      have k' : j - m < M.length := by omega
      have e1 := (h1.s _ k).2.1
      have e2 := (h2.s _ k').2.1
      have e3 := (hs.get _ k' k).D
      rw [show (t (j - m)).D = (t' (j - m)).D by rw [e1, e2, e3]]
      exact (h2.ox _ k').mono fun b hb => .inr ⟨(h2.lo _ k' b hb).1, (h2.lo _ k' b hb).2.1⟩
  · by_cases hm : j < m
    · rw [catT_old hm]; exact h.gd j hm
    · rw [catT_new hm]
      have k := hi j hm hj
      obtain ⟨e0, e1, e2⟩ := h1.s _ k
      have k1 := hg _ (List.getElem_mem k)
      exact ⟨k1.1.same e2, by rw [e1]; exact k1.2⟩
  · by_cases hm : j < m
    · rw [catT_old hm, catC_old hm]; exact h.same j hm
    · rw [catT_new hm, catC_new hm]
      have k := hi j hm hj
      have k' : j - m < M.length := by omega
      exact (h1.s _ k).2.2.symm.trans ((hs.get _ k' k).c.symm.trans (h2.s _ k').2.2)
  · by_cases hm : i < m
    · rw [catT_old hm] at hb
      by_cases hm' : j < m
      · rw [catT_old hm']; exact h.apt i j hm hm' hij b hb
      · rw [catT_new hm']
        intro e
        have := (h1.lo _ (hi j hm' hj) b e).1
        have := (h.lt i hm b hb).2
        omega
    · rw [catT_new hm] at hb
      by_cases hm' : j < m
      · rw [catT_old hm']
        intro e
        have := (h1.lo _ (hi i hm hi') b hb).1
        have := (h.lt j hm' b e).2
        omega
      · rw [catT_new hm']
        exact ha _ _ (hi i hm hi') (hi j hm' hj) (by omega) b hb
  · by_cases hm : j < m
    · rw [catT_old hm] at hb
      rintro (e | e)
      · exact h.far j hm b hb e
      · have := (h.lt j hm b hb).2; omega
    · rw [catT_new hm] at hb
      have k := h1.lo _ (hi j hm hj) b hb
      rintro (e | e)
      · have := (h.lg b e).2; omega
      · omega
  · by_cases hm : j < m
    · rw [catT_old hm] at hb
      have := h.lt j hm b hb
      omega
    · rw [catT_new hm] at hb
      have k := h1.lo _ (hi j hm hj) b hb
      omega
  · rcases hb with e | e
    · have := h.lg b e; omega
    · omega
/-- A list of PDUs in memory of its own. -/
def Rw (W : World) (B m : Nat) (v : Value) (k : Nat → Int) (c : Nat → Fin 18 → Value) : Prop := ∃ xs, W.ownsRow B 46 19 v m xs ∧ ∀ j, j < m → ∀ i u, (Pd (k j) (c j)).toList[i]? = some u → xs[j * 19 + i]? = some u
theorem Rw.nil (W : World) (B : Nat) (k : Nat → Int) (c : Nat → Fin 18 → Value) : Rw W B 0 (.slice none 0 0) k c := ⟨[], World.ownsRow_nil _ _ _ _, fun j h => absurd h (Nat.not_lt_zero _)⟩
theorem Rw.keep {W W' : World} {B m : Nat} {v : Value} {k : Nat → Int} {c : Nat → Fin 18 → Value} (h : Rw W B m v k c) (hk : ∀ b, v.ownBlock = some b → W'.heap[b]? = W.heap[b]?) : Rw W' B m v k c := by
  obtain ⟨xs, h1, h2⟩ := h
  exact ⟨xs, owns_same h1 hk, h2⟩
theorem Rw.congr {W : World} {B m : Nat} {v : Value} {k k' : Nat → Int} {c c' : Nat → Fin 18 → Value} (h : Rw W B m v k c) (he : ∀ j, j < m → k' j = k j ∧ c' j = c j) : Rw W B m v k' c' := by
  obtain ⟨xs, h1, h2⟩ := h
  exact ⟨xs, h1, fun j hj i u hu => h2 j hj i u (by rw [← (he j hj).1, ← (he j hj).2]; exact hu)⟩
theorem Rw.lt {W : World} {B m : Nat} {v : Value} {k : Nat → Int} {c : Nat → Fin 18 → Value} (h : Rw W B m v k c) : ∀ b, v.ownBlock = some b → B ≤ b ∧ b < W.heap.size := by
  obtain ⟨xs, h1, h2⟩ := h
  exact h1.lt
theorem Rw.pl {W : World} {B m : Nat} {v : Value} {k : Nat → Int} {c : Nat → Fin 18 → Value} {F : Nat → Prop} (h : Rw W B m v k c) (hF : ∀ b, v.ownBlock = some b → ¬ F b) : PL W F v m k c := by
  obtain ⟨xs, h1, h2⟩ := h
  rcases h1.2 with ⟨rfl, h0⟩ | ⟨g, cap, cur, rfl, _⟩
  · exact ⟨none, 0, by rw [h0], fun hp => by omega⟩
  · refine ⟨_, cap, rfl, fun _ => ⟨g, rfl, hF g rfl, fun j hj i u hu => ?_⟩⟩
    have h3 := h2 j hj i u hu
    have := (List.getElem?_eq_some_iff.1 h3).1
    rw [h1.cellAt _ (by have := h1.1; omega)]
    exact h3
theorem rw_push {W' : World} {B m : Nat} {v' : Value} {k : Nat → Int} {c : Nat → Fin 18 → Value} {xs : List Value} (hl : xs.length = m * 19) (hc : ∀ j, j < m → ∀ i u, (Pd (k j) (c j)).toList[i]? = some u → xs[j * 19 + i]? = some u) (ho : W'.ownsRow B 46 19 v' (m + 1) (xs ++ (Pd (k m) (c m)).toList)) : Rw W' B (m + 1) v' k c := by
  refine ⟨_, ho, fun j hj i u hu => ?_⟩
  by_cases hjm : j < m
  · have h3 := hc j hjm i u hu
    rw [List.getElem?_append_left (List.getElem?_eq_some_iff.1 h3).1]
    exact h3
  · obtain rfl : j = m := by omega
    rw [List.getElem?_append_right (by omega), show j * 19 + i - xs.length = i by omega]
    exact hu
/-- What stands while what was told is put into the lists. -/
structure In (W5 : World) (B m kt kw : Nat) (K : Nat → Int) (ct cw : Nat → Fin 18 → Value) (tv0 wv0 tv wv : Value) (wr : World) : Prop where
  kf : KF (fun b => tv0.ownBlock = some b ∨ wv0.ownBlock = some b) W5 wr
  t : Rw wr B (m + kt) tv K ct
  w : Rw wr B (m + kw) wv K cw
  tb : ∀ b, tv.ownBlock = some b → tv0.ownBlock = some b ∨ W5.heap.size ≤ b
  wb : ∀ b, wv.ownBlock = some b → wv0.ownBlock = some b ∨ W5.heap.size ≤ b
  ne : ∀ b, tv.ownBlock = some b → wv.ownBlock ≠ some b
theorem In.swap {W5 wr : World} {B m kt kw : Nat} {K : Nat → Int} {ct cw : Nat → Fin 18 → Value} {tv0 wv0 tv wv : Value} (h : In W5 B m kt kw K ct cw tv0 wv0 tv wv wr) : In W5 B m kw kt K cw ct wv0 tv0 wv tv wr :=
  ⟨h.kf.mono fun b hb => hb.symm, h.w, h.t, h.wb, h.tb, fun b e e' => h.ne b e' e⟩
theorem In.push {W5 wr W9 : World} {B m kt kw g9 c9 : Nat} {K : Nat → Int} {ct cw : Nat → Fin 18 → Value} {tv0 wv0 tv wv : Value} {xs : List Value} {o : Obj} (h : In W5 B m kt kw K ct cw tv0 wv0 tv wv wr) (hx : wr.ownsRow B 46 19 tv (m + kt) xs) (hc : ∀ j, j < m + kt → ∀ i u, (Pd (K j) (ct j)).toList[i]? = some u → xs[j * 19 + i]? = some u)
    (ho : W9.ownsRow B 46 19 (.slice (some ⟨g9, 0, none⟩) (m + kt + 1) c9) (m + kt + 1) (xs ++ (Pd (K (m + kt)) (ct (m + kt))).toList)) (hg : (wr.alloc o).grownBy W9 tv.ownBlock) (hd : tv = .slice (some ⟨g9, 0, none⟩) (m + kt) c9 ∨ ((wr.alloc o).heap.size ≤ g9 ∧ ∀ k, k < (wr.alloc o).heap.size → W9.heap[k]? = (wr.alloc o).heap[k]?)) :
    In W5 B m (kt + 1) kw K ct cw tv0 wv0 (.slice (some ⟨g9, 0, none⟩) (m + kt + 1) c9) wv W9 := by
  have hz : (wr.alloc o).heap.size = wr.heap.size + 1 := by simp
  have hs := h.kf.size
  have hgs := hg.size
  have hbl : ∀ b, b < wr.heap.size → tv.ownBlock ≠ some b → W9.heap[b]? = wr.heap[b]? := fun b h1 h2 => (hg.block b (by omega) (fun e => h2 e.symm)).trans (Below.heap_alloc wr o b h1)
  refine ⟨⟨hg.os.trans h.kf.os, hg.tape.trans h.kf.tape, hg.output.trans h.kf.output, by omega, fun b h1 h2 => ?_⟩, rw_push hx.1 hc ho, h.w.keep fun b e => hbl b (h.w.lt b e).2 (fun e2 => h.ne b e2 e), fun b hb => ?_, h.wb, fun b hb => ?_⟩
  · refine (hbl b (by omega) fun e => ?_).trans (h.kf.block b h1 h2)
    rcases h.tb b e with h4 | h4
    · exact h2 (.inl h4)
    · omega
  · obtain rfl : g9 = b := by simpa [Value.ownBlock] using hb
    rcases hd with rfl | ⟨hd, -⟩
    · exact h.tb g9 rfl
    · exact .inr (by omega)
  · obtain rfl : g9 = b := by simpa [Value.ownBlock] using hb
    rcases hd with rfl | ⟨hd, -⟩
    · exact h.ne g9 rfl
    · intro e
      have := (h.w.lt g9 e).2
      omega
/-- What stands behind i events. -/
def LateI (w : World) (a : Int) (p q B i : Nat) (tv wv : Value) (wr : World) : Prop :=
  ∃ m T wc G S S', (Below w.heap.size w wr ∧ m ≤ 2 * i ∧ B ≤ wr.heap.size) ∧ Mach a p q wr S S' ∧ Ls wr q m T wc G ∧ Rw wr B m tv (fun j => (T j).k) (fun j => (T j).c) ∧ Rw wr B m wv (fun j => (T j).k) wc ∧ (∀ b, tv.ownBlock = some b → wv.ownBlock ≠ some b) ∧
    ∀ b, (tv.ownBlock = some b ∨ wv.ownBlock = some b) → ¬ S.K.F b ∧ ¬ S'.K.F b ∧ ¬ G b ∧ ∀ j, j < m → ¬ (T j).F b
/-- All of one event is in the lists. -/
theorem late_end {w W5 wr : World} {a : Int} {p q B i m l : Nat} {T : Nat → KpD} {wc : Nat → Fin 18 → Value} {G : Nat → Prop} {S S' : Prov} {tv0 wv0 tv wv : Value} (hw : Below w.heap.size w W5) (hm : m + l ≤ 2 * (i + 1)) (hB : B ≤ W5.heap.size) (hwB : w.heap.size ≤ B) (hqB : q < B) (hM : Mach a p q W5 S S') (hL : Ls W5 q (m + l) T wc G)
    (h0 : ∀ b, (tv0.ownBlock = some b ∨ wv0.ownBlock = some b) → B ≤ b ∧ ¬ S.K.F b ∧ ¬ S'.K.F b ∧ ¬ G b ∧ ∀ j, j < m + l → ¬ (T j).F b) (h : In W5 B m l l (fun j => (T j).k) (fun j => (T j).c) wc tv0 wv0 tv wv wr) : LateI w a p q B (i + 1) tv wv wr := by
  have hs := h.kf.size
  have hpq := hM.pq
  have hbl : ∀ b, b < W5.heap.size → (b < B ∨ S.K.F b ∨ S'.K.F b ∨ G b ∨ ∃ j, j < m + l ∧ (T j).F b) → wr.heap[b]? = W5.heap[b]? := fun b h1 h2 => h.kf.block b h1 fun e => by
    obtain ⟨e1, e2, e3, e4, e5⟩ := h0 b e
    rcases h2 with h2 | h2 | h2 | h2 | ⟨j, h2, h3⟩
    · omega
    · exact e2 h2
    · exact e3 h2
    · exact e4 h2
    · exact e5 j h2 h3
  refine ⟨m + l, T, wc, G, S, S', ⟨⟨h.kf.os.trans hw.os, h.kf.tape.trans hw.tape, h.kf.output.trans hw.output, Nat.le_trans hw.size hs, fun b hb => (hbl b (by have := hw.size; omega) (.inl (by omega))).trans (hw.block b hb)⟩, hm, by omega⟩, ?_, ?_, h.t, h.w, h.ne, fun b hb => ?_⟩
  · exact hM.keep hs (hbl p hM.pv.lt (.inl (by omega))) (hbl q hM.rv.lt (.inl hqB)) fun b h1 h2 => hbl b h1 (by rcases h2 with h2 | h2; exact .inr (.inl h2); exact .inr (.inr (.inl h2)))
  · exact hL.keep hs fun b h1 h2 => hbl b h1 (by rcases h2 with h2 | h2; exact .inr (.inr (.inr (.inl h2))); exact .inr (.inr (.inr (.inr h2))))
  · have hnew : W5.heap.size ≤ b → ¬ S.K.F b ∧ ¬ S'.K.F b ∧ ¬ G b ∧ ∀ j, j < m + l → ¬ (T j).F b := fun hb => ⟨fun e => by have := (hM.lo b e).2; omega, fun e => by have := (hM.lo' b e).2; omega, fun e => by have := (hL.lg b e).2; omega, fun j hj e => by have := (hL.lt j hj b e).2; omega⟩
    rcases hb with e | e
    · rcases h.tb b e with e2 | e2
      · exact (h0 b (.inl e2)).2
      · exact hnew e2
    · rcases h.wb b e with e2 | e2
      · exact (h0 b (.inr e2)).2
      · exact hnew e2
end Go.Proofs.YtiieikdbhpflgabDoor
