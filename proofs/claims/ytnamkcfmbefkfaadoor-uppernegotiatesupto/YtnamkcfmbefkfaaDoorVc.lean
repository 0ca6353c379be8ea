import Derived.Test.YtnamkcfmbefkfaaDoorVb
import Derived.Test.YtnamkcfmbefkfaaDoorXu
namespace Go.Proofs.YtnamkcfmbefkfaaDoor
open Go Go.Proofs Go.RowKit
def OwnW (W : World) (B : Nat) (e : TypeId) (s : Nat) (v : Value) (n : Nat) : Prop := ∃ xs, W.ownsRow B e s v n xs
theorem OwnW.set {W : World} {B s n : Nat} {e : TypeId} {v : Value} (h : OwnW W B e s v n) (g o : Nat) (u : Value) : OwnW (W.setCell ⟨g, o, none⟩ u) B e s v n := by
  obtain ⟨xs, h⟩ := h
  by_cases hg : v.ownBlock = some g
  · rcases h.2 with ⟨rfl, _⟩ | ⟨g', cap, cur, rfl, _⟩
    · cases hg
    · obtain rfl : g' = g := by simpa [Value.ownBlock] using hg
      exact ⟨_, (h.stored o u).1⟩
  · exact ⟨xs, owns_same h fun b hb => Below.heap_setCell _ _ _ _ (fun e => hg (by rw [hb, e]))⟩
theorem OwnW.same {W W' : World} {B s n : Nat} {e : TypeId} {v : Value} (h : OwnW W B e s v n) (hk : ∀ b, v.ownBlock = some b → W'.heap[b]? = W.heap[b]?) : OwnW W' B e s v n := by
  obtain ⟨xs, h⟩ := h
  exact ⟨xs, owns_same h hk⟩
theorem OwnW.at {W : World} {B s n g m cap : Nat} {e : TypeId} (h : OwnW W B e s (.slice (some ⟨g, 0, none⟩) m cap) n) (j : Nat) (hj : j < n * s) : (∃ y, W.cell? ⟨g, j, none⟩ = some y) ∧ W.frozen? ⟨g, j, none⟩ = false := by
  obtain ⟨xs, h⟩ := h
  obtain ⟨a, p, e'⟩ := owns_slice h
  obtain ⟨-, rfl, -⟩ : some (⟨g, 0, none⟩ : Addr) = a ∧ m = n ∧ cap = p := by simpa using e'
  refine ⟨?_, h.frozenAt j⟩
  rw [h.cellAt j hj]
  exact ⟨_, List.getElem?_eq_getElem (by rw [h.1]; exact hj)⟩
theorem OwnW.form {W : World} {B s n : Nat} {e : TypeId} {v : Value} (h : OwnW W B e s v n) (hn : 0 < n) : ∃ g cap, v = .slice (some ⟨g, 0, none⟩) n cap ∧ B ≤ g ∧ g < W.heap.size := by
  obtain ⟨xs, h⟩ := h
  exact h.form hn
structure KF (F : Nat → Prop) (W0 W : World) : Prop where
  os : W.os = W0.os
  tape : W.tape = W0.tape
  output : W.output = W0.output
  size : W0.heap.size ≤ W.heap.size
  block : ∀ k, k < W0.heap.size → ¬ F k → W.heap[k]? = W0.heap[k]?
theorem KF.refl (F : Nat → Prop) (W : World) : KF F W W := ⟨rfl, rfl, rfl, Nat.le_refl _, fun _ _ _ => rfl⟩
theorem KF.of {F : Nat → Prop} {W W' : World} (h : Below W.heap.size W W') : KF F W W' := ⟨h.os, h.tape, h.output, h.size, fun k hk _ => h.block k hk⟩
theorem KF.trans {F : Nat → Prop} {W W' W'' : World} (h : KF F W W') (h2 : KF F W' W'') : KF F W W'' :=
  ⟨h2.os.trans h.os, h2.tape.trans h.tape, h2.output.trans h.output, Nat.le_trans h.size h2.size, fun k hk hf => (h2.block k (Nat.lt_of_lt_of_le hk h.size) hf).trans (h.block k hk hf)⟩
theorem KF.mono {F G : Nat → Prop} {W W' : World} (h : KF F W W') (hg : ∀ b, F b → G b) : KF G W W' := ⟨h.os, h.tape, h.output, h.size, fun k hk hf => h.block k hk fun x => hf (hg k x)⟩
theorem KF.set {F : Nat → Prop} {W W' : World} (h : KF F W W') {g : Nat} (hg : F g ∨ W.heap.size ≤ g) (o : Nat) (u : Value) : KF F W (W'.setCell ⟨g, o, none⟩ u) :=
  ⟨h.os, h.tape, h.output, by simpa using h.size, fun k hk hf => (Below.heap_setCell _ _ _ _ (by rintro rfl; rcases hg with hg | hg; exact hf hg; omega)).trans (h.block k hk hf)⟩
structure BY (base : Nat) (W : World) (c : Fin 18 → Value) (D : PdD) (us : Nat → Value) (cs : Nat → List Nat) : Prop where
  v : ∀ i, i < D.vl.length → ∃ g cap, c 17 = .slice (some ⟨g, 0, none⟩) D.vl.length cap ∧ W.cell? ⟨g, i * 4 + 3, none⟩ = some (us i)
  o : ∀ i, i < D.ot.length → ∃ g cap, c 13 = .slice (some ⟨g, 0, none⟩) D.ot.length cap ∧ W.cell? ⟨g, i * 2 + 1, none⟩ = some (us (D.vl.length + i))
  own : ∀ i, i < D.vl.length + D.ot.length → Own W base (us i) (cs i)
  sm : ∀ i, i < D.vl.length + D.ot.length → (cs i).length ≤ 1048576
  ap : ∀ i j, i < D.vl.length + D.ot.length → j < D.vl.length + D.ot.length → i ≠ j → ∀ g, (us i).ownBlock = some g → (us j).ownBlock ≠ some g
theorem pick_by {base st : Nat} {W : World} {rv : Value} {xs : List Value} {ps : List El} (hg : GE base W rv xs ps st) (hS : ∀ p ∈ ps, p.fl.length + 1 = st ∧ ∃ bs, p.inn = .by bs) (hI : ∀ p ∈ ps, InnS p.inn) :
    ∃ f : Nat → Value × List Nat, ∀ i, i < ps.length → xs[i * st + (st - 1)]? = some (f i).1 ∧ Own W base (f i).1 (f i).2 ∧ (f i).2.length ≤ 1048576 := by
  have h : ∀ i, ∃ p : Value × List Nat, i < ps.length → xs[i * st + (st - 1)]? = some p.1 ∧ Own W base p.1 p.2 ∧ p.2.length ≤ 1048576 := fun i => by
    by_cases hi : i < ps.length
    · obtain ⟨vs, h1, h2⟩ := hg i hi
      obtain ⟨hl, bs, hb⟩ := hS _ (List.getElem_mem hi)
      have h4 := hI _ (List.getElem_mem hi)
      rw [hb] at h2 h4
      obtain ⟨u, rfl, hO, -, -⟩ := h2
      have h3 := h1 (st - 1) u (by rw [List.getElem?_append_right (by omega), show st - 1 - ps[i].fl.length = 0 by omega]; rfl)
      exact ⟨(u, bs), fun _ => ⟨h3, hO, h4⟩⟩
    · exact ⟨(.bool false, []), fun h => absurd h hi⟩
  obtain ⟨f, hf⟩ := Classical.axiomOfChoice h
  exact ⟨f, hf⟩
theorem by_of {base : Nat} {W : World} {c : Fin 18 → Value} {D : PdD} (h : OX base W c D) (hs : Sml D) : ∃ us cs, BY base W c D us cs := by
  obtain ⟨xs, hx1, hx2, hx3⟩ := h.val.1
  obtain ⟨ys, hy1, hy2, hy3⟩ := h.oth.1
  obtain ⟨m0, m, M, ⟨ys', k1, k2, k3⟩, ⟨xs', j1, j2, j3⟩⟩ := h.dj
  obtain rfl := own_uniq hx1 j1
  obtain rfl := own_uniq hy1 k1
  obtain ⟨f, hf⟩ := pick_by hx2 (fun p hp => shV_s (hx3 p hp)) hs.vl.2
  obtain ⟨f', hf'⟩ := pick_by hy2 (fun p hp => shO_s (hy3 p hp)) hs.ot.2
  obtain ⟨nv, hnv⟩ : ∃ n, D.vl.length = n := ⟨_, rfl⟩
  obtain ⟨no, hno⟩ : ∃ n, D.ot.length = n := ⟨_, rfl⟩
  have e1 : ∀ i, i < nv → (if i < nv then (f i).1 else (f' (i - nv)).1) = (f i).1 := fun i hi => if_pos hi
  have e2 : ∀ i, ¬ i < nv → (if i < nv then (f i).1 else (f' (i - nv)).1) = (f' (i - nv)).1 := fun i hi => if_neg hi
  refine ⟨fun i => if i < nv then (f i).1 else (f' (i - nv)).1, fun i => if i < nv then (f i).2 else (f' (i - nv)).2, ?_, ?_, ?_, ?_, ?_⟩
  · intro i hi
    obtain ⟨g, cap, e, -, -⟩ := hx1.form (by omega)
    refine ⟨g, cap, e, ?_⟩
    rw [e] at hx1
    rw [hx1.cellAt _ (by omega)]
    show _ = some (if i < nv then (f i).1 else _)
    rw [e1 i (by omega)]
    exact (hf i hi).1
  · intro i hi
    obtain ⟨g, cap, e, -, -⟩ := hy1.form (by omega)
    refine ⟨g, cap, e, ?_⟩
    rw [e] at hy1
    rw [hy1.cellAt _ (by omega)]
    show _ = some (if D.vl.length + i < nv then _ else (f' (D.vl.length + i - nv)).1)
    rw [if_neg (by omega), show D.vl.length + i - nv = i by omega]
    exact (hf' i hi).1
  · intro i hi
    show Own W base (if i < nv then (f i).1 else (f' (i - nv)).1) (if i < nv then (f i).2 else (f' (i - nv)).2)
    by_cases h1 : i < nv
    · rw [if_pos h1, if_pos h1]; exact (hf i (by omega)).2.1
    · rw [if_neg h1, if_neg h1]; exact (hf' _ (by omega)).2.1
  · intro i hi
    show (if i < nv then (f i).2 else (f' (i - nv)).2).length ≤ 1048576
    by_cases h1 : i < nv
    · rw [if_pos h1]; exact (hf i (by omega)).2.2
    · rw [if_neg h1]; exact (hf' _ (by omega)).2.2
  · intro i j hi hj hij g
    show (if i < nv then (f i).1 else (f' (i - nv)).1).ownBlock = some g → (if j < nv then (f j).1 else (f' (j - nv)).1).ownBlock ≠ some g
    by_cases h1 : i < nv
    · rw [if_pos h1]
      have q1 := (hf i (by omega)).1
      by_cases h2 : j < nv
      · rw [if_pos h2]
        have q2 := (hf j (by omega)).1
        rcases Nat.lt_or_ge i j with h3 | h3
        · exact fun e => j2 i j _ _ g h3 (by omega) q1 q2 e
        · exact fun e e' => j2 j i _ _ g (by omega) (by omega) q2 q1 e' e
      · rw [if_neg h2]
        have q2 := (hf' (j - nv) (by omega)).1
        intro e e'
        have := (j3 i _ g (by omega) q1 e).1
        have := (k3 (j - nv) _ g (by omega) q2 e').2
        omega
    · rw [if_neg h1]
      have q1 := (hf' (i - nv) (by omega)).1
      by_cases h2 : j < nv
      · rw [if_pos h2]
        have q2 := (hf j (by omega)).1
        intro e e'
        have := (j3 j _ g (by omega) q2 e').1
        have := (k3 (i - nv) _ g (by omega) q1 e).2
        omega
      · rw [if_neg h2]
        have q2 := (hf' (j - nv) (by omega)).1
        rcases Nat.lt_or_ge i j with h3 | h3
        · exact fun e => k2 (i - nv) (j - nv) _ _ g (by omega) (by omega) q1 q2 e
        · exact fun e e' => k2 (j - nv) (i - nv) _ _ g (by omega) (by omega) q2 q1 e' e
def L12 (W1 : World) (us : Nat → Value) (i : Nat) (l : Value) (wr : World) : Prop := Below W1.heap.size W1 wr ∧ wr.ownsRow W1.heap.size 55 1 l i ((List.range i).map us) ∧ (i = 0 → l = .slice none 0 0)
theorem L12.nil (W1 : World) (us : Nat → Value) : L12 W1 us 0 (.slice none 0 0) W1 := ⟨Below.refl _ _, World.ownsRow_nil _ _ _ _, fun _ => rfl⟩
theorem L12.step {W1 wr W9 : World} {us : Nat → Value} {i g9 c9 : Nat} {l u : Value} {o : Obj} (h : L12 W1 us i l wr) (hu : us i = u) (ho9 : W9.ownsRow W1.heap.size 55 1 (.slice (some ⟨g9, 0, none⟩) (i + 1) c9) (i + 1) ((List.range i).map us ++ [u])) (hg9 : (wr.alloc o).grownBy W9 l.ownBlock) : L12 W1 us (i + 1) (.slice (some ⟨g9, 0, none⟩) (i + 1) c9) W9 := by
  have hs := h.1.size
  refine ⟨(h.1.alloc hs _).grown hg9 (by simp; omega) (fun j hj => (h.2.1.lt j hj).1), ?_, fun h => by omega⟩
  rw [List.range_succ, List.map_append]
  show W9.ownsRow _ _ _ _ _ (_ ++ [us i])
  rw [hu]
  exact ho9
theorem free_l12 {base : Nat} {W1 wr : World} {us : Nat → Value} {cs : Nat → List Nat} {n : Nat} {l : Value} (hB : ∀ i, i < n → Own W1 base (us i) (cs i)) (hsm : ∀ i, i < n → (cs i).length ≤ 1048576) (hap : ∀ i j, i < n → j < n → i ≠ j → ∀ g, (us i).ownBlock = some g → (us j).ownBlock ≠ some g) (h : L12 W1 us n l wr) (hn : n ≤ 4398046511104) (hb : base ≤ W1.heap.size) :
    Calls Tryd.prog 22 #[l] wr fun e w' => e = .returned (.bool true) ∧ Fr.KR n us wr w' := by
  obtain ⟨hbl, ho, h0⟩ := h
  by_cases hz : n = 0
  · rw [h0 hz]
    refine (Fr.free_nil wr).mono ?_
    rintro e w' ⟨rfl, hb⟩
    exact ⟨rfl, hb.os, hb.tape, hb.output, hb.size, fun k hk _ => hb.block k hk⟩
  · obtain ⟨G, cap, rfl, hG, hGl⟩ := ho.form (by omega)
    have hs := hbl.size
    refine Fr.free_any wr n G base cap us (fun i => (cs i).length) cs ⟨hn, fun i hi => ?_, fun i hi => ?_, hap, fun i hi e => ?_⟩ ⟨fun i hi => ?_, fun i hi => ?_, Fr.KR.refl _ _ _⟩ (fun _ _ => rfl) (by omega)
    · have hO := (hB i hi).1
      rcases hO.2 with ⟨e, e0⟩ | ⟨g, cap, cur, e, _⟩
      · exact ⟨none, 0, by rw [e, e0], fun h => by omega⟩
      · exact ⟨_, cap, e, fun _ => ⟨g, rfl⟩⟩
    · exact Nat.le_trans (hsm i hi) (by decide)
    · have := ((hB i hi).1.lt G e).2
      omega
    · rw [ho.cellAt i (by omega), List.getElem?_map, List.getElem?_range hi]; rfl
    · exact owns_same (hB i hi).1 (fun b e => hbl.block b ((hB i hi).1.lt b e).2)
end Go.Proofs.YtnamkcfmbefkfaaDoor
