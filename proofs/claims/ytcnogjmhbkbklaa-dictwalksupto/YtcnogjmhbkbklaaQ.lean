import Derived.Test.YtcnogjmhbkbklaaP
/-
  DERIVED. What must stay while a list's places are written over.
-/
namespace Go.Proofs.Ytcnogjmhbkbklaa
open Go Go.Proofs Go.RowKit

structure Rst (W1 w : World) (G bz bb : Nat) (vz vb : Value) (usZ usB : List Value) (all : List (List Nd)) (wx : World) : Prop where
  z : wx.ownsRow bz 22 1 vz usZ.length usZ
  b : LSt bb wx vb usB all
  c : Below (G + 1) W1 wx
  g : Below G w wx
section
variable {W1 w wx wy : World} {G bz bb : Nat} {vz vb : Value} {usZ usB : List Value} {all : List (List Nd)}
theorem Rst.on (h : Rst W1 w G bz bb vz vb usZ usB all wx) (hb : Below wx.heap.size wx wy) (hG : G + 1 ≤ wx.heap.size) : Rst W1 w G bz bb vz vb usZ usB all wy :=
  ⟨ownsRow_below h.z hb (Nat.le_refl _), h.b.on hb, h.c.trans (hb.mono hG), h.g.trans (hb.mono (by omega))⟩
/-- Another row is written or grown. -/
theorem Rst.other {ba n : Nat} {va : Value} {xs : List Value} (h : Rst W1 w G bz bb vz vb usZ usB all wx) (ha : wx.ownsRow ba 22 1 va n xs) (hG : G + 1 ≤ wx.heap.size) (hGa : ∀ g, va.ownBlock = some g → G + 1 ≤ g) (hz : ∀ g, vz.ownBlock = some g → va.ownBlock ≠ some g) (hb : ∀ g, vb.ownBlock = some g → va.ownBlock ≠ some g) (hg : wx.grownBy wy va.ownBlock) : Rst W1 w G bz bb vz vb usZ usB all wy := by
  refine ⟨own_grown h.z hg (fun k e => hz k e), h.b.keep (fun g e => hg.block g (h.b.row.lt g e).2 (fun q => hb g e q.symm)) (fun k u hu g e => hg.block g (h.b.lt hu e).2 (fun q => ?_)), h.c.grown hg hG (fun k e => hGa k e), h.g.grown hg (by omega) (fun k e => by have := hGa k e; omega)⟩
  have hk := (List.getElem?_eq_some_iff.1 hu).1
  have hkl : k < all.length := by rw [← h.b.len]; exact hk
  exact own_apart (h.b.each k u _ hu (List.getElem?_eq_getElem hkl)) ha (by decide) g e q.symm
end

/-- Nodes of our own, to be handed in. -/
theorem own_nv {w : World} {base : Nat} {v : Value} {n : Nat} {Q : List Nd} (h : w.ownsRow base 34 4 v n (nds Q)) (hn : n = Q.length) (hs : n ≤ 1048576) (hz : ∀ x ∈ Q, -9223372036854775808 ≤ x.n ∧ x.n ≤ 9223372036854775807) : ∃ a c, v = .slice a n c ∧ NV w a n c Q ∧ (0 < n → ∃ g, a = some ⟨g, 0, none⟩ ∧ base ≤ g) := by
  rcases h.2 with ⟨hv, h0⟩ | ⟨g, c, cur, hv, hb, -⟩
  · exact ⟨none, 0, by rw [hv, h0], ⟨hn, by omega, hs, fun q => by omega, hz⟩, fun q => by omega⟩
  · subst hv
    refine ⟨_, c, rfl, ⟨hn, own_cap h, hs, fun _ => ⟨g, 0, rfl, fun i hi => ?_⟩, hz⟩, fun _ => ⟨g, rfl, hb⟩⟩
    have hg : ∀ j, j < 4 → w.cell? ⟨g, 0 + i * 4 + j, none⟩ = ((Q[i]'hi).cs)[j]? := fun j hj => by
      rw [Nat.zero_add]
      exact (h.cellAt (i * 4 + j) (by omega)).trans (nds_get Q i hi j hj)
    exact ⟨hg 0 (by decide), hg 1 (by decide), hg 2 (by decide), hg 3 (by decide)⟩
theorem Sh.num {L Q : List Nd} (h : Sh L Q) (hz : ∀ x ∈ L, -9223372036854775808 ≤ x.n ∧ x.n ≤ 9223372036854775807) : ∀ x ∈ Q, -9223372036854775808 ≤ x.n ∧ x.n ≤ 9223372036854775807 := by
  intro x hx
  obtain ⟨j, hj, rfl⟩ := List.mem_iff_getElem.1 hx
  have hj' : j < L.length := by rw [← h.1]; exact hj
  rw [(h.2 j hj' hj).2.2]
  exact hz _ (List.getElem_mem hj')
theorem LSt.ko {base g : Nat} {w w' : World} {v : Value} {us : List Value} {LL : List (List Nd)} (h : LSt base w v us LL) (hk : KO g w w') (hg : g < base) : LSt base w' v us LL :=
  h.keep (fun q e => hk.block q (h.row.lt q e).2 (by have := (h.row.lt q e).1; omega)) (fun k u hu q e => hk.block q (h.lt hu e).2 (by have := (h.lt hu e).1; omega))
theorem nds_setN : ∀ (L : List Nd) (i : Nat) (h : i < L.length) (z : Int), (nds L).set (i * 4 + 2) (.int .i64 z) = nds (L.set i { (L[i]'h) with n := z })
  | a :: L, 0, h, q => by
    simp [nds, Nd.cs]
  | a :: L, i + 1, h, q => by
    have ih := nds_setN L i (by simpa using h) q
    rw [List.set_cons_succ, show nds (a :: L) = a.cs ++ nds L from rfl, show ∀ M, nds (a :: M) = a.cs ++ nds M from fun _ => rfl]
    rw [List.set_append_right _ _ (by simp [Nd.cs]; omega), show (i + 1) * 4 + 2 - a.cs.length = i * 4 + 2 by simp [Nd.cs]; omega, ih]
    rfl
theorem Lent.setN {g base : Nat} {L : List Nd} {w : World} (h : Lent g L base w) {i : Nat} (hi : i < L.length) (z : Int) : Lent g (L.set i { (L[i]'hi) with n := z }) base (w.setCell ⟨g, i * 4 + 2, none⟩ (.int .i64 z)) := by
  have h1 := (World.ownsRow.stored h (i * 4 + 2) (.int .i64 z)).1
  rw [nds_setN (L ++ [mrk]) i (by simp; omega) z, List.getElem_append_left hi, List.set_append_left _ _ hi] at h1
  unfold Lent
  rw [List.length_set]
  exact h1
end Go.Proofs.Ytcnogjmhbkbklaa
