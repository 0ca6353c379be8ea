
import Derived.Test.YtegfgbcimlacbaaGreatDoorTf
import Derived.Lib.AppendStr
/-
  DERIVED. A rune put behind what is written, in another repertoire than the one that holds; in the universal one.
-/
namespace Go.Proofs.YtegfgbcimlacbaaGreatDoor
open Go Go.Proofs Go.RowKit

/-- At a step of a region that draws its order: a text appended to bytes of our own. -/
theorem step_append_string {P : Program} (w : World) {ops : Array Oper} {o : Oper} {a : Act} {K : Act → World → Prop} {Q : Exit → Act → World → Prop} {E : Prop} (hgd : o.guard = none) (sl x : Operand) (t u : TypeId)
    (ho : o.op = .call { callee := .builtin .append, args := #[sl, x], argTypes := #[t, u] })
    (base : Nat) (e : TypeId) (i : TypeInfo) (ht : P.underlying t = some (.slice e)) (hu : P.underlying u = some .string) (hi : P.info? e = some i) (hz : i.zero = some (.int .u8 0))
    (hsize : i.size = 1) (hby : i.bytes = 1)
    (v : Value) (n : Nat) (xs : List Value) (hs : a.eval sl = v) (hown : w.ownsRow base e 1 v n xs) (s : ByteArray) (hx : a.eval x = .string s)
    (h63 : n + s.size ≤ maxLen) (hbytes : n + s.size ≤ 140737488355328) (hbase : base ≤ w.heap.size)
    (h : ∀ v' w', w'.ownsRow base e 1 v' (n + s.size) (xs ++ Lib.strCells s) → w.grownBy w' v.ownBlock → K (a.put o.dst v') w') :
    if Region.wanted o (yielded ops a.tmps) = true then Oper.wp P o a w K Q else E := by
  have hw : Region.wanted o (yielded ops a.tmps) = true := by simp [Region.wanted, hgd]
  rw [if_pos hw]
  obtain ⟨v', w', hr, h2, h3, _⟩ := Lib.run_append_own_string (P := P) w base t u o.type e i ht hu hi hz hsize hby v n xs hown s h63 hbytes hbase
  unfold Oper.wp execOp
  simp only [ho, resolve, invoke, builtin, Sem.run_bind, Sem.run_pure, Result.andThen_ok, List.map_toArray, List.map_cons, List.map_nil, hs, hx, hr]
  exact h v' w' h2 h3

/-- Between two operations: the result's row is empty still, the row that was found lies there. -/
structure PW (w : World) (base q : Nat) (v : Value) (a : Row) (R : List Row) (x : Bool) (P1 P2 : Nat) (b : Row) (X : World) : Prop where
  c0 : X.cell? ⟨P1, 0, none⟩ = some (.int .i64 0)
  c1 : X.cell? ⟨P1, 1, none⟩ = some (.string ⟨#[]⟩)
  c2 : X.cell? ⟨P1, 2, none⟩ = some (.string ⟨#[]⟩)
  c3 : X.cell? ⟨P1, 3, none⟩ = some .nilFunc
  c4 : X.cell? ⟨P1, 4, none⟩ = some .nilFunc
  f : ∀ i, X.frozen? ⟨P1, i, none⟩ = false
  r : Row5 X P2 0 b
  st : SetIn X q v (a :: R) x
  kb : KB (a :: R) base w X
  bs : base ≤ X.heap.size

section
variable {w : World} {base q : Nat} {v : Value} {a : Row} {R : List Row} {x : Bool} {P1 P2 : Nat} {b : Row} {X Y : World}
theorem PW.same (i : PW w base q v a R x P1 P2 b X) (e1 : Y.heap[P1]? = X.heap[P1]?) (e2 : Y.heap[P2]? = X.heap[P2]?) (hs : SetIn Y q v (a :: R) x) (hk : KB (a :: R) base X Y) : PW w base q v a R x P1 P2 b Y :=
  ⟨(World.cell?_of_block e1).trans i.c0, (World.cell?_of_block e1).trans i.c1, (World.cell?_of_block e1).trans i.c2, (World.cell?_of_block e1).trans i.c3, (World.cell?_of_block e1).trans i.c4, fun j => (World.frozen?_of_block e1).trans (i.f j), row5_same i.r e2, hs, i.kb.trans hk, Nat.le_trans i.bs hk.size⟩
theorem PW.below (i : PW w base q v a R x P1 P2 b X) (hb : Below X.heap.size X Y) : PW w base q v a R x P1 P2 b Y :=
  i.same (hb.block _ (cell_lt i.c0)) (hb.block _ (cell_lt i.r.c0)) (i.st.on hb) (KB.of_below (hb.mono i.bs))
theorem own_ne {u : Value} {out : List Int} {P : Nat} {z : Int} (hown : X.ownsRow base 5 1 u out.length (cellsZ out)) (hne : u = .slice none 0 0 ∨ 0 < out.length) (hc : X.cell? ⟨P, 0, none⟩ = some (.int .i64 z)) : some P ≠ u.ownBlock := by
  rcases hown.2 with ⟨rfl, h0⟩ | ⟨g, cap, cur, rfl, hb, hh, hcc, _⟩
  · simp [Value.ownBlock]
  · by_cases h0 : 0 < out.length
    · intro e
      simp [Value.ownBlock] at e
      subst e
      rw [hown.cellAt 0 (by omega)] at hc
      unfold cellsZ at hc
      rw [List.getElem?_map, List.getElem?_eq_getElem h0] at hc
      cases hc
    · rcases hne with he | he
      · cases he
      · exact absurd he h0
theorem PW.grown (i : PW w base q v a R x P1 P2 b X) {u : Value} {out : List Int} (hown : X.ownsRow base 5 1 u out.length (cellsZ out)) (hne : u = .slice none 0 0 ∨ 0 < out.length) (hg : X.grownBy Y u.ownBlock) : PW w base q v a R x P1 P2 b Y :=
  i.same (hg.block _ (cell_lt i.c0) (own_ne hown hne i.c0)) (hg.block _ (cell_lt i.r.c0) (own_ne hown hne i.r.c0)) (i.st.grown (by simp) hown hne hg) (KB.of_grown hg i.bs (fun r e => (World.ownsRow.lt hown r e).1))
end

theorem strZ (s : ByteArray) : Lib.strCells s = cellsZ (s.data.toList.map fun b => (b.toNat : Int)) := by
  simp [Lib.strCells, cellsZ]
end Go.Proofs.YtegfgbcimlacbaaGreatDoor
