import Derived.Test.YtngmleddlfkecaaDoorW
namespace Go.Proofs.YtngmleddlfkecaaDoor
open Go Go.Proofs Go.RowKit

/-- One body more, behind the call that made it. -/
theorem push_all {wr W2 : World} {B k cp m p1 : Nat} {ao a1 : Option Addr} {cells : List Value} {bss : List (List Nat)} {body : List Nat} (hbl : bss.length = k)
    (hown : wr.ownsRow B 22 1 (.slice ao k cp) k cells) (hI : ∀ i, i < bss.length → Own wr B (cells.getD i undef) (bss.getD i [])) (hB : B ≤ wr.heap.size)
    (hb2 : Below wr.heap.size wr W2) (hO : Own W2 wr.heap.size (.slice a1 m p1) body) :
    W2.ownsRow B 22 1 (.slice ao k cp) k cells ∧ B ≤ W2.heap.size ∧
    ∀ w4 v2, w4.ownsRow B 22 1 v2 (k + 1) (cells ++ [.slice a1 m p1]) → (W2.alloc (.cells #[.slice a1 m p1] 22)).grownBy w4 (Value.slice ao k cp).ownBlock →
      (∃ a3 p3 cells3, v2 = .slice a3 (k + 1) p3 ∧ w4.ownsRow B 22 1 (.slice a3 (k + 1) p3) (k + 1) cells3 ∧ ∀ i, i < (bss ++ [body]).length → Own w4 B (cells3.getD i undef) ((bss ++ [body]).getD i [])) ∧ Below B wr w4 ∧ B ≤ w4.heap.size := by
  have ho2 : W2.ownsRow B 22 1 (.slice ao k cp) k cells := owns_next hown hb2
  have hs2 : B ≤ W2.heap.size := Nat.le_trans hB hb2.size
  refine ⟨ho2, hs2, ?_⟩
  intro w4 v2 ho4 hg4
  have ha : Below W2.heap.size W2 (W2.alloc (.cells #[.slice a1 m p1] 22)) := (Below.refl _ _).alloc (Nat.le_refl _) _
  have hb3 : Below B wr (W2.alloc (.cells #[.slice a1 m p1] 22)) := (hb2.mono hB).alloc hs2 _
  have hb4 : Below B wr w4 := hb3.grown hg4 (by simp; omega) (fun j hj => (ho2.lt j hj).1)
  have hVV : VV w4 B v2 (bss ++ [body]) := VV.push (w := wr) (w1 := W2.alloc (.cells #[.slice a1 m p1] 22)) (cells := cells) (v := .slice ao k cp) (v1 := .slice a1 m p1) (by rw [hbl]; exact hown) hI (hb2.trans (ha.mono hb2.size)) ((hO.base hB).next ha) (by rw [hbl]; exact ho2.alloc _) (by rw [hbl]; exact ho4) hg4
  obtain ⟨cells3, h1, h2⟩ := hVV
  rw [List.length_append, hbl] at h1
  refine ⟨?_, hb4, Nat.le_trans hB hb4.size⟩
  have hsh : ∃ a3 p3, v2 = .slice a3 (k + 1) p3 := by
    rcases h1.2 with ⟨rfl, h0⟩ | ⟨g, p, cur, rfl, _⟩
    · exact ⟨none, 0, by rw [← h0]; rfl⟩
    · exact ⟨_, _, rfl⟩
  obtain ⟨a3, p3, rfl⟩ := hsh
  exact ⟨a3, p3, cells3, rfl, h1, h2⟩

/-- Blocks between two numbers are as they were. -/
def Same (B U : Nat) (w w' : World) : Prop := ∀ g, B ≤ g → g < U → w'.heap[g]? = w.heap[g]?

theorem Same.refl (B U : Nat) (w : World) : Same B U w w := fun _ _ _ => rfl
theorem Same.below {B U : Nat} {w w1 w2 : World} (h : Same B U w w1) (hb : Below U w1 w2) : Same B U w w2 := fun g h1 h2 => (hb.block g h2).trans (h g h1 h2)
theorem Same.set {B U g i : Nat} {w w1 : World} (h : Same B U w w1) (hg : g < B) (v : Value) : Same B U w (w1.setCell ⟨g, i, none⟩ v) := fun j h1 h2 => (Below.heap_setCell w1 ⟨g, i, none⟩ v j (by simp; omega)).trans (h j h1 h2)

theorem owns_same {w w' : World} {B U n : Nat} {e : TypeId} {v : Value} {xs : List Value} (h : w.ownsRow B e 1 v n xs) (hU : w.heap.size ≤ U) (hb : Same B U w w') : w'.ownsRow B e 1 v n xs := by
  refine ⟨h.1, ?_⟩
  rcases h.2 with h2 | ⟨g, cap, cur, rfl, h1, h2, h3⟩
  · exact .inl h2
  · exact .inr ⟨g, cap, cur, rfl, h1, by rw [hb g h1 (Nat.lt_of_lt_of_le (Array.getElem?_eq_some_iff.1 h2).1 hU)]; exact h2, h3⟩

theorem VV.same {w w' : World} {B U : Nat} {v : Value} {bss : List (List Nat)} (h : VV w B v bss) (hU : w.heap.size ≤ U) (hb : Same B U w w') : VV w' B v bss := by
  obtain ⟨cells, h1, h2⟩ := h
  exact ⟨cells, owns_same h1 hU hb, fun i hi => ⟨owns_same (h2 i hi).1 hU hb, (h2 i hi).2⟩⟩

theorem none_any (w : World) : Calls Tryd.prog 35 #[] w fun e w' => e = .returned (.agg #[.slice none 0 0, .int .i64 0]) ∧ Below w.heap.size w w' := by
  go_enter Tryd.func35, Tryd.ntmps35
  go_wp2
  exact bodyPost_ret (v := .agg #[.slice none 0 0, .int .i64 0]) (by simp [results, Tryd.results35, go_sem]) rfl ⟨rfl, (Below.refl _ _).alloc (Nat.le_refl _) _⟩

/-- What the document's framed is asked with behind so many bytes: no. -/
theorem framed_at_no {wr : World} {b off l cap : Nat} {d : List Nat} {k x : Nat} (h : At wr b off d) (hlen : d.length = l) (hc : l ≤ cap) (hl : l ≤ 400000) (hx : x ≤ l) (hk : k < 4294967296) (hF : frameP (d.drop x) k = false) (ad : Addr) (had : ad = if cap = x then ⟨b, off, none⟩ else ⟨b, off + x, none⟩) :
    Calls Tryd.prog 34 #[.int .u32 (k : Int), .slice (some ad) (l - x) (cap - x)] wr fun e w' => e = .returned (.tuple #[.slice none 0 0, .int .i64 0]) ∧ ∃ m, w' = wr.drewN m := by
  have hv : V wr (.slice (some ad) (l - x) (cap - x)) (d.drop x) := by
    rw [had]
    by_cases hcx : cap = x
    · rw [if_pos hcx]
      have e : l - x = 0 := by omega
      rw [e, List.drop_eq_nil_of_le (by omega)]
      exact .inl ⟨_, _, rfl, rfl⟩
    · rw [if_neg hcx]
      exact V.mk (h.drop x) (by rw [List.length_drop, hlen]) (by omega)
  exact framed_no hv (by rw [List.length_drop, hlen]; omega) hk hF

/-- What the six stores of a scan leave. -/
theorem yes_stores {W : World} {g0 g1 : Nat} {x0 x1 x2 x3 : Value} (hr : Rc W g0) (hf : Fc W g1) (h01 : g0 ≠ g1) :
    let U := (((((W.setCell ⟨g0, 0, none⟩ x0).setCell ⟨g0, 1, none⟩ x1).setCell ⟨g0, 2, none⟩ x2).setCell ⟨g0, 3, none⟩ x3).setCell ⟨g1, 0, none⟩ (.slice none 0 0)).setCell ⟨g1, 1, none⟩ (.int .i64 0)
    U.cell? ⟨g0, 0, none⟩ = some x0 ∧ U.cell? ⟨g0, 1, none⟩ = some x1 ∧ U.cell? ⟨g0, 2, none⟩ = some x2 ∧ U.cell? ⟨g0, 3, none⟩ = some x3 ∧ U.cell? ⟨g1, 0, none⟩ = some (.slice none 0 0) ∧ U.cell? ⟨g1, 1, none⟩ = some (.int .i64 0) := by
  obtain ⟨u0, u1, u2, u3⟩ := hr.set x0 x1 x2 x3
  have h10 := Ne.symm h01
  have s := (((hf.off (i := 0) h01 x0).off (i := 1) h01 x1).off (i := 2) h01 x2).off (i := 3) h01 x3
  exact ⟨(cell_set_off h10).trans ((cell_set_off h10).trans u0), (cell_set_off h10).trans ((cell_set_off h10).trans u1), (cell_set_off h10).trans ((cell_set_off h10).trans u2), (cell_set_off h10).trans ((cell_set_off h10).trans u3), (cell_set_ne (by decide)).trans (cell_set_eq s.c0), cell_set_eq ((cell_set_ne (by decide)).trans s.c1)⟩

theorem VV.sets {W : World} {B g0 g1 : Nat} {v : Value} {bss : List (List Nat)} {x0 x1 x2 x3 y0 y1 : Value} (h : VV W B v bss) (h0 : g0 < B) (h1 : g1 < B) :
    VV ((((((W.setCell ⟨g0, 0, none⟩ x0).setCell ⟨g0, 1, none⟩ x1).setCell ⟨g0, 2, none⟩ x2).setCell ⟨g0, 3, none⟩ x3).setCell ⟨g1, 0, none⟩ y0).setCell ⟨g1, 1, none⟩ y1) B v bss :=
  (((((h.set h0 _).set h0 _).set h0 _).set h0 _).set h1 _).set h1 _
end Go.Proofs.YtngmleddlfkecaaDoor
