import Derived.RangeFuncNested
import Derived.RangeFuncBound
import Derived.RangeFuncCalls
import Derived.RangeFuncLeaves
import Derived.RangeFuncFrom
import Derived.WalkKit
namespace Go.Proofs.YtpnmnjelppnfoabGreat
open Go.RowKit

theorem grownBy_of_below {W W' : World} (h : Below W.heap.size W W') : W.grownBy W' none := ⟨h.os, h.tape, h.output, h.size, fun k hk _ => h.block k hk⟩

theorem below_of_grownBy {W W' : World} (h : W.grownBy W' none) : Below W.heap.size W W' := ⟨h.os, h.tape, h.output, h.size, fun k hk => h.block k hk (by simp)⟩

/-- A range over a function whose iterator never calls yield. -/
theorem wpIn_rangeFunc_never {F : Fence} {n : Nat} {P : Program} {g : Operand} {ps : Array Tmp} {assign body : Code} {Q : Exit → Act → World → Prop} {a : Act} {w : World}
    (hro : F.round = none) (h1 : 1 ≤ n) {gf : Nat} {lb : Array Value} (hg : a.eval g = .func (.func gf) #[] lb) (hFg : F.fn gf) (eg : ∀ args w, (callFunc gf args).run P w = .ok (.enter gf args) w)
    (hc : ∀ l W, Below w.heap.size w W → CallsIn F (n - 1) P gf (#[.func (.yield l) #[] #[]] ++ lb) W fun e W' => (∃ v, e = .returned v) ∧ Below W.heap.size W W')
    (hdone : ∀ D W, Below w.heap.size w W → w.heap.size ≤ D → W.heap[D]? = some (.deferred (some [])) → Q .normal { a with defers := { target := .collected D, args := #[] } :: a.defers } W) :
    (Code.rangeFunc g ps assign body).wpIn F n P Q a w := by
  refine wpIn_rangeFunc_ownF (α := Empty) hro h1 hg hFg eg (encs := fun x => Empty.elim x) (Kp := fun _ _ => True) (S := fun _ => True) (Sp := fun _ => False) (N := 0) (w0 := w) ?_ (fun _ _ => trivial) (fun _ _ _ _ _ _ _ _ => trivial) (Below.refl _ _) (fun x => Empty.elim x)
    (fun _ W => Below w.heap.size w W) (fun _ _ _ => False) ?_ (fun _ _ _ _ _ h _ _ => h) (Below.refl _ _) (fun x => Empty.elim x) (fun _ x => Empty.elim x) (fun _ _ x => Empty.elim x) ?_ ?_
  · intro l J Jx W hW hJ hJx _ h0
    refine (hc l W hW).mono ?_
    rintro e W' ⟨hv, hb⟩
    exact ⟨hv, .inl ⟨[], trivial, hJ [] W W' none h0 (grownBy_of_below hb) (fun r e => by cases e)⟩⟩
  · intro s W W' row hs hg hr
    exact hs.grown hg hs.size (fun k e => (hr k e).1)
  · intro D xs W hD _ hW hK
    exact hdone D W hW hD hK
  · intro D c pre W _ h
    exact h.elim

/-- The marks that ranges over functions have left, newest first. -/
def Marks (n₀ : Nat) : List Deferred → World → Prop
  | [], _ => True
  | d :: ds, W => ∃ D, d = { target := .collected D, args := #[] } ∧ n₀ ≤ D ∧ W.heap[D]? = some (.deferred (some [])) ∧ (∀ d' ∈ ds, ∃ D', d' = { target := .collected D', args := #[] } ∧ D' < D) ∧ Marks n₀ ds W

theorem Marks.mem {n₀ : Nat} {W : World} : ∀ {ds : List Deferred}, Marks n₀ ds W → ∀ d ∈ ds, ∃ D, d = { target := .collected D, args := #[] } ∧ n₀ ≤ D ∧ D < W.heap.size
  | [], _, d, hd => by cases hd
  | d0 :: ds, h, d, hd => by
    obtain ⟨D, rfl, h1, h2, h3, h4⟩ := h
    rcases List.mem_cons.1 hd with rfl | hd
    · exact ⟨D, rfl, h1, (Array.getElem?_eq_some_iff.1 h2).1⟩
    · exact Marks.mem h4 d hd

theorem Marks.keep {n₀ : Nat} {W W' : World} : ∀ {ds : List Deferred}, Marks n₀ ds W → (∀ d ∈ ds, ∀ D, d = { target := .collected D, args := #[] } → W'.heap[D]? = W.heap[D]?) → Marks n₀ ds W'
  | [], _, _ => trivial
  | d0 :: ds, h, hk => by
    obtain ⟨D, rfl, h1, h2, h3, h4⟩ := h
    exact ⟨D, rfl, h1, (hk _ (List.mem_cons_self ..) D rfl).trans h2, h3, Marks.keep h4 (fun d hd D' e => hk d (List.mem_cons_of_mem _ hd) D' e)⟩

theorem Marks.below {n₀ : Nat} {W W' : World} {ds : List Deferred} (h : Marks n₀ ds W) (hb : Below W.heap.size W W') : Marks n₀ ds W' :=
  h.keep fun d hd D e => by
    obtain ⟨D', e', _, hlt⟩ := h.mem d hd
    obtain rfl : D' = D := by rw [e] at e'; simpa using e'.symm
    exact hb.block D' hlt

theorem Marks.cons {n₀ D : Nat} {w W : World} {ds : List Deferred} (h : Marks n₀ ds w) (hb : Below w.heap.size w W) (hD : w.heap.size ≤ D) (hn : n₀ ≤ w.heap.size) (hK : W.heap[D]? = some (.deferred (some []))) : Marks n₀ ({ target := .collected D, args := #[] } :: ds) W :=
  ⟨D, rfl, Nat.le_trans hn hD, hK, fun d hd => by obtain ⟨D', e, _, hlt⟩ := h.mem d hd; exact ⟨D', e, Nat.lt_of_lt_of_le hlt hD⟩, h.below hb⟩

/-- A function leaves over its marks. -/
theorem leavesM_marks {F : Fence} {n : Nat} {P : Program} {fn : Func} {tmps : Array Value} {R : Ending → World → Prop} {n₀ : Nat} : ∀ (ds : List Deferred) (W : World), Marks n₀ ds W →
    (∀ W', Below n₀ W W' → LeavesIn F n P fn tmps R [] .returning W') → LeavesInM F n P fn tmps R ds .returning W
  | [], W, _, h => h W (Below.refl _ _)
  | d :: ds, W, hm, h => by
    obtain ⟨D, rfl, h1, h2, h3, h4⟩ := hm
    refine ⟨by simp, .inl ⟨D, _, rfl, run_takeDeferred h2, leavesM_marks ds _ (h4.keep ?_) ?_⟩⟩
    · rintro d hd D' rfl
      obtain ⟨D'', e, hlt⟩ := h3 _ hd
      obtain rfl : D'' = D' := by simpa using e.symm
      exact World.putObj_heap_other (by omega)
    · intro W' hb
      refine h W' (Below.trans ?_ hb)
      exact ⟨rfl, rfl, rfl, by simp, fun k hk => World.putObj_heap_other (by omega)⟩

end Go.Proofs.YtpnmnjelppnfoabGreat
