import Derived.Test.YtiieikdbhpflgaaDoorA
import Derived.Great.BuildSlice
import Derived.Laws.Rows
import Derived.Laws.CopyOwn
/-
  DERIVED. The program's actions.
-/
namespace Go.Proofs.YtiieikdbhpflgaaDoor
open Go Go.Proofs Go.RowKit

/-- Operations that only lay values into the frame. -/
def bstep (P : Program) (a : Act) (o : Oper) : Act :=
  match o.op with
  | .build t parts => a.put o.dst (.agg ((P.built t (parts.map fun (i, x) => (i, a.eval x)).toList).getD #[]))
  | .move x => a.put o.dst (a.eval x)
  | _ => a
def bok (P : Program) (a : Act) (o : Oper) : Bool :=
  o.guard.isNone && match o.op with
    | .build t parts => (P.built t (parts.map fun (i, x) => (i, a.eval x)).toList).isSome
    | .move _ => true
    | _ => false
def boks (P : Program) : List Oper → Act → Bool
  | [], _ => true
  | o :: l, a => bok P a o && boks P l (bstep P a o)

theorem wpList_steps {P : Program} {ops : Array Oper} {rest : List Oper} {w : World} {Q : Exit → Act → World → Prop} : ∀ (bs : List Oper) (a : Act), boks P bs a = true → wpList P ops Q rest (bs.foldl (bstep P) a) w → wpList P ops Q (bs ++ rest) a w
  | [], a, _, h => h
  | o :: bs, a, hk, h => by
    rw [boks, Bool.and_eq_true] at hk
    have ih := wpList_steps bs (bstep P a o) hk.2 h
    have h1 := hk.1
    unfold bok at h1
    rw [Bool.and_eq_true] at h1
    have hg : o.guard = none := by simpa using h1.1
    have h2 := h1.2
    rw [List.cons_append]
    unfold bstep at ih
    split at h2
    · rename_i t parts ho
      rw [ho] at ih
      exact wpList_build hg t parts ho h2 ih
    · rename_i x ho
      rw [ho] at ih
      refine wpList_plain hg fun K hK => ?_
      unfold Oper.wp execOp
      simp only [ho, Sem.run_pure]
      exact hK _ _ ih
    · cases h2

theorem wpList_take {P : Program} {ops : Array Oper} {l : List Oper} {w : World} {a : Act} {Q : Exit → Act → World → Prop} (n : Nat) (hk : boks P (l.take n) a = true) (h : wpList P ops Q (l.drop n) ((l.take n).foldl (bstep P) a) w) : wpList P ops Q l a w := by
  have := wpList_steps (l.take n) a hk h
  rwa [List.take_append_drop] at this

def actsC : Array Value := #[.nilFunc, .int .i64 0, .int .i64 0, .int .i64 0, .func (.func 65) #[] #[], .int .i64 0, .int .i64 0, .int .i64 4, .func (.func 66) #[] #[], .int .i64 0, .int .i64 0, .int .i64 5, .func (.func 67) #[] #[], .int .i64 2, .int .i64 0, .int .i64 6, .func (.func 68) #[] #[], .int .i64 3, .int .i64 0, .int .i64 1, .func (.func 69) #[] #[], .int .i64 0, .int .i64 1, .int .i64 2, .func (.func 67) #[] #[], .int .i64 1, .int .i64 2, .int .i64 3, .func (.func 71) #[] #[], .int .i64 0, .int .i64 0, .int .i64 6, .func (.func 71) #[] #[], .int .i64 0, .int .i64 1, .int .i64 13, .func (.func 71) #[] #[], .int .i64 0, .int .i64 0, .int .i64 6, .func (.func 67) #[] #[], .int .i64 4, .int .i64 0, .int .i64 6, .func (.func 72) #[] #[], .int .i64 0, .int .i64 0, .int .i64 7, .func (.func 73) #[] #[], .int .i64 5, .int .i64 0, .int .i64 8, .func (.func 74) #[] #[], .int .i64 6, .int .i64 0, .int .i64 1, .func (.func 75) #[] #[], .int .i64 0, .int .i64 1, .int .i64 13, .func (.func 76) #[] #[], .int .i64 0, .int .i64 2, .int .i64 1, .func (.func 67) #[] #[], .int .i64 4, .int .i64 0, .int .i64 7, .func (.func 71) #[] #[], .int .i64 0, .int .i64 0, .int .i64 8, .func (.func 73) #[] #[], .int .i64 5, .int .i64 0, .int .i64 9, .func (.func 75) #[] #[], .int .i64 0, .int .i64 0, .int .i64 11, .func (.func 73) #[] #[], .int .i64 6, .int .i64 0, .int .i64 12, .func (.func 77) #[] #[], .int .i64 0, .int .i64 1, .int .i64 13, .func (.func 78) #[] #[], .int .i64 0, .int .i64 2, .int .i64 1, .func (.func 79) #[] #[], .int .i64 0, .int .i64 0, .int .i64 1, .func (.func 73) #[] #[], .int .i64 8, .int .i64 0, .int .i64 1, .func (.func 76) #[] #[], .int .i64 0, .int .i64 2, .int .i64 1, .func (.func 76) #[] #[], .int .i64 0, .int .i64 0, .int .i64 13, .func (.func 80) #[] #[], .int .i64 0, .int .i64 0, .int .i64 13, .func (.func 81) #[] #[], .int .i64 8, .int .i64 1, .int .i64 13, .func (.func 70) #[] #[], .int .i64 0, .int .i64 1, .int .i64 13, .func (.func 73) #[] #[], .int .i64 5, .int .i64 0, .int .i64 10]

theorem alloc_new (w : World) (o : Obj) : (w.alloc o).heap[w.heap.size]? = some o := by
  show (w.heap.push o)[w.heap.size]? = some o
  simp
theorem res_cell {P : Program} {fn : Func} {tmps : Array Value} {t : TypeId} {k : Nat} {ad : Addr} {W : World} {v : Value} (hr : fn.results = #[.cell k t]) (h0 : tmps.getD k undef = .pointer (some ad)) (hl : (loadVar t ad).run P W = .ok v W) : (results fn tmps).run P W = .ok v W := by
  have h0' : tmps[k]?.getD undef = .pointer (some ad) := by simpa using h0
  simp [results, hr, asAddr, h0', hl]
theorem under136 : Tryd.prog.underlying 136 = some (.array 31 95) := by kernel_rfl
set_option maxRecDepth 100000 in
set_option maxHeartbeats 2000000 in
theorem acts_any (w : World) : Calls Tryd.prog 54 #[] w fun x w' => x = .returned (.agg actsC) ∧ Below w.heap.size w w' := by
  go_enter Tryd.func54, Tryd.ntmps54
  refine wp_seq ?_
  generalize hQ : Exit.then _ _ = Q
  go_wp2
  subst hQ
  show Code.wp _ (Code.seq _ _) _ _ _
  refine wp_seq ?_
  refine wp_region_list ?_
  refine wpList_take 31 (by kernel_rfl) ?_
  refine wpList_frame (a' := ⟨#[.pointer (some ⟨w.heap.size, 0, none⟩), .agg #[.func (.func 65) #[] #[], .int .i64 0, .int .i64 0, .int .i64 4], .agg #[.func (.func 66) #[] #[], .int .i64 0, .int .i64 0, .int .i64 5], .agg #[.func (.func 67) #[] #[], .int .i64 2, .int .i64 0, .int .i64 6], .agg #[.func (.func 68) #[] #[], .int .i64 3, .int .i64 0, .int .i64 1], .agg #[.func (.func 69) #[] #[], .int .i64 0, .int .i64 1, .int .i64 2], .agg #[.func (.func 67) #[] #[], .int .i64 1, .int .i64 2, .int .i64 3], .agg #[.func (.func 70) #[] #[], .int .i64 0, .int .i64 1, .int .i64 13], .agg #[.func (.func 71) #[] #[], .int .i64 0, .int .i64 0, .int .i64 6], .agg #[.func (.func 71) #[] #[], .int .i64 0, .int .i64 1, .int .i64 13], .agg #[.func (.func 71) #[] #[], .int .i64 0, .int .i64 0, .int .i64 6], .agg #[.func (.func 67) #[] #[], .int .i64 4, .int .i64 0, .int .i64 6], .agg #[.func (.func 72) #[] #[], .int .i64 0, .int .i64 0, .int .i64 7], .agg #[.func (.func 73) #[] #[], .int .i64 5, .int .i64 0, .int .i64 8], .agg #[.func (.func 74) #[] #[], .int .i64 6, .int .i64 0, .int .i64 1], .agg #[.func (.func 75) #[] #[], .int .i64 0, .int .i64 1, .int .i64 13], .agg #[.func (.func 76) #[] #[], .int .i64 0, .int .i64 2, .int .i64 1], .agg #[.func (.func 67) #[] #[], .int .i64 4, .int .i64 0, .int .i64 7], .agg #[.func (.func 71) #[] #[], .int .i64 0, .int .i64 0, .int .i64 8], .agg #[.func (.func 73) #[] #[], .int .i64 5, .int .i64 0, .int .i64 9], .agg #[.func (.func 73) #[] #[], .int .i64 5, .int .i64 0, .int .i64 10], .agg #[.func (.func 75) #[] #[], .int .i64 0, .int .i64 0, .int .i64 11], .agg #[.func (.func 73) #[] #[], .int .i64 6, .int .i64 0, .int .i64 12], .agg #[.func (.func 77) #[] #[], .int .i64 0, .int .i64 1, .int .i64 13], .agg #[.func (.func 78) #[] #[], .int .i64 0, .int .i64 2, .int .i64 1], .agg #[.func (.func 79) #[] #[], .int .i64 0, .int .i64 0, .int .i64 1], .agg #[.func (.func 73) #[] #[], .int .i64 8, .int .i64 0, .int .i64 1], .agg #[.func (.func 76) #[] #[], .int .i64 0, .int .i64 2, .int .i64 1], .agg #[.func (.func 76) #[] #[], .int .i64 0, .int .i64 0, .int .i64 13], .agg #[.func (.func 80) #[] #[], .int .i64 0, .int .i64 0, .int .i64 13], .agg #[.func (.func 81) #[] #[], .int .i64 8, .int .i64 1, .int .i64 13], .agg actsC], []⟩) (by kernel_rfl) ?_
  show wpList _ _ _ [_] _ _
  refine wpList_store_row rfl 136 (.tmp 0) (.tmp 31) rfl w.heap.size actsC rfl rfl 136 Tryd.zeroCells136 (alloc_new w _) (by kernel_rfl) (by kernel_rfl) (by kernel_rfl) ?_
  have hh := setRow_heap (w.alloc (.cells Tryd.zeroCells136 136)) w.heap.size _ actsC 136 _ (alloc_new w _)
  have hb : Below w.heap.size w ((w.alloc (.cells Tryd.zeroCells136 136)).setRow w.heap.size actsC) := below_setRow ((Below.refl _ _).alloc (Nat.le_refl _) _) (Nat.le_refl _) _
  refine wpList_nil ?_
  show Code.wp _ Code.ret _ _ _
  refine wp_ret ?_
  refine bodyPost_ret (v := .agg actsC) ?_ rfl ⟨rfl, hb⟩
  have hl := run_loadVar_row (P := Tryd.prog) _ _ _ 136 _ _ _ hh under136 rfl (by kernel_rfl)
  exact res_cell (k := 0) Tryd.results54 (by kernel_rfl) hl
end Go.Proofs.YtiieikdbhpflgaaDoor
