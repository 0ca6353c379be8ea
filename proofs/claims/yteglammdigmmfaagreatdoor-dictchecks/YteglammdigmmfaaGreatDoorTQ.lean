import Derived.Test.YteglammdigmmfaaGreatDoorTP
import Derived.Test.YteglammdigmmfaaGreatDoorTE
import Derived.Great.BuildSlice
/-
  DERIVED. A list of rows, made and handed over.
-/
namespace Go.Proofs.YteglammdigmmfaaGreatDoor.Tb
open Go Go.RowKit Go.Shelf

/-- Operations that only lay values into the frame. -/
def bstep (P : Program) (a : Act) (o : Oper) : Act :=
  match o.op with
  | .build t parts => a.put o.dst (.agg ((P.built t (parts.map fun (i, x) => (i, a.eval x)).toList).getD #[]))
  | .move x => a.put o.dst (a.eval x)
  | _ => a
def bok (P : Program) (a : Act) (o : Oper) : Bool :=
  o.guard.isNone && match o.op with
    | .build t parts => (P.built t (parts.map fun (i, x) => (i, a.eval x)).toList).isSome
    | .move _ => true
    | _ => false
def boks (P : Program) : List Oper → Act → Bool
  | [], _ => true
  | o :: l, a => bok P a o && boks P l (bstep P a o)

theorem wpList_steps {P : Program} {ops : Array Oper} {rest : List Oper} {w : World} {Q : Exit → Act → World → Prop} : ∀ (bs : List Oper) (a : Act), boks P bs a = true → wpList P ops Q rest (bs.foldl (bstep P) a) w → wpList P ops Q (bs ++ rest) a w
  | [], a, _, h => h
  | o :: bs, a, hk, h => by
    rw [boks, Bool.and_eq_true] at hk
    have ih := wpList_steps bs (bstep P a o) hk.2 h
    have h1 := hk.1
    unfold bok at h1
    rw [Bool.and_eq_true] at h1
    have hg : o.guard = none := by simpa using h1.1
    have h2 := h1.2
    rw [List.cons_append]
    unfold bstep at ih
    split at h2
    · rename_i t parts ho
      rw [ho] at ih
      exact wpList_build hg t parts ho h2 ih
    · rename_i x ho
      rw [ho] at ih
      refine wpList_plain hg fun K hK => ?_
      unfold Oper.wp execOp
      simp only [ho, Sem.run_pure]
      exact hK _ _ ih
    · cases h2

theorem info60 : (Tryz.prog.info? 87).map (fun i => (i.zero, i.size)) = some (some (.agg #[.int .u32 0, .int .i64 0, .int .i64 0, .int .i64 0, .string ⟨#[]⟩]), 5) := by kernel_rfl

theorem rowCs_size : ∀ (L : List Row), (L.flatMap Row.cs).length = 5 * L.length
  | [] => rfl
  | x :: L => by rw [List.flatMap_cons, List.length_append, rowCs_size L]; simp [Row.cs]; omega

theorem fill_rows (L : List Row) (cells : Array Value) (hc : cells.size = L.length * 5) :
    Instr.fill (fun i => some (i * 5, 5)) cells (((L.map Row.val).zipIdx 0).map fun x => (x.2, x.1)) = some (rowCs L) := by
  obtain ⟨r, hr, hsz, hk⟩ := Great.fill_dense (s := 5) (by omega) (L.map Row.val) 0 cells (fun v hv => by obtain ⟨x, _, rfl⟩ := List.mem_map.1 hv; rfl) (by simp [hc])
  rw [hr]
  congr 1
  refine Array.ext_getElem? fun k => ?_
  rw [hk k]
  by_cases h : k < L.length * 5
  · rw [if_pos ⟨by omega, by simpa using h⟩]
    have hq : k / 5 < L.length := by omega
    have hx : L[k / 5]? = some L[k / 5] := by simp [hq]
    have := row_get L (k / 5) _ hx (k % 5) (by omega)
    rw [show 5 * (k / 5) + k % 5 = k by omega] at this
    unfold rowCs
    rw [List.getElem?_toArray, this]
    simp [hq, Row.val, Value.cells, Row.cs]
  · rw [if_neg (by simp; omega)]
    have h1 : cells[k]? = none := Array.getElem?_eq_none (by omega)
    have h2 : (L.flatMap Row.cs)[k]? = none := List.getElem?_eq_none (by rw [rowCs_size]; omega)
    unfold rowCs
    rw [h1, List.getElem?_toArray, h2]

def opAt (ops : Array Oper) (k : Nat) : Oper := ops.toList.getD k { dst := none, op := .move (.tmp 0), type := 0, pos := "", after := #[], guard := none }
def partsOf (o : Oper) : Array (Nat × Operand) := match o.op with
  | .buildSlice _ _ p => p
  | _ => #[]
theorem put_defers (a : Act) (d : Option Tmp) (v : Value) : (a.put d v).defers = a.defers := by cases d <;> rfl

/-- The whole of such a function. -/
theorem rows_walk {ops : Array Oper} {n l : Nat} {W : World} {Q : Exit → Act → World → Prop} {L : List Row} {a : Act} {R : Ending → World → Prop}
    (hops : ops.toList = ops.toList.take n ++ [opAt ops n, opAt ops (n + 1)]) (hok : boks Tryz.prog (ops.toList.take n) a = true)
    (g1 : (opAt ops n).guard = none) (h1 : (opAt ops n).op = .buildSlice 123 L.length (partsOf (opAt ops n))) (hL : 0 < L.length) (hL2 : L.length ≤ 1000)
    (hparts : ((partsOf (opAt ops n)).map fun (i, x) => (i, ((ops.toList.take n).foldl (bstep Tryz.prog) a).eval x)).toList = ((L.map Row.val).zipIdx 0).map fun x => (x.2, x.1))
    (g2 : (opAt ops (n + 1)).guard = none)
    (hrun : ∀ w, (execOp (((ops.toList.take n).foldl (bstep Tryz.prog) a).put (opAt ops n).dst (.slice (some ⟨W.heap.size, 0, none⟩) L.length L.length)).eval (opAt ops (n + 1))).run Tryz.prog w = .ok (.enter 122 #[.func (.yield l) #[] #[], .slice (some ⟨W.heap.size, 0, none⟩) L.length L.length]) w)
    (hc : Calls Tryz.prog 122 #[.func (.yield l) #[] #[], .slice (some ⟨W.heap.size, 0, none⟩) L.length L.length] (W.alloc (.cells (rowCs L) 87)) R)
    (hQ : ∀ e w', R e w' → ∃ v, e = .returned v ∧ ∀ a', a'.defers = (((ops.toList.take n).foldl (bstep Tryz.prog) a).defers) → Q .normal a' w') :
    (Code.region 0 ops false).wp Tryz.prog Q a W := by
  refine wp_region_list ?_
  rw [hops]
  refine wpList_steps _ a hok ?_
  cases hi : Tryz.prog.info? 87 with
  | none => have := info60; rw [hi] at this; cases this
  | some ie =>
    have h60 := info60
    rw [hi] at h60
    simp only [Option.map_some, Option.some.injEq, Prod.mk.injEq] at h60
    refine wpList_buildSlice g1 123 87 L.length _ h1 (rowCs L) ie _ Tryz.underlying123 hi h60.1 (by rw [h60.2]; omega) (by rw [h60.2]; omega) ?_ ?_
    · rw [hparts, h60.2]
      exact fill_rows L _ (by simp)
    · refine wpList_plain g2 fun K hK => ?_
      unfold Oper.wp
      rw [hrun, Oper.upon_enter]
      refine hc.mono fun e w' hR => ?_
      obtain ⟨v, rfl, hq⟩ := hQ e w' hR
      exact hK _ _ (hq _ (put_defers _ _ _ |>.trans (put_defers _ _ _)))


set_option maxRecDepth 100000 in
set_option maxHeartbeats 4000000 in
theorem tells31 (B : Nat) (w : World) (hB : B < w.heap.size) : Tells Tryz.prog 93 #[] (fun x : Row => #[x.val]) B rows0 w := by
  intro l J Jx W hW oJ oJx hY h0
  have hlt : W.heap.size ≠ B := by have := hW.size; omega
  have hg := give_any l B W.heap.size W.heap.size 87 rows0 (by decide) J Jx oJ hY (W.alloc (.cells (rowCs rows0) 87)) (World.alloc_heap_new W _) hlt (oJ.alloc _ h0)
  refine callsIn_wide.2 ?_
  have hc := callsIn_wide.1 hg
  clear hg hY
  show Calls Tryz.prog 93 #[.func (.yield l) #[] #[]] W _
  go_enter Tryz.func93, Tryz.ntmps93
  refine rows_walk (n := 26) (l := l) (L := rows0) (by kernel_rfl) (by kernel_rfl) (by kernel_rfl) (by kernel_rfl) (by decide) (by decide) (by kernel_rfl) (by kernel_rfl) (fun w => by kernel_rfl) hc ?_
  rintro e w' ⟨⟨v, rfl⟩, h⟩
  refine ⟨v, rfl, fun a' ha' => ?_⟩
  have hd : a'.defers = [] := ha'.trans (by kernel_rfl)
  exact bodyPost_end (results_none rfl _ _ _) hd ⟨⟨_, rfl⟩, h⟩

set_option maxRecDepth 100000 in
set_option maxHeartbeats 4000000 in
theorem tells32 (B : Nat) (w : World) (hB : B < w.heap.size) : Tells Tryz.prog 94 #[] (fun x : Row => #[x.val]) B rows1 w := by
  intro l J Jx W hW oJ oJx hY h0
  have hlt : W.heap.size ≠ B := by have := hW.size; omega
  have hg := give_any l B W.heap.size W.heap.size 87 rows1 (by decide) J Jx oJ hY (W.alloc (.cells (rowCs rows1) 87)) (World.alloc_heap_new W _) hlt (oJ.alloc _ h0)
  refine callsIn_wide.2 ?_
  have hc := callsIn_wide.1 hg
  clear hg hY
  show Calls Tryz.prog 94 #[.func (.yield l) #[] #[]] W _
  go_enter Tryz.func94, Tryz.ntmps94
  refine rows_walk (n := 44) (l := l) (L := rows1) (by kernel_rfl) (by kernel_rfl) (by kernel_rfl) (by kernel_rfl) (by decide) (by decide) (by kernel_rfl) (by kernel_rfl) (fun w => by kernel_rfl) hc ?_
  rintro e w' ⟨⟨v, rfl⟩, h⟩
  refine ⟨v, rfl, fun a' ha' => ?_⟩
  have hd : a'.defers = [] := ha'.trans (by kernel_rfl)
  exact bodyPost_end (results_none rfl _ _ _) hd ⟨⟨_, rfl⟩, h⟩

set_option maxRecDepth 100000 in
set_option maxHeartbeats 4000000 in
theorem tells33 (B : Nat) (w : World) (hB : B < w.heap.size) : Tells Tryz.prog 95 #[] (fun x : Row => #[x.val]) B rows2 w := by
  intro l J Jx W hW oJ oJx hY h0
  have hlt : W.heap.size ≠ B := by have := hW.size; omega
  have hg := give_any l B W.heap.size W.heap.size 87 rows2 (by decide) J Jx oJ hY (W.alloc (.cells (rowCs rows2) 87)) (World.alloc_heap_new W _) hlt (oJ.alloc _ h0)
  refine callsIn_wide.2 ?_
  have hc := callsIn_wide.1 hg
  clear hg hY
  show Calls Tryz.prog 95 #[.func (.yield l) #[] #[]] W _
  go_enter Tryz.func95, Tryz.ntmps95
  refine rows_walk (n := 26) (l := l) (L := rows2) (by kernel_rfl) (by kernel_rfl) (by kernel_rfl) (by kernel_rfl) (by decide) (by decide) (by kernel_rfl) (by kernel_rfl) (fun w => by kernel_rfl) hc ?_
  rintro e w' ⟨⟨v, rfl⟩, h⟩
  refine ⟨v, rfl, fun a' ha' => ?_⟩
  have hd : a'.defers = [] := ha'.trans (by kernel_rfl)
  exact bodyPost_end (results_none rfl _ _ _) hd ⟨⟨_, rfl⟩, h⟩

set_option maxRecDepth 100000 in
set_option maxHeartbeats 4000000 in
theorem tells34 (B : Nat) (w : World) (hB : B < w.heap.size) : Tells Tryz.prog 96 #[] (fun x : Row => #[x.val]) B rows3 w := by
  intro l J Jx W hW oJ oJx hY h0
  have hlt : W.heap.size ≠ B := by have := hW.size; omega
  have hg := give_any l B W.heap.size W.heap.size 87 rows3 (by decide) J Jx oJ hY (W.alloc (.cells (rowCs rows3) 87)) (World.alloc_heap_new W _) hlt (oJ.alloc _ h0)
  refine callsIn_wide.2 ?_
  have hc := callsIn_wide.1 hg
  clear hg hY
  show Calls Tryz.prog 96 #[.func (.yield l) #[] #[]] W _
  go_enter Tryz.func96, Tryz.ntmps96
  refine rows_walk (n := 30) (l := l) (L := rows3) (by kernel_rfl) (by kernel_rfl) (by kernel_rfl) (by kernel_rfl) (by decide) (by decide) (by kernel_rfl) (by kernel_rfl) (fun w => by kernel_rfl) hc ?_
  rintro e w' ⟨⟨v, rfl⟩, h⟩
  refine ⟨v, rfl, fun a' ha' => ?_⟩
  have hd : a'.defers = [] := ha'.trans (by kernel_rfl)
  exact bodyPost_end (results_none rfl _ _ _) hd ⟨⟨_, rfl⟩, h⟩

set_option maxRecDepth 100000 in
set_option maxHeartbeats 4000000 in
theorem tells35 (B : Nat) (w : World) (hB : B < w.heap.size) : Tells Tryz.prog 97 #[] (fun x : Row => #[x.val]) B rows4 w := by
  intro l J Jx W hW oJ oJx hY h0
  have hlt : W.heap.size ≠ B := by have := hW.size; omega
  have hg := give_any l B W.heap.size W.heap.size 87 rows4 (by decide) J Jx oJ hY (W.alloc (.cells (rowCs rows4) 87)) (World.alloc_heap_new W _) hlt (oJ.alloc _ h0)
  refine callsIn_wide.2 ?_
  have hc := callsIn_wide.1 hg
  clear hg hY
  show Calls Tryz.prog 97 #[.func (.yield l) #[] #[]] W _
  go_enter Tryz.func97, Tryz.ntmps97
  refine rows_walk (n := 31) (l := l) (L := rows4) (by kernel_rfl) (by kernel_rfl) (by kernel_rfl) (by kernel_rfl) (by decide) (by decide) (by kernel_rfl) (by kernel_rfl) (fun w => by kernel_rfl) hc ?_
  rintro e w' ⟨⟨v, rfl⟩, h⟩
  refine ⟨v, rfl, fun a' ha' => ?_⟩
  have hd : a'.defers = [] := ha'.trans (by kernel_rfl)
  exact bodyPost_end (results_none rfl _ _ _) hd ⟨⟨_, rfl⟩, h⟩

set_option maxRecDepth 100000 in
set_option maxHeartbeats 4000000 in
theorem tells36 (B : Nat) (w : World) (hB : B < w.heap.size) : Tells Tryz.prog 98 #[] (fun x : Row => #[x.val]) B rows5 w := by
  intro l J Jx W hW oJ oJx hY h0
  have hlt : W.heap.size ≠ B := by have := hW.size; omega
  have hg := give_any l B W.heap.size W.heap.size 87 rows5 (by decide) J Jx oJ hY (W.alloc (.cells (rowCs rows5) 87)) (World.alloc_heap_new W _) hlt (oJ.alloc _ h0)
  refine callsIn_wide.2 ?_
  have hc := callsIn_wide.1 hg
  clear hg hY
  show Calls Tryz.prog 98 #[.func (.yield l) #[] #[]] W _
  go_enter Tryz.func98, Tryz.ntmps98
  refine rows_walk (n := 15) (l := l) (L := rows5) (by kernel_rfl) (by kernel_rfl) (by kernel_rfl) (by kernel_rfl) (by decide) (by decide) (by kernel_rfl) (by kernel_rfl) (fun w => by kernel_rfl) hc ?_
  rintro e w' ⟨⟨v, rfl⟩, h⟩
  refine ⟨v, rfl, fun a' ha' => ?_⟩
  have hd : a'.defers = [] := ha'.trans (by kernel_rfl)
  exact bodyPost_end (results_none rfl _ _ _) hd ⟨⟨_, rfl⟩, h⟩

set_option maxRecDepth 100000 in
set_option maxHeartbeats 4000000 in
theorem tells37 (B : Nat) (w : World) (hB : B < w.heap.size) : Tells Tryz.prog 99 #[] (fun x : Row => #[x.val]) B rows6 w := by
  intro l J Jx W hW oJ oJx hY h0
  have hlt : W.heap.size ≠ B := by have := hW.size; omega
  have hg := give_any l B W.heap.size W.heap.size 87 rows6 (by decide) J Jx oJ hY (W.alloc (.cells (rowCs rows6) 87)) (World.alloc_heap_new W _) hlt (oJ.alloc _ h0)
  refine callsIn_wide.2 ?_
  have hc := callsIn_wide.1 hg
  clear hg hY
  show Calls Tryz.prog 99 #[.func (.yield l) #[] #[]] W _
  go_enter Tryz.func99, Tryz.ntmps99
  refine rows_walk (n := 19) (l := l) (L := rows6) (by kernel_rfl) (by kernel_rfl) (by kernel_rfl) (by kernel_rfl) (by decide) (by decide) (by kernel_rfl) (by kernel_rfl) (fun w => by kernel_rfl) hc ?_
  rintro e w' ⟨⟨v, rfl⟩, h⟩
  refine ⟨v, rfl, fun a' ha' => ?_⟩
  have hd : a'.defers = [] := ha'.trans (by kernel_rfl)
  exact bodyPost_end (results_none rfl _ _ _) hd ⟨⟨_, rfl⟩, h⟩

set_option maxRecDepth 100000 in
set_option maxHeartbeats 4000000 in
theorem tells38 (B : Nat) (w : World) (hB : B < w.heap.size) : Tells Tryz.prog 100 #[] (fun x : Row => #[x.val]) B rows7 w := by
  intro l J Jx W hW oJ oJx hY h0
  have hlt : W.heap.size ≠ B := by have := hW.size; omega
  have hg := give_any l B W.heap.size W.heap.size 87 rows7 (by decide) J Jx oJ hY (W.alloc (.cells (rowCs rows7) 87)) (World.alloc_heap_new W _) hlt (oJ.alloc _ h0)
  refine callsIn_wide.2 ?_
  have hc := callsIn_wide.1 hg
  clear hg hY
  show Calls Tryz.prog 100 #[.func (.yield l) #[] #[]] W _
  go_enter Tryz.func100, Tryz.ntmps100
  refine rows_walk (n := 37) (l := l) (L := rows7) (by kernel_rfl) (by kernel_rfl) (by kernel_rfl) (by kernel_rfl) (by decide) (by decide) (by kernel_rfl) (by kernel_rfl) (fun w => by kernel_rfl) hc ?_
  rintro e w' ⟨⟨v, rfl⟩, h⟩
  refine ⟨v, rfl, fun a' ha' => ?_⟩
  have hd : a'.defers = [] := ha'.trans (by kernel_rfl)
  exact bodyPost_end (results_none rfl _ _ _) hd ⟨⟨_, rfl⟩, h⟩

set_option maxRecDepth 100000 in
set_option maxHeartbeats 4000000 in
theorem tells39 (B : Nat) (w : World) (hB : B < w.heap.size) : Tells Tryz.prog 101 #[] (fun x : Row => #[x.val]) B rows8 w := by
  intro l J Jx W hW oJ oJx hY h0
  have hlt : W.heap.size ≠ B := by have := hW.size; omega
  have hg := give_any l B W.heap.size W.heap.size 87 rows8 (by decide) J Jx oJ hY (W.alloc (.cells (rowCs rows8) 87)) (World.alloc_heap_new W _) hlt (oJ.alloc _ h0)
  refine callsIn_wide.2 ?_
  have hc := callsIn_wide.1 hg
  clear hg hY
  show Calls Tryz.prog 101 #[.func (.yield l) #[] #[]] W _
  go_enter Tryz.func101, Tryz.ntmps101
  refine rows_walk (n := 24) (l := l) (L := rows8) (by kernel_rfl) (by kernel_rfl) (by kernel_rfl) (by kernel_rfl) (by decide) (by decide) (by kernel_rfl) (by kernel_rfl) (fun w => by kernel_rfl) hc ?_
  rintro e w' ⟨⟨v, rfl⟩, h⟩
  refine ⟨v, rfl, fun a' ha' => ?_⟩
  have hd : a'.defers = [] := ha'.trans (by kernel_rfl)
  exact bodyPost_end (results_none rfl _ _ _) hd ⟨⟨_, rfl⟩, h⟩

set_option maxRecDepth 100000 in
set_option maxHeartbeats 4000000 in
theorem tells40 (B : Nat) (w : World) (hB : B < w.heap.size) : Tells Tryz.prog 102 #[] (fun x : Row => #[x.val]) B rows9 w := by
  intro l J Jx W hW oJ oJx hY h0
  have hlt : W.heap.size ≠ B := by have := hW.size; omega
  have hg := give_any l B W.heap.size W.heap.size 87 rows9 (by decide) J Jx oJ hY (W.alloc (.cells (rowCs rows9) 87)) (World.alloc_heap_new W _) hlt (oJ.alloc _ h0)
  refine callsIn_wide.2 ?_
  have hc := callsIn_wide.1 hg
  clear hg hY
  show Calls Tryz.prog 102 #[.func (.yield l) #[] #[]] W _
  go_enter Tryz.func102, Tryz.ntmps102
  refine rows_walk (n := 11) (l := l) (L := rows9) (by kernel_rfl) (by kernel_rfl) (by kernel_rfl) (by kernel_rfl) (by decide) (by decide) (by kernel_rfl) (by kernel_rfl) (fun w => by kernel_rfl) hc ?_
  rintro e w' ⟨⟨v, rfl⟩, h⟩
  refine ⟨v, rfl, fun a' ha' => ?_⟩
  have hd : a'.defers = [] := ha'.trans (by kernel_rfl)
  exact bodyPost_end (results_none rfl _ _ _) hd ⟨⟨_, rfl⟩, h⟩

end Go.Proofs.YteglammdigmmfaaGreatDoor.Tb
