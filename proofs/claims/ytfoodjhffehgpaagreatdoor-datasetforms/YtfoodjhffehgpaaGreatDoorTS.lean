import Derived.Test.YtfoodjhffehgpaaGreatDoorTP
import Derived.Test.YtfoodjhffehgpaaGreatDoorTE
import Derived.Great.BuildSlice
import Derived.Deep.RegionHeld3
import Derived.Laws.EntriesVeiled
import Derived.Deep.WholeRow
import Derived.Deep.Slices
section
/-
  DERIVED. A list of rows, made and handed over.
-/
namespace Go.Proofs.YtfoodjhffehgpaaGreatDoor.Tb
open Go Go.RowKit Go.Shelf

/-- Operations that only lay values into the frame. -/
def bstep (P : Program) (a : Act) (o : Oper) : Act :=
  match o.op with
  | .build t parts => a.put o.dst (.agg ((P.built t (parts.map fun (i, x) => (i, a.eval x)).toList).getD #[]))
  | .move x => a.put o.dst (a.eval x)
  | _ => a
def bok (P : Program) (a : Act) (o : Oper) : Bool :=
  o.guard.isNone && match o.op with
    | .build t parts => (P.built t (parts.map fun (i, x) => (i, a.eval x)).toList).isSome
    | .move _ => true
    | _ => false
def boks (P : Program) : List Oper → Act → Bool
  | [], _ => true
  | o :: l, a => bok P a o && boks P l (bstep P a o)

theorem wpList_steps {P : Program} {ops : Array Oper} {rest : List Oper} {w : World} {Q : Exit → Act → World → Prop} : ∀ (bs : List Oper) (a : Act), boks P bs a = true → wpList P ops Q rest (bs.foldl (bstep P) a) w → wpList P ops Q (bs ++ rest) a w
  | [], a, _, h => h
  | o :: bs, a, hk, h => by
    rw [boks, Bool.and_eq_true] at hk
    have ih := wpList_steps bs (bstep P a o) hk.2 h
    have h1 := hk.1
    unfold bok at h1
    rw [Bool.and_eq_true] at h1
    have hg : o.guard = none := by simpa using h1.1
    have h2 := h1.2
    rw [List.cons_append]
    unfold bstep at ih
    split at h2
    · rename_i t parts ho
      rw [ho] at ih
      exact wpList_build hg t parts ho h2 ih
    · rename_i x ho
      rw [ho] at ih
      refine wpList_plain hg fun K hK => ?_
      unfold Oper.wp execOp
      simp only [ho, Sem.run_pure]
      exact hK _ _ ih
    · cases h2

theorem info60 : (Tryz.prog.info? 209).map (fun i => (i.zero, i.size)) = some (some (.agg #[.int .u32 0, .int .i64 0, .int .i64 0, .int .i64 0, .string ⟨#[]⟩]), 5) := by kernel_rfl

theorem rowCs_size : ∀ (L : List Row), (L.flatMap Row.cs).length = 5 * L.length
  | [] => rfl
  | x :: L => by rw [List.flatMap_cons, List.length_append, rowCs_size L]; simp [Row.cs]; omega

theorem fill_rows (L : List Row) (cells : Array Value) (hc : cells.size = L.length * 5) :
    Instr.fill (fun i => some (i * 5, 5)) cells (((L.map Row.val).zipIdx 0).map fun x => (x.2, x.1)) = some (rowCs L) := by
  obtain ⟨r, hr, hsz, hk⟩ := Great.fill_dense (s := 5) (by omega) (L.map Row.val) 0 cells (fun v hv => by obtain ⟨x, _, rfl⟩ := List.mem_map.1 hv; rfl) (by simp [hc])
  rw [hr]
  congr 1
  refine Array.ext_getElem? fun k => ?_
  rw [hk k]
  by_cases h : k < L.length * 5
  · rw [if_pos ⟨by omega, by simpa using h⟩]
    have hq : k / 5 < L.length := by omega
    have hx : L[k / 5]? = some L[k / 5] := by simp [hq]
    have := row_get L (k / 5) _ hx (k % 5) (by omega)
    rw [show 5 * (k / 5) + k % 5 = k by omega] at this
    unfold rowCs
    rw [List.getElem?_toArray, this]
    simp [hq, Row.val, Value.cells, Row.cs]
  · rw [if_neg (by simp; omega)]
    have h1 : cells[k]? = none := Array.getElem?_eq_none (by omega)
    have h2 : (L.flatMap Row.cs)[k]? = none := List.getElem?_eq_none (by rw [rowCs_size]; omega)
    unfold rowCs
    rw [h1, List.getElem?_toArray, h2]

def opAt (ops : Array Oper) (k : Nat) : Oper := ops.toList.getD k { dst := none, op := .move (.tmp 0), type := 0, pos := "", after := #[], guard := none }
def partsOf (o : Oper) : Array (Nat × Operand) := match o.op with
  | .buildSlice _ _ p => p
  | _ => #[]
theorem put_defers (a : Act) (d : Option Tmp) (v : Value) : (a.put d v).defers = a.defers := by cases d <;> rfl

/-- The whole of such a function. -/
theorem rows_walk {ops : Array Oper} {n l : Nat} {W : World} {Q : Exit → Act → World → Prop} {L : List Row} {a : Act} {R : Ending → World → Prop}
    (hops : ops.toList = ops.toList.take n ++ [opAt ops n, opAt ops (n + 1)]) (hok : boks Tryz.prog (ops.toList.take n) a = true)
    (g1 : (opAt ops n).guard = none) (h1 : (opAt ops n).op = .buildSlice 243 L.length (partsOf (opAt ops n))) (hL : 0 < L.length) (hL2 : L.length ≤ 1000)
    (hparts : ((partsOf (opAt ops n)).map fun (i, x) => (i, ((ops.toList.take n).foldl (bstep Tryz.prog) a).eval x)).toList = ((L.map Row.val).zipIdx 0).map fun x => (x.2, x.1))
    (g2 : (opAt ops (n + 1)).guard = none)
    (hrun : ∀ w, (execOp (((ops.toList.take n).foldl (bstep Tryz.prog) a).put (opAt ops n).dst (.slice (some ⟨W.heap.size, 0, none⟩) L.length L.length)).eval (opAt ops (n + 1))).run Tryz.prog w = .ok (.enter 197 #[.func (.yield l) #[] #[], .slice (some ⟨W.heap.size, 0, none⟩) L.length L.length]) w)
    (hc : Calls Tryz.prog 197 #[.func (.yield l) #[] #[], .slice (some ⟨W.heap.size, 0, none⟩) L.length L.length] (W.alloc (.cells (rowCs L) 209)) R)
    (hQ : ∀ e w', R e w' → ∃ v, e = .returned v ∧ ∀ a', a'.defers = (((ops.toList.take n).foldl (bstep Tryz.prog) a).defers) → Q .normal a' w') :
    (Code.region 0 ops false).wp Tryz.prog Q a W := by
  refine wp_region_list ?_
  rw [hops]
  refine wpList_steps _ a hok ?_
  cases hi : Tryz.prog.info? 209 with
  | none => have := info60; rw [hi] at this; cases this
  | some ie =>
    have h60 := info60
    rw [hi] at h60
    simp only [Option.map_some, Option.some.injEq, Prod.mk.injEq] at h60
    refine wpList_buildSlice g1 243 209 L.length _ h1 (rowCs L) ie _ Tryz.underlying243 hi h60.1 (by rw [h60.2]; omega) (by rw [h60.2]; omega) ?_ ?_
    · rw [hparts, h60.2]
      exact fill_rows L _ (by simp)
    · refine wpList_plain g2 fun K hK => ?_
      unfold Oper.wp
      rw [hrun, Oper.upon_enter]
      refine hc.mono fun e w' hR => ?_
      obtain ⟨v, rfl, hq⟩ := hQ e w' hR
      exact hK _ _ (hq _ (put_defers _ _ _ |>.trans (put_defers _ _ _)))


set_option maxRecDepth 100000 in
set_option maxHeartbeats 4000000 in
theorem tells31 (B : Nat) (w : World) (hB : B < w.heap.size) : Tells Tryz.prog 175 #[] (fun x : Row => #[x.val]) B rows0 w := by
  intro l J Jx W hW oJ oJx hY h0
  have hlt : W.heap.size ≠ B := by have := hW.size; omega
  have hg := give_any l B W.heap.size W.heap.size 209 rows0 (by decide) J Jx oJ hY (W.alloc (.cells (rowCs rows0) 209)) (World.alloc_heap_new W _) hlt (oJ.alloc _ h0)
  refine callsIn_wide.2 ?_
  have hc := callsIn_wide.1 hg
  clear hg hY
  show Calls Tryz.prog 175 #[.func (.yield l) #[] #[]] W _
  go_enter Tryz.func175, Tryz.ntmps175
  refine rows_walk (n := 26) (l := l) (L := rows0) (by kernel_rfl) (by kernel_rfl) (by kernel_rfl) (by kernel_rfl) (by decide) (by decide) (by kernel_rfl) (by kernel_rfl) (fun w => by kernel_rfl) hc ?_
  rintro e w' ⟨⟨v, rfl⟩, h⟩
  refine ⟨v, rfl, fun a' ha' => ?_⟩
  have hd : a'.defers = [] := ha'.trans (by kernel_rfl)
  exact bodyPost_end (results_none rfl _ _ _) hd ⟨⟨_, rfl⟩, h⟩

set_option maxRecDepth 100000 in
set_option maxHeartbeats 4000000 in
theorem tells32 (B : Nat) (w : World) (hB : B < w.heap.size) : Tells Tryz.prog 176 #[] (fun x : Row => #[x.val]) B rows1 w := by
  intro l J Jx W hW oJ oJx hY h0
  have hlt : W.heap.size ≠ B := by have := hW.size; omega
  have hg := give_any l B W.heap.size W.heap.size 209 rows1 (by decide) J Jx oJ hY (W.alloc (.cells (rowCs rows1) 209)) (World.alloc_heap_new W _) hlt (oJ.alloc _ h0)
  refine callsIn_wide.2 ?_
  have hc := callsIn_wide.1 hg
  clear hg hY
  show Calls Tryz.prog 176 #[.func (.yield l) #[] #[]] W _
  go_enter Tryz.func176, Tryz.ntmps176
  refine rows_walk (n := 44) (l := l) (L := rows1) (by kernel_rfl) (by kernel_rfl) (by kernel_rfl) (by kernel_rfl) (by decide) (by decide) (by kernel_rfl) (by kernel_rfl) (fun w => by kernel_rfl) hc ?_
  rintro e w' ⟨⟨v, rfl⟩, h⟩
  refine ⟨v, rfl, fun a' ha' => ?_⟩
  have hd : a'.defers = [] := ha'.trans (by kernel_rfl)
  exact bodyPost_end (results_none rfl _ _ _) hd ⟨⟨_, rfl⟩, h⟩

set_option maxRecDepth 100000 in
set_option maxHeartbeats 4000000 in
theorem tells33 (B : Nat) (w : World) (hB : B < w.heap.size) : Tells Tryz.prog 177 #[] (fun x : Row => #[x.val]) B rows2 w := by
  intro l J Jx W hW oJ oJx hY h0
  have hlt : W.heap.size ≠ B := by have := hW.size; omega
  have hg := give_any l B W.heap.size W.heap.size 209 rows2 (by decide) J Jx oJ hY (W.alloc (.cells (rowCs rows2) 209)) (World.alloc_heap_new W _) hlt (oJ.alloc _ h0)
  refine callsIn_wide.2 ?_
  have hc := callsIn_wide.1 hg
  clear hg hY
  show Calls Tryz.prog 177 #[.func (.yield l) #[] #[]] W _
  go_enter Tryz.func177, Tryz.ntmps177
  refine rows_walk (n := 26) (l := l) (L := rows2) (by kernel_rfl) (by kernel_rfl) (by kernel_rfl) (by kernel_rfl) (by decide) (by decide) (by kernel_rfl) (by kernel_rfl) (fun w => by kernel_rfl) hc ?_
  rintro e w' ⟨⟨v, rfl⟩, h⟩
  refine ⟨v, rfl, fun a' ha' => ?_⟩
  have hd : a'.defers = [] := ha'.trans (by kernel_rfl)
  exact bodyPost_end (results_none rfl _ _ _) hd ⟨⟨_, rfl⟩, h⟩

set_option maxRecDepth 100000 in
set_option maxHeartbeats 4000000 in
theorem tells34 (B : Nat) (w : World) (hB : B < w.heap.size) : Tells Tryz.prog 178 #[] (fun x : Row => #[x.val]) B rows3 w := by
  intro l J Jx W hW oJ oJx hY h0
  have hlt : W.heap.size ≠ B := by have := hW.size; omega
  have hg := give_any l B W.heap.size W.heap.size 209 rows3 (by decide) J Jx oJ hY (W.alloc (.cells (rowCs rows3) 209)) (World.alloc_heap_new W _) hlt (oJ.alloc _ h0)
  refine callsIn_wide.2 ?_
  have hc := callsIn_wide.1 hg
  clear hg hY
  show Calls Tryz.prog 178 #[.func (.yield l) #[] #[]] W _
  go_enter Tryz.func178, Tryz.ntmps178
  refine rows_walk (n := 30) (l := l) (L := rows3) (by kernel_rfl) (by kernel_rfl) (by kernel_rfl) (by kernel_rfl) (by decide) (by decide) (by kernel_rfl) (by kernel_rfl) (fun w => by kernel_rfl) hc ?_
  rintro e w' ⟨⟨v, rfl⟩, h⟩
  refine ⟨v, rfl, fun a' ha' => ?_⟩
  have hd : a'.defers = [] := ha'.trans (by kernel_rfl)
  exact bodyPost_end (results_none rfl _ _ _) hd ⟨⟨_, rfl⟩, h⟩

set_option maxRecDepth 100000 in
set_option maxHeartbeats 4000000 in
theorem tells35 (B : Nat) (w : World) (hB : B < w.heap.size) : Tells Tryz.prog 179 #[] (fun x : Row => #[x.val]) B rows4 w := by
  intro l J Jx W hW oJ oJx hY h0
  have hlt : W.heap.size ≠ B := by have := hW.size; omega
  have hg := give_any l B W.heap.size W.heap.size 209 rows4 (by decide) J Jx oJ hY (W.alloc (.cells (rowCs rows4) 209)) (World.alloc_heap_new W _) hlt (oJ.alloc _ h0)
  refine callsIn_wide.2 ?_
  have hc := callsIn_wide.1 hg
  clear hg hY
  show Calls Tryz.prog 179 #[.func (.yield l) #[] #[]] W _
  go_enter Tryz.func179, Tryz.ntmps179
  refine rows_walk (n := 31) (l := l) (L := rows4) (by kernel_rfl) (by kernel_rfl) (by kernel_rfl) (by kernel_rfl) (by decide) (by decide) (by kernel_rfl) (by kernel_rfl) (fun w => by kernel_rfl) hc ?_
  rintro e w' ⟨⟨v, rfl⟩, h⟩
  refine ⟨v, rfl, fun a' ha' => ?_⟩
  have hd : a'.defers = [] := ha'.trans (by kernel_rfl)
  exact bodyPost_end (results_none rfl _ _ _) hd ⟨⟨_, rfl⟩, h⟩

set_option maxRecDepth 100000 in
set_option maxHeartbeats 4000000 in
theorem tells36 (B : Nat) (w : World) (hB : B < w.heap.size) : Tells Tryz.prog 180 #[] (fun x : Row => #[x.val]) B rows5 w := by
  intro l J Jx W hW oJ oJx hY h0
  have hlt : W.heap.size ≠ B := by have := hW.size; omega
  have hg := give_any l B W.heap.size W.heap.size 209 rows5 (by decide) J Jx oJ hY (W.alloc (.cells (rowCs rows5) 209)) (World.alloc_heap_new W _) hlt (oJ.alloc _ h0)
  refine callsIn_wide.2 ?_
  have hc := callsIn_wide.1 hg
  clear hg hY
  show Calls Tryz.prog 180 #[.func (.yield l) #[] #[]] W _
  go_enter Tryz.func180, Tryz.ntmps180
  refine rows_walk (n := 15) (l := l) (L := rows5) (by kernel_rfl) (by kernel_rfl) (by kernel_rfl) (by kernel_rfl) (by decide) (by decide) (by kernel_rfl) (by kernel_rfl) (fun w => by kernel_rfl) hc ?_
  rintro e w' ⟨⟨v, rfl⟩, h⟩
  refine ⟨v, rfl, fun a' ha' => ?_⟩
  have hd : a'.defers = [] := ha'.trans (by kernel_rfl)
  exact bodyPost_end (results_none rfl _ _ _) hd ⟨⟨_, rfl⟩, h⟩

set_option maxRecDepth 100000 in
set_option maxHeartbeats 4000000 in
theorem tells37 (B : Nat) (w : World) (hB : B < w.heap.size) : Tells Tryz.prog 181 #[] (fun x : Row => #[x.val]) B rows6 w := by
  intro l J Jx W hW oJ oJx hY h0
  have hlt : W.heap.size ≠ B := by have := hW.size; omega
  have hg := give_any l B W.heap.size W.heap.size 209 rows6 (by decide) J Jx oJ hY (W.alloc (.cells (rowCs rows6) 209)) (World.alloc_heap_new W _) hlt (oJ.alloc _ h0)
  refine callsIn_wide.2 ?_
  have hc := callsIn_wide.1 hg
  clear hg hY
  show Calls Tryz.prog 181 #[.func (.yield l) #[] #[]] W _
  go_enter Tryz.func181, Tryz.ntmps181
  refine rows_walk (n := 19) (l := l) (L := rows6) (by kernel_rfl) (by kernel_rfl) (by kernel_rfl) (by kernel_rfl) (by decide) (by decide) (by kernel_rfl) (by kernel_rfl) (fun w => by kernel_rfl) hc ?_
  rintro e w' ⟨⟨v, rfl⟩, h⟩
  refine ⟨v, rfl, fun a' ha' => ?_⟩
  have hd : a'.defers = [] := ha'.trans (by kernel_rfl)
  exact bodyPost_end (results_none rfl _ _ _) hd ⟨⟨_, rfl⟩, h⟩

set_option maxRecDepth 100000 in
set_option maxHeartbeats 4000000 in
theorem tells38 (B : Nat) (w : World) (hB : B < w.heap.size) : Tells Tryz.prog 182 #[] (fun x : Row => #[x.val]) B rows7 w := by
  intro l J Jx W hW oJ oJx hY h0
  have hlt : W.heap.size ≠ B := by have := hW.size; omega
  have hg := give_any l B W.heap.size W.heap.size 209 rows7 (by decide) J Jx oJ hY (W.alloc (.cells (rowCs rows7) 209)) (World.alloc_heap_new W _) hlt (oJ.alloc _ h0)
  refine callsIn_wide.2 ?_
  have hc := callsIn_wide.1 hg
  clear hg hY
  show Calls Tryz.prog 182 #[.func (.yield l) #[] #[]] W _
  go_enter Tryz.func182, Tryz.ntmps182
  refine rows_walk (n := 37) (l := l) (L := rows7) (by kernel_rfl) (by kernel_rfl) (by kernel_rfl) (by kernel_rfl) (by decide) (by decide) (by kernel_rfl) (by kernel_rfl) (fun w => by kernel_rfl) hc ?_
  rintro e w' ⟨⟨v, rfl⟩, h⟩
  refine ⟨v, rfl, fun a' ha' => ?_⟩
  have hd : a'.defers = [] := ha'.trans (by kernel_rfl)
  exact bodyPost_end (results_none rfl _ _ _) hd ⟨⟨_, rfl⟩, h⟩

set_option maxRecDepth 100000 in
set_option maxHeartbeats 4000000 in
theorem tells39 (B : Nat) (w : World) (hB : B < w.heap.size) : Tells Tryz.prog 183 #[] (fun x : Row => #[x.val]) B rows8 w := by
  intro l J Jx W hW oJ oJx hY h0
  have hlt : W.heap.size ≠ B := by have := hW.size; omega
  have hg := give_any l B W.heap.size W.heap.size 209 rows8 (by decide) J Jx oJ hY (W.alloc (.cells (rowCs rows8) 209)) (World.alloc_heap_new W _) hlt (oJ.alloc _ h0)
  refine callsIn_wide.2 ?_
  have hc := callsIn_wide.1 hg
  clear hg hY
  show Calls Tryz.prog 183 #[.func (.yield l) #[] #[]] W _
  go_enter Tryz.func183, Tryz.ntmps183
  refine rows_walk (n := 24) (l := l) (L := rows8) (by kernel_rfl) (by kernel_rfl) (by kernel_rfl) (by kernel_rfl) (by decide) (by decide) (by kernel_rfl) (by kernel_rfl) (fun w => by kernel_rfl) hc ?_
  rintro e w' ⟨⟨v, rfl⟩, h⟩
  refine ⟨v, rfl, fun a' ha' => ?_⟩
  have hd : a'.defers = [] := ha'.trans (by kernel_rfl)
  exact bodyPost_end (results_none rfl _ _ _) hd ⟨⟨_, rfl⟩, h⟩

set_option maxRecDepth 100000 in
set_option maxHeartbeats 4000000 in
theorem tells40 (B : Nat) (w : World) (hB : B < w.heap.size) : Tells Tryz.prog 184 #[] (fun x : Row => #[x.val]) B rows9 w := by
  intro l J Jx W hW oJ oJx hY h0
  have hlt : W.heap.size ≠ B := by have := hW.size; omega
  have hg := give_any l B W.heap.size W.heap.size 209 rows9 (by decide) J Jx oJ hY (W.alloc (.cells (rowCs rows9) 209)) (World.alloc_heap_new W _) hlt (oJ.alloc _ h0)
  refine callsIn_wide.2 ?_
  have hc := callsIn_wide.1 hg
  clear hg hY
  show Calls Tryz.prog 184 #[.func (.yield l) #[] #[]] W _
  go_enter Tryz.func184, Tryz.ntmps184
  refine rows_walk (n := 11) (l := l) (L := rows9) (by kernel_rfl) (by kernel_rfl) (by kernel_rfl) (by kernel_rfl) (by decide) (by decide) (by kernel_rfl) (by kernel_rfl) (fun w => by kernel_rfl) hc ?_
  rintro e w' ⟨⟨v, rfl⟩, h⟩
  refine ⟨v, rfl, fun a' ha' => ?_⟩
  have hd : a'.defers = [] := ha'.trans (by kernel_rfl)
  exact bodyPost_end (results_none rfl _ _ _) hd ⟨⟨_, rfl⟩, h⟩

end Go.Proofs.YtfoodjhffehgpaaGreatDoor.Tb
end

section
/-
  DERIVED. A row of the program's dictionary, as an entry.
-/
namespace Go.Proofs.YtfoodjhffehgpaaGreatDoor.Tb
open Go Go.Proofs Go.RowKit

/-- Which bits of a tag count. -/
def maskN (t : Nat) : Nat := if t / 65536 = 24576 then 4293001215 else 4294967295

set_option maxRecDepth 100000 in
theorem group_any (w : World) (t : Nat) : Calls Tryz.prog 133 #[.int .u32 (t : Int)] w fun e w' => e = .returned (.int .u32 ((t / 65536 : Nat) : Int)) ∧ w = w' := by
  go_enter Tryz.func133, Tryz.ntmps133
  go_wp2
  go_ret
  exact ⟨by simp, rfl⟩

set_option maxRecDepth 100000 in
theorem mask_any (w : World) (t : Nat) (v l m : Int) (s : ByteArray) : Calls Tryz.prog 136 #[.agg #[.int .u32 (t : Int), .int .i64 v, .int .i64 l, .int .i64 m, .string s]] w fun e w' => e = .returned (.int .u32 (maskN t : Nat)) ∧ Below w.heap.size w w' := by
  have c := fun W => group_any W t
  by_cases hg : t / 65536 = 24576
  · have hm : maskN t = 4293001215 := by unfold maskN; rw [if_pos hg]
    have hgi : (((t / 65536 : Nat) : Int) == 24576) = true := by rw [hg]; rfl
    rw [hm]
    generalize t / 65536 = d at c hgi
    clear hm hg
    go_enter Tryz.func136, Tryz.ntmps136
    go_wp2_with (first | (go_at_call 133; refine (c _).mono ?_; rintro e w' ⟨rfl, rfl⟩) | fail)
    go_ret
    exact ⟨rfl, (Below.refl _ _).alloc (Nat.le_refl _) _⟩
  · have hm : maskN t = 4294967295 := by unfold maskN; rw [if_neg hg]
    have hgi : (((t / 65536 : Nat) : Int) == 24576) = false := beq_eq_false_iff_ne.2 (by omega)
    rw [hm]
    generalize t / 65536 = d at c hgi
    clear hm hg
    go_enter Tryz.func136, Tryz.ntmps136
    go_wp2_with (first | (go_at_call 133; refine (c _).mono ?_; rintro e w' ⟨rfl, rfl⟩) | fail)
    go_ret
    exact ⟨rfl, (Below.refl _ _).alloc (Nat.le_refl _) _⟩

/-- A row, as it lies in memory. -/
structure R5 (W : World) (g : Nat) (t v l m : Int) (s : ByteArray) : Prop where
  c0 : W.cell? ⟨g, 0, none⟩ = some (.int .u32 t)
  c1 : W.cell? ⟨g, 1, none⟩ = some (.int .i64 v)
  c2 : W.cell? ⟨g, 2, none⟩ = some (.int .i64 l)
  c3 : W.cell? ⟨g, 3, none⟩ = some (.int .i64 m)
  c4 : W.cell? ⟨g, 4, none⟩ = some (.string s)

theorem R5.after {W W' : World} {g : Nat} {t v l m : Int} {s : ByteArray} (hb : Below W.heap.size W W') (h : R5 W g t v l m s) : R5 W' g t v l m s :=
  ⟨(hb.cell (cell_lt h.c0)).trans h.c0, (hb.cell (cell_lt h.c1)).trans h.c1, (hb.cell (cell_lt h.c2)).trans h.c2, (hb.cell (cell_lt h.c3)).trans h.c3, (hb.cell (cell_lt h.c4)).trans h.c4⟩

theorem E6.after {W W' : World} {g : Nat} (hb : Below W.heap.size W W') (h : E6 W g) : E6 W' g := h.next hb

theorem below_after {w W W' : World} (hb : Below W.heap.size W W') (h : Below w.heap.size w W) : Below w.heap.size w W' := h.trans (hb.mono h.size)

end Go.Proofs.YtfoodjhffehgpaaGreatDoor.Tb
end

section
namespace Go.Proofs.YtfoodjhffehgpaaGreatDoor.Tb
open Go Go.Proofs Go.RowKit

set_option maxRecDepth 100000 in
theorem mask_exact (w : World) (t : Nat) (v l m : Int) (s : ByteArray) : Calls Tryz.prog 136 #[.agg #[.int .u32 (t : Int), .int .i64 v, .int .i64 l, .int .i64 m, .string s]] w fun e w' => e = .returned (.int .u32 (maskN t : Nat)) ∧ w.alloc (.cells #[.int .u32 (t : Int), .int .i64 v, .int .i64 l, .int .i64 m, .string s] 209) = w' := by
  have c := fun W => group_any W t
  by_cases hg : t / 65536 = 24576
  · have hm : maskN t = 4293001215 := by unfold maskN; rw [if_pos hg]
    have hgi : (((t / 65536 : Nat) : Int) == 24576) = true := by rw [hg]; rfl
    rw [hm]
    generalize t / 65536 = d at c hgi
    clear hm hg
    go_enter Tryz.func136, Tryz.ntmps136
    go_wp2_with (first | (go_at_call 133; refine (c _).mono ?_; rintro e w' ⟨rfl, rfl⟩) | fail)
    go_ret
    exact ⟨rfl, rfl⟩
  · have hm : maskN t = 4294967295 := by unfold maskN; rw [if_neg hg]
    have hgi : (((t / 65536 : Nat) : Int) == 24576) = false := beq_eq_false_iff_ne.2 (by omega)
    rw [hm]
    generalize t / 65536 = d at c hgi
    clear hm hg
    go_enter Tryz.func136, Tryz.ntmps136
    go_wp2_with (first | (go_at_call 133; refine (c _).mono ?_; rintro e w' ⟨rfl, rfl⟩) | fail)
    go_ret
    exact ⟨rfl, rfl⟩

set_option maxRecDepth 100000 in
set_option maxHeartbeats 2000000 in
theorem rowEntry_any (w : World) (t : Nat) (v l m : Int) (s : ByteArray) : Calls Tryz.prog 137 #[.agg #[.int .u32 (t : Int), .int .i64 v, .int .i64 l, .int .i64 m, .string s]] w fun e w' => e = .returned (.agg #[.int .u32 (t : Int), .int .u32 (maskN t : Nat), .int .i64 v, .string s, .int .i64 l, .int .i64 m]) ∧ Below w.heap.size w w' := by
  have c := fun W => mask_exact W t v l m s
  generalize maskN t = M at c ⊢
  obtain ⟨W1, hW1⟩ : ∃ W1, (w.alloc (.cells #[.int .u32 (t : Int), .int .i64 v, .int .i64 l, .int .i64 m, .string s] 209)).alloc (.cells #[.int .u32 0, .int .u32 0, .int .i64 0, .string ⟨#[]⟩, .int .i64 0, .int .i64 0] 58) = W1 := ⟨_, rfl⟩
  have HBl : Hid (Below w.heap.size w W1) := hW1 ▸ ((Below.refl _ _).alloc (Nat.le_refl _) _).alloc (by simp) _
  have hS : R5 W1 w.heap.size (t : Int) v l m s := by
    rw [← hW1]
    exact ⟨by simp, by simp, by simp, by simp, by simp⟩
  have hE : E6 W1 (w.heap.size + 1) := by
    rw [← hW1]
    exact ⟨by simp, by simp, by simp, by simp, by simp, by simp, fun i => by simp⟩
  have hlt : w.heap.size + 1 < W1.heap.size := by rw [← hW1]; simp
  have hlt0 : w.heap.size < W1.heap.size := by omega
  go_enter Tryz.func137, Tryz.ntmps137
  go_wp2
  clear hW1
  obtain ⟨s0, s1, s2, s3, s4⟩ := hS
  obtain ⟨z0, z1, z2, z3, z4, z5, zf⟩ := hE
  refine wp_region_noPanic ?_
  go_region_held3 (fun w' => w'.cell? ⟨w.heap.size, 0, none⟩ = some (.int .u32 (t : Int)) ∧ w'.cell? ⟨w.heap.size, 1, none⟩ = some (.int .i64 v) ∧ w'.cell? ⟨w.heap.size, 2, none⟩ = some (.int .i64 l) ∧ w'.cell? ⟨w.heap.size, 3, none⟩ = some (.int .i64 m) ∧ w'.cell? ⟨w.heap.size, 4, none⟩ = some (.string s)) (go_keep) (first | (go_at_call 136; refine (c _).mono ?_; rintro e w' ⟨rfl, rfl⟩))
  refine NoPanic.normal ?_
  go_wp2
  have hU := E6.sets ⟨z0, z1, z2, z3, z4, z5, zf⟩ (.int .u32 (t : Int)) (.int .u32 (M : Int)) (.int .i64 v) (.string s) (.int .i64 l) (.int .i64 m)
  simp only at hU
  obtain ⟨u0, u1, u2, u3, u4, u5⟩ := hU
  have HBU : Hid (Below w.heap.size w ((((((W1.setCell ⟨w.heap.size + 1, 0, none⟩ (.int .u32 (t : Int))).setCell ⟨w.heap.size + 1, 1, none⟩ (.int .u32 (M : Int))).setCell ⟨w.heap.size + 1, 2, none⟩ (.int .i64 v)).setCell ⟨w.heap.size + 1, 3, none⟩ (.string s)).setCell ⟨w.heap.size + 1, 4, none⟩ (.int .i64 l)).setCell ⟨w.heap.size + 1, 5, none⟩ (.int .i64 m))) := (((((HBl.out.setCell (p := ⟨w.heap.size + 1, 0, none⟩) (by simp) _).setCell (p := ⟨w.heap.size + 1, 1, none⟩) (by simp) _).setCell (p := ⟨w.heap.size + 1, 2, none⟩) (by simp) _).setCell (p := ⟨w.heap.size + 1, 3, none⟩) (by simp) _).setCell (p := ⟨w.heap.size + 1, 4, none⟩) (by simp) _).setCell (p := ⟨w.heap.size + 1, 5, none⟩) (by simp) _
  have hsU : w.heap.size + 1 < ((((((W1.setCell ⟨w.heap.size + 1, 0, none⟩ (.int .u32 (t : Int))).setCell ⟨w.heap.size + 1, 1, none⟩ (.int .u32 (M : Int))).setCell ⟨w.heap.size + 1, 2, none⟩ (.int .i64 v)).setCell ⟨w.heap.size + 1, 3, none⟩ (.string s)).setCell ⟨w.heap.size + 1, 4, none⟩ (.int .i64 l)).setCell ⟨w.heap.size + 1, 5, none⟩ (.int .i64 m)).heap.size := by simp; omega
  generalize ((((((W1.setCell ⟨w.heap.size + 1, 0, none⟩ (.int .u32 (t : Int))).setCell ⟨w.heap.size + 1, 1, none⟩ (.int .u32 (M : Int))).setCell ⟨w.heap.size + 1, 2, none⟩ (.int .i64 v)).setCell ⟨w.heap.size + 1, 3, none⟩ (.string s)).setCell ⟨w.heap.size + 1, 4, none⟩ (.int .i64 l)).setCell ⟨w.heap.size + 1, 5, none⟩ (.int .i64 m)) = U at u0 u1 u2 u3 u4 u5 HBU hsU ⊢
  have hba : Below U.heap.size U (U.alloc (.cells #[.int .u32 (t : Int), .int .i64 v, .int .i64 l, .int .i64 m, .string s] 209)).drew := ((Below.refl _ _).alloc (Nat.le_refl _) _).drew
  have a0 := (hba.cell (p := ⟨w.heap.size + 1, 0, none⟩) hsU).trans u0
  have a1 := (hba.cell (p := ⟨w.heap.size + 1, 1, none⟩) hsU).trans u1
  have a2 := (hba.cell (p := ⟨w.heap.size + 1, 2, none⟩) hsU).trans u2
  have a3 := (hba.cell (p := ⟨w.heap.size + 1, 3, none⟩) hsU).trans u3
  have a4 := (hba.cell (p := ⟨w.heap.size + 1, 4, none⟩) hsU).trans u4
  have a5 := (hba.cell (p := ⟨w.heap.size + 1, 5, none⟩) hsU).trans u5
  have HBV := below_after hba HBU.out
  generalize (U.alloc (.cells #[.int .u32 (t : Int), .int .i64 v, .int .i64 l, .int .i64 m, .string s] 209)).drew = V at a0 a1 a2 a3 a4 a5 HBV ⊢
  exact bodyPost_ret (v := .agg #[.int .u32 (t : Int), .int .u32 (M : Int), .int .i64 v, .string s, .int .i64 l, .int .i64 m]) (by simp only [results, Tryz.results137]; simp [go_sem, a0, a1, a2, a3, a4, a5]) rfl ⟨rfl, HBV⟩
end Go.Proofs.YtfoodjhffehgpaaGreatDoor.Tb
end

section
/-
  DERIVED. The parts of the program's dictionary.
-/
namespace Go.Proofs.YtfoodjhffehgpaaGreatDoor.Tb
open Go Go.Proofs Go.RowKit

/-- A part: its last tag, its rows' iterator. -/
def partOf : Nat → List Value
  | 0 => [.int .u32 524287, .func (.func 175) #[] #[]]
  | 1 => [.int .u32 528383, .func (.func 176) #[] #[]]
  | 2 => [.int .u32 1048575, .func (.func 177) #[] #[]]
  | 3 => [.int .u32 1572863, .func (.func 178) #[] #[]]
  | 4 => [.int .u32 3276799, .func (.func 179) #[] #[]]
  | 5 => [.int .u32 4194303, .func (.func 180) #[] #[]]
  | 6 => [.int .u32 4194880, .func (.func 181) #[] #[]]
  | 7 => [.int .u32 4198399, .func (.func 182) #[] #[]]
  | 8 => [.int .u32 7340031, .func (.func 183) #[] #[]]
  | _ => [.int .u32 4294967295, .func (.func 184) #[] #[]]

def partsC : Array Value := ((List.range 10).flatMap partOf).toArray

set_option maxRecDepth 100000 in
set_option maxHeartbeats 2000000 in
theorem parts_any (w : World) : Calls Tryz.prog 158 #[] w fun e w' => e = .returned (.agg partsC) ∧ w.alloc (.cells partsC 220) = w' := by
  go_enter Tryz.func158, Tryz.ntmps158
  go_wp2_with (refine wpList_store_rowTo rfl 220 (.tmp 0) (.tmp 11) rfl rfl w.heap.size partsC rfl (by kernel_rfl) 220 _ (heap_alloc_last w _) (by kernel_rfl) (by kernel_rfl) (by kernel_rfl) ?_)
  rw [World.setRow_alloc_new]
  refine bodyPost_ret (v := .agg partsC) ?_ rfl ⟨rfl, rfl⟩
  exact results_cell_row rfl _ _ w.heap.size 220 partsC (0, 0) _ rfl (heap_alloc_last w _) Tryz.underlying220 rfl (by kernel_rfl)

theorem part_at : ∀ (k : Fin 10) (W : World), (Instr.index 220 (.agg partsC) (.int .i64 (k.val : Int))).run Tryz.prog W = .ok (.agg (partOf k.val).toArray) W
  | ⟨0, _⟩ => fun _ => by kernel_rfl
  | ⟨1, _⟩ => fun _ => by kernel_rfl
  | ⟨2, _⟩ => fun _ => by kernel_rfl
  | ⟨3, _⟩ => fun _ => by kernel_rfl
  | ⟨4, _⟩ => fun _ => by kernel_rfl
  | ⟨5, _⟩ => fun _ => by kernel_rfl
  | ⟨6, _⟩ => fun _ => by kernel_rfl
  | ⟨7, _⟩ => fun _ => by kernel_rfl
  | ⟨8, _⟩ => fun _ => by kernel_rfl
  | ⟨9, _⟩ => fun _ => by kernel_rfl
  | ⟨n + 10, h⟩ => absurd h (by omega)
end Go.Proofs.YtfoodjhffehgpaaGreatDoor.Tb
end

section
/-
  DERIVED. Marks that loops leave; what stays where it lay; the parts' rows.
-/
namespace Go.Proofs.YtfoodjhffehgpaaGreatDoor.Tb
open Go Go.RowKit Go.Shelf

/-- The marks that ranges over functions have left, newest first. -/
def Marks (n₀ : Nat) : List Deferred → World → Prop
  | [], _ => True
  | d :: ds, W => ∃ D, d = { target := .collected D, args := #[] } ∧ n₀ ≤ D ∧ W.heap[D]? = some (.deferred (some [])) ∧ (∀ d' ∈ ds, ∃ D', d' = { target := .collected D', args := #[] } ∧ D' < D) ∧ Marks n₀ ds W

theorem Marks.mem {n₀ : Nat} {W : World} : ∀ {ds : List Deferred}, Marks n₀ ds W → ∀ d ∈ ds, ∃ D, d = { target := .collected D, args := #[] } ∧ n₀ ≤ D ∧ D < W.heap.size
  | [], _, d, hd => by cases hd
  | d0 :: ds, h, d, hd => by
    obtain ⟨D, rfl, h1, h2, h3, h4⟩ := h
    rcases List.mem_cons.1 hd with rfl | hd
    · exact ⟨D, rfl, h1, (Array.getElem?_eq_some_iff.1 h2).1⟩
    · exact Marks.mem h4 d hd

theorem Marks.keep {n₀ : Nat} {W W' : World} : ∀ {ds : List Deferred}, Marks n₀ ds W → (∀ d ∈ ds, ∀ D, d = { target := .collected D, args := #[] } → W'.heap[D]? = W.heap[D]?) → Marks n₀ ds W'
  | [], _, _ => trivial
  | d0 :: ds, h, hk => by
    obtain ⟨D, rfl, h1, h2, h3, h4⟩ := h
    exact ⟨D, rfl, h1, (hk _ (List.mem_cons_self ..) D rfl).trans h2, h3, Marks.keep h4 (fun d hd D' e => hk d (List.mem_cons_of_mem _ hd) D' e)⟩

theorem Marks.below {n₀ : Nat} {W W' : World} {ds : List Deferred} (h : Marks n₀ ds W) (hb : Below W.heap.size W W') : Marks n₀ ds W' :=
  h.keep fun d hd D e => by
    obtain ⟨D', e', _, hlt⟩ := h.mem d hd
    obtain rfl : D' = D := by rw [e] at e'; simpa using e'.symm
    exact hb.block D' hlt

theorem Marks.cons {n₀ D : Nat} {w W : World} {ds : List Deferred} (h : Marks n₀ ds w) (hb : Below w.heap.size w W) (hD : w.heap.size ≤ D) (hn : n₀ ≤ w.heap.size) (hK : W.heap[D]? = some (.deferred (some []))) : Marks n₀ ({ target := .collected D, args := #[] } :: ds) W :=
  ⟨D, rfl, Nat.le_trans hn hD, hK, fun d hd => by obtain ⟨D', e, _, hlt⟩ := h.mem d hd; exact ⟨D', e, Nat.lt_of_lt_of_le hlt hD⟩, h.below hb⟩


/-- A function leaves over its marks; what abides the turning of a mark is still there. -/
theorem leaves_keep {F : Fence} {n : Nat} {P : Program} {fn : Func} {tmps : Array Value} {R : Ending → World → Prop} {n₀ : Nat} {Z : World → Prop}
    (hZ : ∀ V D o, Z V → n₀ ≤ D → V.heap[D]? = some o → o.isCells = false → Z (V.putObj D (.deferred none))) : ∀ (ds : List Deferred) (W : World), Marks n₀ ds W → Z W →
    (∀ W', Z W' → LeavesIn F n P fn tmps R [] .returning W') → LeavesInM F n P fn tmps R ds .returning W
  | [], W, _, hz, h => h W hz
  | d :: ds, W, hm, hz, h => by
    obtain ⟨D, rfl, h1, h2, h3, h4⟩ := hm
    refine ⟨by simp, .inl ⟨D, _, rfl, run_takeDeferred h2, leaves_keep hZ ds _ (h4.keep ?_) (hZ W D _ hz h1 h2 rfl) h⟩⟩
    rintro d hd D' rfl
    obtain ⟨D'', e, hlt⟩ := h3 _ hd
    obtain rfl : D'' = D' := by simpa using e.symm
    exact World.putObj_heap_other (by omega)

theorem Stay.of_kept {s B : Nat} {V V' : World} (hB : B < s) (h1 : KC B V V') (h2 : KeepsFrom s V V') : Stay s V V' := by
  refine ⟨h1.size, fun k hk hlt => ?_⟩
  obtain ⟨o, ho⟩ : ∃ o, V.heap[k]? = some o := ⟨V.heap[k], by simp [hlt]⟩
  rw [ho]
  cases hc : o.isCells with
  | true => exact h1.same k o ho hc (by omega)
  | false => exact h2.same k o hk ho hc
theorem Stay.grown {s n : Nat} {X V V' : World} {row : Option Nat} (h : Stay s X V) (hg : V.grownBy V' row) (hr : ∀ r, row = some r → n ≤ r) (hn : X.heap.size ≤ n) : Stay s X V' :=
  ⟨Nat.le_trans h.1 hg.size, fun k hk hlt => (hg.block k (Nat.lt_of_lt_of_le hlt h.1) (fun e => by have := hr k e.symm; omega)).trans (h.2 k hk hlt)⟩
theorem Stay.marks {s : Nat} {V V' : World} {ds : List Deferred} (h : Stay s V V') (hm : Marks s ds V) : Marks s ds V' :=
  hm.keep fun d hd D e => by
    obtain ⟨D', e', h1, hlt⟩ := hm.mem d hd
    obtain rfl : D' = D := by rw [e] at e'; simpa using e'.symm
    exact h.2 D' h1 hlt
theorem Stay.cell {s : Nat} {V V' : World} {p : Addr} {v : Value} (h : Stay s V V') (hs : s ≤ p.block) (hc : V.cell? p = some v) : V'.cell? p = some v :=
  (World.cell?_of_block (h.2 p.block hs (cell_lt hc))).trans hc
theorem Marks.push {s D : Nat} {w W : World} {ds : List Deferred} (h : Marks s ds w) (hb : Stay s w W) (hD : w.heap.size ≤ D) (hn : s ≤ w.heap.size) (hK : W.heap[D]? = some (.deferred (some []))) : Marks s ({ target := .collected D, args := #[] } :: ds) W :=
  ⟨D, rfl, Nat.le_trans hn hD, hK, fun d hd => by obtain ⟨D', e, _, hlt⟩ := h.mem d hd; exact ⟨D', e, Nat.lt_of_lt_of_le hlt hD⟩, hb.marks h⟩

def partRows : Nat → List Row
  | 0 => rows0
  | 1 => rows1
  | 2 => rows2
  | 3 => rows3
  | 4 => rows4
  | 5 => rows5
  | 6 => rows6
  | 7 => rows7
  | 8 => rows8
  | _ => rows9
def upTo (k : Nat) : List Row := (List.range k).flatMap partRows
theorem upTo_succ (k : Nat) : upTo (k + 1) = upTo k ++ partRows k := by simp [upTo, List.range_succ]
theorem part_tells : ∀ (k : Nat), k < 10 → ∀ (B : Nat) (w : World), B < w.heap.size → Tells Tryz.prog (175 + k) #[] (fun x : Row => #[x.val]) B (partRows k) w
  | 0, _ => tells31
  | 1, _ => tells32
  | 2, _ => tells33
  | 3, _ => tells34
  | 4, _ => tells35
  | 5, _ => tells36
  | 6, _ => tells37
  | 7, _ => tells38
  | 8, _ => tells39
  | 9, _ => tells40
  | n + 10, h => absurd h (by omega)
theorem part_enters : ∀ (k : Nat), k < 10 → ∀ args w, (callFunc (175 + k) args).run Tryz.prog w = .ok (.enter (175 + k) args) w
  | 0, _ => enters_of Tryz.func175 (by kernel_rfl) rfl
  | 1, _ => enters_of Tryz.func176 (by kernel_rfl) rfl
  | 2, _ => enters_of Tryz.func177 (by kernel_rfl) rfl
  | 3, _ => enters_of Tryz.func178 (by kernel_rfl) rfl
  | 4, _ => enters_of Tryz.func179 (by kernel_rfl) rfl
  | 5, _ => enters_of Tryz.func180 (by kernel_rfl) rfl
  | 6, _ => enters_of Tryz.func181 (by kernel_rfl) rfl
  | 7, _ => enters_of Tryz.func182 (by kernel_rfl) rfl
  | 8, _ => enters_of Tryz.func183 (by kernel_rfl) rfl
  | 9, _ => enters_of Tryz.func184 (by kernel_rfl) rfl
  | n + 10, h => absurd h (by omega)
theorem part_is : ∀ (k : Nat), k < 10 → ∃ T : Int, ∀ W : World, (Instr.index 220 (.agg partsC) (.int .i64 (k : Int))).run Tryz.prog W = .ok (.agg #[.int .u32 T, .func (.func (175 + k)) #[] #[]]) W
  | 0, _ => ⟨_, part_at 0⟩
  | 1, _ => ⟨_, part_at 1⟩
  | 2, _ => ⟨_, part_at 2⟩
  | 3, _ => ⟨_, part_at 3⟩
  | 4, _ => ⟨_, part_at 4⟩
  | 5, _ => ⟨_, part_at 5⟩
  | 6, _ => ⟨_, part_at 6⟩
  | 7, _ => ⟨_, part_at 7⟩
  | 8, _ => ⟨_, part_at 8⟩
  | 9, _ => ⟨_, part_at 9⟩
  | n + 10, h => absurd h (by omega)

/-- A frame of 18 slots by its slots. -/
theorem frame18 (t : Array Value) (h : t.size = 18) : ∃ u : Nat → Value, (∀ n, u n = t.toList.getD n undef) ∧ t = #[u 0, u 1, u 2, u 3, u 4, u 5, u 6, u 7, u 8, u 9, u 10, u 11, u 12, u 13, u 14, u 15, u 16, u 17] := by
  obtain ⟨l⟩ := t
  have hl : l.length = 18 := by simpa using h
  refine ⟨fun n => l.getD n undef, fun n => rfl, ?_⟩
  have e := Go.Deep.map_by_index l undef id
  rw [hl] at e
  have e2 : l = (List.range 18).map fun i => l.getD i undef := by simpa using e
  conv => lhs; rw [e2]
  rfl

/-- What an entry is of a row. -/
def Row.ent (r : Row) : Value := .agg #[.int .u32 (r.t : Int), .int .u32 (maskN r.t : Nat), .int .i64 r.v, .string r.s, .int .i64 r.l, .int .i64 r.m]
end Go.Proofs.YtfoodjhffehgpaaGreatDoor.Tb
end

section
/-
  DERIVED. A tag, looked up in two ways: plain functions.
-/
namespace Go.Proofs.YtfoodjhffehgpaaGreatDoor.Tb

/-- The last tag of a part. -/
def lastOf : Nat → Nat
  | 0 => 524287
  | 1 => 528383
  | 2 => 1048575
  | 3 => 1572863
  | 4 => 3276799
  | 5 => 4194303
  | 6 => 4194880
  | 7 => 4198399
  | 8 => 7340031
  | _ => 4294967295
def hit (t : Nat) (r : Row) : Bool := decide (t &&& maskN r.t = r.t)
/-- A tag lies in a part. -/
def InPart (t k : Nat) : Prop := k < 10 ∧ t ≤ lastOf k ∧ (∀ j, j < k → lastOf j < t)
def docF (t : Nat) : List Row → Option Row
  | [] => none
  | r :: rs => if hit t r then some r else if t < r.t then none else docF t rs
theorem hit_le {t : Nat} {r : Row} (h : hit t r = true) : r.t ≤ t := by
  have h1 : t &&& maskN r.t = r.t := by simpa [hit] using h
  rw [← h1]
  exact Nat.and_le_left
theorem hit_eq {t : Nat} {r : Row} (h : hit t r = true) (ht : t < 4294967296) (hm : r.t / 65536 ≠ 24576) : r.t = t := by
  have h1 : t &&& maskN r.t = r.t := by simpa [hit] using h
  rw [← h1]
  unfold maskN
  rw [if_neg hm, show (4294967295 : Nat) = 2 ^ 32 - 1 from rfl, Nat.and_two_pow_sub_one_eq_mod]
  exact Nat.mod_eq_of_lt (by simpa using ht)
theorem docF_find (t : Nat) : ∀ L : List Row, L.Pairwise (fun a b => a.t < b.t) → docF t L = L.find? (hit t)
  | [], _ => rfl
  | r :: rs, h => by
    rw [List.pairwise_cons] at h
    rw [docF, List.find?_cons]
    cases hr : hit t r with
    | true => rfl
    | false =>
      simp only [Bool.false_eq_true, if_false]
      by_cases hlt : t < r.t
      · rw [if_pos hlt]
        symm
        rw [List.find?_eq_none]
        intro x hx hh
        have := hit_le hh
        have := h.1 x hx
        omega
      · rw [if_neg hlt]
        exact docF_find t rs h.2
theorem rises : (upTo 10).Pairwise (fun a b => a.t < b.t) := by decide +kernel
def lowOf : Nat → Nat
  | 0 => 0
  | k + 1 => lastOf k + 1
theorem bounds_all : ∀ j : Fin 10, (partRows j.val).all (fun r => decide (lowOf j.val ≤ r.t) && decide (r.t ≤ lastOf j.val) && (decide (j.val = 9) || decide (r.t / 65536 ≠ 24576))) = true := by decide +kernel
theorem low_last : ∀ j k : Fin 10, j.val < k.val → lastOf j.val < lowOf k.val := by decide
theorem no_other {t k j : Nat} (ht : t < 4294967296) (hk : InPart t k) (hj : j < 10) (hne : j ≠ k) : (partRows j).find? (hit t) = none := by
  obtain ⟨k1, k2, k3⟩ := hk
  have hb := bounds_all ⟨j, hj⟩
  rw [List.find?_eq_none]
  intro r hr hh
  have h1 := List.all_eq_true.1 hb r hr
  simp only [Bool.and_eq_true, Bool.or_eq_true, decide_eq_true_eq] at h1
  obtain ⟨⟨h2, h3⟩, h4⟩ := h1
  have hle := hit_le hh
  by_cases h9 : j = 9
  · have h5 := low_last ⟨k, k1⟩ ⟨j, hj⟩ (by simp only; omega)
    simp only at h5
    omega
  · have he := hit_eq hh ht (h4.resolve_left h9)
    rcases Nat.lt_or_gt_of_ne hne with h | h
    · have := k3 j h
      omega
    · have h5 := low_last ⟨k, k1⟩ ⟨j, hj⟩ h
      simp only at h5
      omega
theorem find_upTo {t k : Nat} (ht : t < 4294967296) (hk : InPart t k) : ∀ n, n ≤ 10 → (upTo n).find? (hit t) = if k < n then (partRows k).find? (hit t) else none
  | 0, _ => by simp [upTo]
  | n + 1, hn => by
    rw [upTo_succ, List.find?_append, find_upTo ht hk n (by omega)]
    by_cases h1 : k < n
    · rw [if_pos h1, if_pos (by omega), no_other (j := n) ht hk (by omega) (by omega)]
      cases (partRows k).find? (hit t) <;> rfl
    · rw [if_neg h1]
      by_cases h2 : k = n
      · subst h2
        rw [if_pos (by omega)]
        rfl
      · rw [if_neg (by omega), no_other (j := n) ht hk (by omega) (by omega)]
        rfl
/-- Both ways to look a tag up find the same. -/
theorem find_both {t k : Nat} (ht : t < 4294967296) (hk : InPart t k) : docF t (upTo 10) = (partRows k).find? (hit t) := by
  rw [docF_find t _ rises, find_upTo ht hk 10 (Nat.le_refl _), if_pos hk.1]
end Go.Proofs.YtfoodjhffehgpaaGreatDoor.Tb
end

section
/-
  DERIVED. The part of the program's dictionary in which a tag lies.
-/
namespace Go.Proofs.YtfoodjhffehgpaaGreatDoor.Tb
open Go Go.Proofs Go.RowKit Go.Shelf

theorem parts_cells : ∀ (k : Fin 10), partsC[2 * k.val]? = some (.int .u32 ((lastOf k.val : Nat) : Int)) ∧ partsC[2 * k.val + 1]? = some (.func (.func (175 + k.val)) #[] #[])
  | ⟨0, _⟩ => ⟨rfl, rfl⟩
  | ⟨1, _⟩ => ⟨rfl, rfl⟩
  | ⟨2, _⟩ => ⟨rfl, rfl⟩
  | ⟨3, _⟩ => ⟨rfl, rfl⟩
  | ⟨4, _⟩ => ⟨rfl, rfl⟩
  | ⟨5, _⟩ => ⟨rfl, rfl⟩
  | ⟨6, _⟩ => ⟨rfl, rfl⟩
  | ⟨7, _⟩ => ⟨rfl, rfl⟩
  | ⟨8, _⟩ => ⟨rfl, rfl⟩
  | ⟨9, _⟩ => ⟨rfl, rfl⟩
  | ⟨n + 10, h⟩ => absurd h (by omega)
theorem part_cell {W : World} {B : Nat} (h : W.heap[B]? = some (.cells partsC 220 (0, 0))) (k : Nat) (hk : k < 10) :
    W.cell? ⟨B, k * 2, none⟩ = some (.int .u32 ((lastOf k : Nat) : Int)) ∧ W.cell? ⟨B, k * 2 + 1, none⟩ = some (.func (.func (175 + k)) #[] #[]) := by
  have h1 := parts_cells ⟨k, hk⟩
  simp only at h1
  rw [Nat.mul_comm] at h1
  exact ⟨(by simp [World.cell?, h, h1.1]), (by simp [World.cell?, h, h1.2])⟩

theorem alloc3 (w : World) (a b c : Obj) : (((w.alloc a).alloc b).alloc c).heap[w.heap.size + 1 + 1]? = some c := by
  have := World.alloc_heap_new ((w.alloc a).alloc b) c
  rwa [World.size_alloc, World.size_alloc] at this
theorem setRow3 (w : World) (a b : Obj) (c c' : Array Value) (t : TypeId) : (((w.alloc a).alloc b).alloc (.cells c t)).setRow (w.heap.size + 1 + 1) c' = ((w.alloc a).alloc b).alloc (.cells c' t) := by
  have := World.setRow_alloc_new ((w.alloc a).alloc b) c c' t
  rwa [World.size_alloc, World.size_alloc] at this

set_option maxRecDepth 100000 in
set_option maxHeartbeats 2000000 in
theorem partOf_any (w : World) (t : Nat) (ht : t < 4294967296) : Calls Tryz.prog 135 #[.int .u32 (t : Int)] w fun e w' => ∃ (k : Nat) (T : Int), e = .returned (.agg #[.int .u32 T, .func (.func (175 + k)) #[] #[]]) ∧ Hid (InPart t k) ∧ Below w.heap.size w w' := by
  have c46 := fun W => parts_any W
  obtain ⟨PC, hPC⟩ : ∃ PC, partsC = PC := ⟨_, rfl⟩
  have hcell : ∀ {W : World} {B : Nat}, W.heap[B]? = some (.cells PC 220 (0, 0)) → ∀ (k : Nat), k < 10 → W.cell? ⟨B, k * 2, none⟩ = some (.int .u32 ((lastOf k : Nat) : Int)) ∧ W.cell? ⟨B, k * 2 + 1, none⟩ = some (.func (.func (175 + k)) #[] #[]) := fun h => part_cell (by rw [hPC]; exact h)
  have HC : Hid _ := @hcell
  have hs1 : (Tryz.prog.info? 220).map (·.size) = some PC.size := by rw [← hPC]; kernel_rfl
  have hs2 : PC.all (·.oneCell') = true := by rw [← hPC]; kernel_rfl
  have hs3 : (20 : Nat) = PC.size := by rw [← hPC]; rfl
  rw [hPC] at c46
  clear hPC hcell
  go_enter Tryz.func135, Tryz.ntmps135
  go_wp2_with (first | (go_at_call 158; refine (c46 _).mono ?_; rintro e W1 ⟨rfl, rfl⟩) | (refine wpList_store_rowTo rfl 220 (.tmp 3) (.tmp 5) rfl rfl (w.heap.size + 1 + 1) PC rfl rfl 220 _ (alloc3 _ _ _ _) hs1 hs3 hs2 ?_))
  rw [setRow3]
  obtain ⟨V, hV⟩ : ∃ V, ((w.alloc (.cells #[.int .u32 0, .nilFunc] 206)).alloc (.cells PC 220)).alloc (.cells PC 220) = V := ⟨_, rfl⟩
  rw [hV]
  have hb1 : Below (w.heap.size + 1) (w.alloc (.cells #[.int .u32 0, .nilFunc] 206)) V := by rw [← hV]; exact ((Below.refl _ _).alloc (by simp) _).alloc (by simp) _
  have HB : Hid (Below w.heap.size w V) := ((Below.refl _ _).alloc (Nat.le_refl _) _).trans (hb1.mono (by omega))
  have hat := HC.out (W := V) (B := w.heap.size + 1 + 1) (by rw [← hV]; exact alloc3 _ _ _ _)
  have r0 : V.cell? ⟨w.heap.size, 0, none⟩ = some (.int .u32 0) := (hb1.cell (p := ⟨w.heap.size, 0, none⟩) (Nat.lt_succ_self _)).trans (by simp)
  have r1 : V.cell? ⟨w.heap.size, 1, none⟩ = some .nilFunc := (hb1.cell (p := ⟨w.heap.size, 1, none⟩) (Nat.lt_succ_self _)).trans (by simp)
  have rf : ∀ i, V.frozen? ⟨w.heap.size, i, none⟩ = false := fun i => (hb1.frozen (p := ⟨w.heap.size, i, none⟩) (Nat.lt_succ_self _)).trans (by simp)
  clear hV hs1 hs2 hs3 HC c46 hb1
  have HA : Hid _ := hat
  clear hat
  go_wp2
  go_loop [4] (fun x => ∃ k : Nat, x = .int .i64 (k : Int) ∧ k < 10 ∧ Hid (∀ j, j < k → lastOf j < t)) (fun x => 100 - (intOf x).toNat)
  case atStart => exact ⟨0, rfl, by omega, fun j hj => absurd hj (by omega)⟩
  case round =>
    obtain ⟨k, rfl, hk, HK⟩ := hrel
    obtain ⟨c0, c1⟩ := HA.out k hk
    by_cases hlt : lastOf k < t
    · have hkI : decide (((lastOf k : Nat) : Int) < (t : Int)) = true := by simp; omega
      have hk9 : k < 9 := by
        by_cases h9 : k < 9
        · exact h9
        · obtain rfl : k = 9 := by omega
          have : (4294967295 : Nat) < t := hlt
          omega
      have HK2 : Hid (∀ j, j < k + 1 → lastOf j < t) := by
        intro j hj
        by_cases h : j = k
        · rw [h]; exact hlt
        · exact HK.out j (by omega)
      generalize lastOf k = X at c0 hkI hlt
      go_wp2
      exact ⟨⟨k + 1, by simp, by omega, HK2⟩, by simp [intOf]; omega⟩
    · have hkI : decide (((lastOf k : Nat) : Int) < (t : Int)) = false := by simp; omega
      have HI : Hid (InPart t k) := ⟨hk, by omega, HK.out⟩
      generalize lastOf k = X at c0 hkI hlt
      go_wp2
      refine bodyPost_ret (v := .agg #[.int .u32 (X : Int), .func (.func (175 + k)) #[] #[]]) ?_ rfl ⟨k, ⟨X, rfl⟩, HI, (HB.out.setCell (p := ⟨w.heap.size, 0, none⟩) (Nat.le_refl _) _).setCell (p := ⟨w.heap.size, 1, none⟩) (Nat.le_refl _) _⟩
      have u0 : ((V.setCell ⟨w.heap.size, 0, none⟩ (.int .u32 (X : Int))).setCell ⟨w.heap.size, 1, none⟩ (.func (.func (175 + k)) #[] #[])).cell? ⟨w.heap.size, 0, none⟩ = some (.int .u32 (X : Int)) := (cell_set_ne (by decide)).trans (cell_set_eq r0)
      have u1 : ((V.setCell ⟨w.heap.size, 0, none⟩ (.int .u32 (X : Int))).setCell ⟨w.heap.size, 1, none⟩ (.func (.func (175 + k)) #[] #[])).cell? ⟨w.heap.size, 1, none⟩ = some (.func (.func (175 + k)) #[] #[]) := cell_set_eq ((cell_set_ne (by decide)).trans r1)
      simp only [results, Tryz.results135]
      simp [go_sem, u0, u1]
end Go.Proofs.YtfoodjhffehgpaaGreatDoor.Tb
end

section
/-
  DERIVED. The program's dictionary, gone through.
-/
namespace Go.Proofs.YtfoodjhffehgpaaGreatDoor.Tb
open Go Go.RowKit Go.Shelf
attribute [local go_sem] Oper.semAt_some

theorem upTo_prefix {k : Nat} (h : k ≤ 10) : upTo k <+: upTo 10 := by
  have : ∀ m, upTo k <+: upTo (k + m) := fun m => by
    induction m with
    | zero => exact List.prefix_refl _
    | succ m ih => rw [show k + (m + 1) = (k + m) + 1 by omega, upTo_succ]; exact ih.trans (List.prefix_append _ _)
  have h2 := this (10 - k)
  rwa [show k + (10 - k) = 10 by omega] at h2
theorem upTo_more {k : Nat} (h : k < 10) {pre : List Row} (hp : pre <+: partRows k) : upTo k ++ pre <+: upTo 10 := by
  refine List.IsPrefix.trans ?_ (upTo_prefix (k := k + 1) h)
  rw [upTo_succ]
  exact (List.prefix_append_right_inj _).2 hp

theorem grownBy_of_below {W W' : World} (h : Below W.heap.size W W') : W.grownBy W' none := ⟨h.os, h.tape, h.output, h.size, fun k hk _ => h.block k hk⟩

theorem two_ways {e : Ending} {p q : Prop} (h : (e = .returned (.bool true) ∧ p) ∨ (e = .returned (.bool false) ∧ q)) : ∃ v : Bool, e = .returned (.bool v) ∧ ((v = true ∧ p) ∨ (v = false ∧ q)) := by
  rcases h with ⟨h1, h2⟩ | ⟨h1, h2⟩
  · exact ⟨true, h1, .inl ⟨rfl, h2⟩⟩
  · exact ⟨false, h1, .inr ⟨rfl, h2⟩⟩

theorem kept_below (n B : Nat) {V V' : World} (h : Below V.heap.size V V') : KeepsFrom n V V' ∧ KC B V V' :=
  ⟨⟨h.size, fun k _ _ hk _ => (h.block k (Array.getElem?_eq_some_iff.1 hk).1).trans hk⟩, ⟨h.size, fun k _ hk _ _ => (h.block k (Array.getElem?_eq_some_iff.1 hk).1).trans hk⟩⟩

/-- Between two parts. -/
def InvE (PC : Array Value) (l s : Nat) (J : List Row → World → Prop) (a : Act) (V : World) : Prop :=
  ∃ k : Nat, k ≤ 10 ∧ a.tmps.size = 18 ∧ a.tmps.toList.getD 1 undef = .pointer (some ⟨s, 0, none⟩) ∧ a.tmps.toList.getD 5 undef = .agg PC ∧ a.tmps.toList.getD 6 undef = .int .i64 (k : Int) ∧
    J (upTo k) V ∧ V.cell? ⟨s, 0, none⟩ = some (.func (.yield l) #[] #[]) ∧ Marks s a.defers V

end Go.Proofs.YtfoodjhffehgpaaGreatDoor.Tb
end
