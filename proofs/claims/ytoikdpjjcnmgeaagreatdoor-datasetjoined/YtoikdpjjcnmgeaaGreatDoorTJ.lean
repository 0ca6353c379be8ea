import Derived.Test.YtoikdpjjcnmgeaaGreatDoorTP
import Derived.Test.YtoikdpjjcnmgeaaGreatDoorTE
import Derived.Great.BuildSlice
import Derived.Deep.RegionHeld3
import Derived.Laws.EntriesVeiled
import Derived.Deep.WholeRow
section
/-
  DERIVED. A list of rows, made and handed over.
-/
namespace Go.Proofs.YtoikdpjjcnmgeaaGreatDoor.Tb
open Go Go.RowKit Go.Shelf

/-- Operations that only lay values into the frame. -/
def bstep (P : Program) (a : Act) (o : Oper) : Act :=
  match o.op with
  | .build t parts => a.put o.dst (.agg ((P.built t (parts.map fun (i, x) => (i, a.eval x)).toList).getD #[]))
  | .move x => a.put o.dst (a.eval x)
  | _ => a
def bok (P : Program) (a : Act) (o : Oper) : Bool :=
  o.guard.isNone && match o.op with
    | .build t parts => (P.built t (parts.map fun (i, x) => (i, a.eval x)).toList).isSome
    | .move _ => true
    | _ => false
def boks (P : Program) : List Oper → Act → Bool
  | [], _ => true
  | o :: l, a => bok P a o && boks P l (bstep P a o)

theorem wpList_steps {P : Program} {ops : Array Oper} {rest : List Oper} {w : World} {Q : Exit → Act → World → Prop} : ∀ (bs : List Oper) (a : Act), boks P bs a = true → wpList P ops Q rest (bs.foldl (bstep P) a) w → wpList P ops Q (bs ++ rest) a w
  | [], a, _, h => h
  | o :: bs, a, hk, h => by
    rw [boks, Bool.and_eq_true] at hk
    have ih := wpList_steps bs (bstep P a o) hk.2 h
    have h1 := hk.1
    unfold bok at h1
    rw [Bool.and_eq_true] at h1
    have hg : o.guard = none := by simpa using h1.1
    have h2 := h1.2
    rw [List.cons_append]
    unfold bstep at ih
    split at h2
    · rename_i t parts ho
      rw [ho] at ih
      exact wpList_build hg t parts ho h2 ih
    · rename_i x ho
      rw [ho] at ih
      refine wpList_plain hg fun K hK => ?_
      unfold Oper.wp execOp
      simp only [ho, Sem.run_pure]
      exact hK _ _ ih
    · cases h2

theorem info60 : (Tryz.prog.info? 190).map (fun i => (i.zero, i.size)) = some (some (.agg #[.int .u32 0, .int .i64 0, .int .i64 0, .int .i64 0, .string ⟨#[]⟩]), 5) := by kernel_rfl

theorem rowCs_size : ∀ (L : List Row), (L.flatMap Row.cs).length = 5 * L.length
  | [] => rfl
  | x :: L => by rw [List.flatMap_cons, List.length_append, rowCs_size L]; simp [Row.cs]; omega

theorem fill_rows (L : List Row) (cells : Array Value) (hc : cells.size = L.length * 5) :
    Instr.fill (fun i => some (i * 5, 5)) cells (((L.map Row.val).zipIdx 0).map fun x => (x.2, x.1)) = some (rowCs L) := by
  obtain ⟨r, hr, hsz, hk⟩ := Great.fill_dense (s := 5) (by omega) (L.map Row.val) 0 cells (fun v hv => by obtain ⟨x, _, rfl⟩ := List.mem_map.1 hv; rfl) (by simp [hc])
  rw [hr]
  congr 1
  refine Array.ext_getElem? fun k => ?_
  rw [hk k]
  by_cases h : k < L.length * 5
  · rw [if_pos ⟨by omega, by simpa using h⟩]
    have hq : k / 5 < L.length := by omega
    have hx : L[k / 5]? = some L[k / 5] := by simp [hq]
    have := row_get L (k / 5) _ hx (k % 5) (by omega)
    rw [show 5 * (k / 5) + k % 5 = k by omega] at this
    unfold rowCs
    rw [List.getElem?_toArray, this]
    simp [hq, Row.val, Value.cells, Row.cs]
  · rw [if_neg (by simp; omega)]
    have h1 : cells[k]? = none := Array.getElem?_eq_none (by omega)
    have h2 : (L.flatMap Row.cs)[k]? = none := List.getElem?_eq_none (by rw [rowCs_size]; omega)
    unfold rowCs
    rw [h1, List.getElem?_toArray, h2]

def opAt (ops : Array Oper) (k : Nat) : Oper := ops.toList.getD k { dst := none, op := .move (.tmp 0), type := 0, pos := "", after := #[], guard := none }
def partsOf (o : Oper) : Array (Nat × Operand) := match o.op with
  | .buildSlice _ _ p => p
  | _ => #[]
theorem put_defers (a : Act) (d : Option Tmp) (v : Value) : (a.put d v).defers = a.defers := by cases d <;> rfl

/-- The whole of such a function. -/
theorem rows_walk {ops : Array Oper} {n l : Nat} {W : World} {Q : Exit → Act → World → Prop} {L : List Row} {a : Act} {R : Ending → World → Prop}
    (hops : ops.toList = ops.toList.take n ++ [opAt ops n, opAt ops (n + 1)]) (hok : boks Tryz.prog (ops.toList.take n) a = true)
    (g1 : (opAt ops n).guard = none) (h1 : (opAt ops n).op = .buildSlice 238 L.length (partsOf (opAt ops n))) (hL : 0 < L.length) (hL2 : L.length ≤ 1000)
    (hparts : ((partsOf (opAt ops n)).map fun (i, x) => (i, ((ops.toList.take n).foldl (bstep Tryz.prog) a).eval x)).toList = ((L.map Row.val).zipIdx 0).map fun x => (x.2, x.1))
    (g2 : (opAt ops (n + 1)).guard = none)
    (hrun : ∀ w, (execOp (((ops.toList.take n).foldl (bstep Tryz.prog) a).put (opAt ops n).dst (.slice (some ⟨W.heap.size, 0, none⟩) L.length L.length)).eval (opAt ops (n + 1))).run Tryz.prog w = .ok (.enter 187 #[.func (.yield l) #[] #[], .slice (some ⟨W.heap.size, 0, none⟩) L.length L.length]) w)
    (hc : Calls Tryz.prog 187 #[.func (.yield l) #[] #[], .slice (some ⟨W.heap.size, 0, none⟩) L.length L.length] (W.alloc (.cells (rowCs L) 190)) R)
    (hQ : ∀ e w', R e w' → ∃ v, e = .returned v ∧ ∀ a', a'.defers = (((ops.toList.take n).foldl (bstep Tryz.prog) a).defers) → Q .normal a' w') :
    (Code.region 0 ops false).wp Tryz.prog Q a W := by
  refine wp_region_list ?_
  rw [hops]
  refine wpList_steps _ a hok ?_
  cases hi : Tryz.prog.info? 190 with
  | none => have := info60; rw [hi] at this; cases this
  | some ie =>
    have h60 := info60
    rw [hi] at h60
    simp only [Option.map_some, Option.some.injEq, Prod.mk.injEq] at h60
    refine wpList_buildSlice g1 238 190 L.length _ h1 (rowCs L) ie _ Tryz.underlying238 hi h60.1 (by rw [h60.2]; omega) (by rw [h60.2]; omega) ?_ ?_
    · rw [hparts, h60.2]
      exact fill_rows L _ (by simp)
    · refine wpList_plain g2 fun K hK => ?_
      unfold Oper.wp
      rw [hrun, Oper.upon_enter]
      refine hc.mono fun e w' hR => ?_
      obtain ⟨v, rfl, hq⟩ := hQ e w' hR
      exact hK _ _ (hq _ (put_defers _ _ _ |>.trans (put_defers _ _ _)))


set_option maxRecDepth 100000 in
set_option maxHeartbeats 4000000 in
theorem tells31 (B : Nat) (w : World) (hB : B < w.heap.size) : Tells Tryz.prog 157 #[] (fun x : Row => #[x.val]) B rows0 w := by
  intro l J Jx W hW oJ oJx hY h0
  have hlt : W.heap.size ≠ B := by have := hW.size; omega
  have hg := give_any l B W.heap.size W.heap.size 190 rows0 (by decide) J Jx oJ hY (W.alloc (.cells (rowCs rows0) 190)) (World.alloc_heap_new W _) hlt (oJ.alloc _ h0)
  refine callsIn_wide.2 ?_
  have hc := callsIn_wide.1 hg
  clear hg hY
  show Calls Tryz.prog 157 #[.func (.yield l) #[] #[]] W _
  go_enter Tryz.func157, Tryz.ntmps157
  refine rows_walk (n := 26) (l := l) (L := rows0) (by kernel_rfl) (by kernel_rfl) (by kernel_rfl) (by kernel_rfl) (by decide) (by decide) (by kernel_rfl) (by kernel_rfl) (fun w => by kernel_rfl) hc ?_
  rintro e w' ⟨⟨v, rfl⟩, h⟩
  refine ⟨v, rfl, fun a' ha' => ?_⟩
  have hd : a'.defers = [] := ha'.trans (by kernel_rfl)
  exact bodyPost_end (results_none rfl _ _ _) hd ⟨⟨_, rfl⟩, h⟩

set_option maxRecDepth 100000 in
set_option maxHeartbeats 4000000 in
theorem tells32 (B : Nat) (w : World) (hB : B < w.heap.size) : Tells Tryz.prog 158 #[] (fun x : Row => #[x.val]) B rows1 w := by
  intro l J Jx W hW oJ oJx hY h0
  have hlt : W.heap.size ≠ B := by have := hW.size; omega
  have hg := give_any l B W.heap.size W.heap.size 190 rows1 (by decide) J Jx oJ hY (W.alloc (.cells (rowCs rows1) 190)) (World.alloc_heap_new W _) hlt (oJ.alloc _ h0)
  refine callsIn_wide.2 ?_
  have hc := callsIn_wide.1 hg
  clear hg hY
  show Calls Tryz.prog 158 #[.func (.yield l) #[] #[]] W _
  go_enter Tryz.func158, Tryz.ntmps158
  refine rows_walk (n := 44) (l := l) (L := rows1) (by kernel_rfl) (by kernel_rfl) (by kernel_rfl) (by kernel_rfl) (by decide) (by decide) (by kernel_rfl) (by kernel_rfl) (fun w => by kernel_rfl) hc ?_
  rintro e w' ⟨⟨v, rfl⟩, h⟩
  refine ⟨v, rfl, fun a' ha' => ?_⟩
  have hd : a'.defers = [] := ha'.trans (by kernel_rfl)
  exact bodyPost_end (results_none rfl _ _ _) hd ⟨⟨_, rfl⟩, h⟩

set_option maxRecDepth 100000 in
set_option maxHeartbeats 4000000 in
theorem tells33 (B : Nat) (w : World) (hB : B < w.heap.size) : Tells Tryz.prog 159 #[] (fun x : Row => #[x.val]) B rows2 w := by
  intro l J Jx W hW oJ oJx hY h0
  have hlt : W.heap.size ≠ B := by have := hW.size; omega
  have hg := give_any l B W.heap.size W.heap.size 190 rows2 (by decide) J Jx oJ hY (W.alloc (.cells (rowCs rows2) 190)) (World.alloc_heap_new W _) hlt (oJ.alloc _ h0)
  refine callsIn_wide.2 ?_
  have hc := callsIn_wide.1 hg
  clear hg hY
  show Calls Tryz.prog 159 #[.func (.yield l) #[] #[]] W _
  go_enter Tryz.func159, Tryz.ntmps159
  refine rows_walk (n := 26) (l := l) (L := rows2) (by kernel_rfl) (by kernel_rfl) (by kernel_rfl) (by kernel_rfl) (by decide) (by decide) (by kernel_rfl) (by kernel_rfl) (fun w => by kernel_rfl) hc ?_
  rintro e w' ⟨⟨v, rfl⟩, h⟩
  refine ⟨v, rfl, fun a' ha' => ?_⟩
  have hd : a'.defers = [] := ha'.trans (by kernel_rfl)
  exact bodyPost_end (results_none rfl _ _ _) hd ⟨⟨_, rfl⟩, h⟩

set_option maxRecDepth 100000 in
set_option maxHeartbeats 4000000 in
theorem tells34 (B : Nat) (w : World) (hB : B < w.heap.size) : Tells Tryz.prog 160 #[] (fun x : Row => #[x.val]) B rows3 w := by
  intro l J Jx W hW oJ oJx hY h0
  have hlt : W.heap.size ≠ B := by have := hW.size; omega
  have hg := give_any l B W.heap.size W.heap.size 190 rows3 (by decide) J Jx oJ hY (W.alloc (.cells (rowCs rows3) 190)) (World.alloc_heap_new W _) hlt (oJ.alloc _ h0)
  refine callsIn_wide.2 ?_
  have hc := callsIn_wide.1 hg
  clear hg hY
  show Calls Tryz.prog 160 #[.func (.yield l) #[] #[]] W _
  go_enter Tryz.func160, Tryz.ntmps160
  refine rows_walk (n := 30) (l := l) (L := rows3) (by kernel_rfl) (by kernel_rfl) (by kernel_rfl) (by kernel_rfl) (by decide) (by decide) (by kernel_rfl) (by kernel_rfl) (fun w => by kernel_rfl) hc ?_
  rintro e w' ⟨⟨v, rfl⟩, h⟩
  refine ⟨v, rfl, fun a' ha' => ?_⟩
  have hd : a'.defers = [] := ha'.trans (by kernel_rfl)
  exact bodyPost_end (results_none rfl _ _ _) hd ⟨⟨_, rfl⟩, h⟩

set_option maxRecDepth 100000 in
set_option maxHeartbeats 4000000 in
theorem tells35 (B : Nat) (w : World) (hB : B < w.heap.size) : Tells Tryz.prog 161 #[] (fun x : Row => #[x.val]) B rows4 w := by
  intro l J Jx W hW oJ oJx hY h0
  have hlt : W.heap.size ≠ B := by have := hW.size; omega
  have hg := give_any l B W.heap.size W.heap.size 190 rows4 (by decide) J Jx oJ hY (W.alloc (.cells (rowCs rows4) 190)) (World.alloc_heap_new W _) hlt (oJ.alloc _ h0)
  refine callsIn_wide.2 ?_
  have hc := callsIn_wide.1 hg
  clear hg hY
  show Calls Tryz.prog 161 #[.func (.yield l) #[] #[]] W _
  go_enter Tryz.func161, Tryz.ntmps161
  refine rows_walk (n := 31) (l := l) (L := rows4) (by kernel_rfl) (by kernel_rfl) (by kernel_rfl) (by kernel_rfl) (by decide) (by decide) (by kernel_rfl) (by kernel_rfl) (fun w => by kernel_rfl) hc ?_
  rintro e w' ⟨⟨v, rfl⟩, h⟩
  refine ⟨v, rfl, fun a' ha' => ?_⟩
  have hd : a'.defers = [] := ha'.trans (by kernel_rfl)
  exact bodyPost_end (results_none rfl _ _ _) hd ⟨⟨_, rfl⟩, h⟩

set_option maxRecDepth 100000 in
set_option maxHeartbeats 4000000 in
theorem tells36 (B : Nat) (w : World) (hB : B < w.heap.size) : Tells Tryz.prog 162 #[] (fun x : Row => #[x.val]) B rows5 w := by
  intro l J Jx W hW oJ oJx hY h0
  have hlt : W.heap.size ≠ B := by have := hW.size; omega
  have hg := give_any l B W.heap.size W.heap.size 190 rows5 (by decide) J Jx oJ hY (W.alloc (.cells (rowCs rows5) 190)) (World.alloc_heap_new W _) hlt (oJ.alloc _ h0)
  refine callsIn_wide.2 ?_
  have hc := callsIn_wide.1 hg
  clear hg hY
  show Calls Tryz.prog 162 #[.func (.yield l) #[] #[]] W _
  go_enter Tryz.func162, Tryz.ntmps162
  refine rows_walk (n := 15) (l := l) (L := rows5) (by kernel_rfl) (by kernel_rfl) (by kernel_rfl) (by kernel_rfl) (by decide) (by decide) (by kernel_rfl) (by kernel_rfl) (fun w => by kernel_rfl) hc ?_
  rintro e w' ⟨⟨v, rfl⟩, h⟩
  refine ⟨v, rfl, fun a' ha' => ?_⟩
  have hd : a'.defers = [] := ha'.trans (by kernel_rfl)
  exact bodyPost_end (results_none rfl _ _ _) hd ⟨⟨_, rfl⟩, h⟩

set_option maxRecDepth 100000 in
set_option maxHeartbeats 4000000 in
theorem tells37 (B : Nat) (w : World) (hB : B < w.heap.size) : Tells Tryz.prog 163 #[] (fun x : Row => #[x.val]) B rows6 w := by
  intro l J Jx W hW oJ oJx hY h0
  have hlt : W.heap.size ≠ B := by have := hW.size; omega
  have hg := give_any l B W.heap.size W.heap.size 190 rows6 (by decide) J Jx oJ hY (W.alloc (.cells (rowCs rows6) 190)) (World.alloc_heap_new W _) hlt (oJ.alloc _ h0)
  refine callsIn_wide.2 ?_
  have hc := callsIn_wide.1 hg
  clear hg hY
  show Calls Tryz.prog 163 #[.func (.yield l) #[] #[]] W _
  go_enter Tryz.func163, Tryz.ntmps163
  refine rows_walk (n := 19) (l := l) (L := rows6) (by kernel_rfl) (by kernel_rfl) (by kernel_rfl) (by kernel_rfl) (by decide) (by decide) (by kernel_rfl) (by kernel_rfl) (fun w => by kernel_rfl) hc ?_
  rintro e w' ⟨⟨v, rfl⟩, h⟩
  refine ⟨v, rfl, fun a' ha' => ?_⟩
  have hd : a'.defers = [] := ha'.trans (by kernel_rfl)
  exact bodyPost_end (results_none rfl _ _ _) hd ⟨⟨_, rfl⟩, h⟩

set_option maxRecDepth 100000 in
set_option maxHeartbeats 4000000 in
theorem tells38 (B : Nat) (w : World) (hB : B < w.heap.size) : Tells Tryz.prog 164 #[] (fun x : Row => #[x.val]) B rows7 w := by
  intro l J Jx W hW oJ oJx hY h0
  have hlt : W.heap.size ≠ B := by have := hW.size; omega
  have hg := give_any l B W.heap.size W.heap.size 190 rows7 (by decide) J Jx oJ hY (W.alloc (.cells (rowCs rows7) 190)) (World.alloc_heap_new W _) hlt (oJ.alloc _ h0)
  refine callsIn_wide.2 ?_
  have hc := callsIn_wide.1 hg
  clear hg hY
  show Calls Tryz.prog 164 #[.func (.yield l) #[] #[]] W _
  go_enter Tryz.func164, Tryz.ntmps164
  refine rows_walk (n := 37) (l := l) (L := rows7) (by kernel_rfl) (by kernel_rfl) (by kernel_rfl) (by kernel_rfl) (by decide) (by decide) (by kernel_rfl) (by kernel_rfl) (fun w => by kernel_rfl) hc ?_
  rintro e w' ⟨⟨v, rfl⟩, h⟩
  refine ⟨v, rfl, fun a' ha' => ?_⟩
  have hd : a'.defers = [] := ha'.trans (by kernel_rfl)
  exact bodyPost_end (results_none rfl _ _ _) hd ⟨⟨_, rfl⟩, h⟩

set_option maxRecDepth 100000 in
set_option maxHeartbeats 4000000 in
theorem tells39 (B : Nat) (w : World) (hB : B < w.heap.size) : Tells Tryz.prog 165 #[] (fun x : Row => #[x.val]) B rows8 w := by
  intro l J Jx W hW oJ oJx hY h0
  have hlt : W.heap.size ≠ B := by have := hW.size; omega
  have hg := give_any l B W.heap.size W.heap.size 190 rows8 (by decide) J Jx oJ hY (W.alloc (.cells (rowCs rows8) 190)) (World.alloc_heap_new W _) hlt (oJ.alloc _ h0)
  refine callsIn_wide.2 ?_
  have hc := callsIn_wide.1 hg
  clear hg hY
  show Calls Tryz.prog 165 #[.func (.yield l) #[] #[]] W _
  go_enter Tryz.func165, Tryz.ntmps165
  refine rows_walk (n := 24) (l := l) (L := rows8) (by kernel_rfl) (by kernel_rfl) (by kernel_rfl) (by kernel_rfl) (by decide) (by decide) (by kernel_rfl) (by kernel_rfl) (fun w => by kernel_rfl) hc ?_
  rintro e w' ⟨⟨v, rfl⟩, h⟩
  refine ⟨v, rfl, fun a' ha' => ?_⟩
  have hd : a'.defers = [] := ha'.trans (by kernel_rfl)
  exact bodyPost_end (results_none rfl _ _ _) hd ⟨⟨_, rfl⟩, h⟩

set_option maxRecDepth 100000 in
set_option maxHeartbeats 4000000 in
theorem tells40 (B : Nat) (w : World) (hB : B < w.heap.size) : Tells Tryz.prog 166 #[] (fun x : Row => #[x.val]) B rows9 w := by
  intro l J Jx W hW oJ oJx hY h0
  have hlt : W.heap.size ≠ B := by have := hW.size; omega
  have hg := give_any l B W.heap.size W.heap.size 190 rows9 (by decide) J Jx oJ hY (W.alloc (.cells (rowCs rows9) 190)) (World.alloc_heap_new W _) hlt (oJ.alloc _ h0)
  refine callsIn_wide.2 ?_
  have hc := callsIn_wide.1 hg
  clear hg hY
  show Calls Tryz.prog 166 #[.func (.yield l) #[] #[]] W _
  go_enter Tryz.func166, Tryz.ntmps166
  refine rows_walk (n := 11) (l := l) (L := rows9) (by kernel_rfl) (by kernel_rfl) (by kernel_rfl) (by kernel_rfl) (by decide) (by decide) (by kernel_rfl) (by kernel_rfl) (fun w => by kernel_rfl) hc ?_
  rintro e w' ⟨⟨v, rfl⟩, h⟩
  refine ⟨v, rfl, fun a' ha' => ?_⟩
  have hd : a'.defers = [] := ha'.trans (by kernel_rfl)
  exact bodyPost_end (results_none rfl _ _ _) hd ⟨⟨_, rfl⟩, h⟩

end Go.Proofs.YtoikdpjjcnmgeaaGreatDoor.Tb
end

section
/-
  DERIVED. A row of the program's dictionary, as an entry.
-/
namespace Go.Proofs.YtoikdpjjcnmgeaaGreatDoor.Tb
open Go Go.Proofs Go.RowKit

/-- Which bits of a tag count. -/
def maskN (t : Nat) : Nat := if t / 65536 = 24576 then 4293001215 else 4294967295

set_option maxRecDepth 100000 in
theorem group_any (w : World) (t : Nat) : Calls Tryz.prog 76 #[.int .u32 (t : Int)] w fun e w' => e = .returned (.int .u32 ((t / 65536 : Nat) : Int)) ∧ w = w' := by
  go_enter Tryz.func76, Tryz.ntmps76
  go_wp2
  go_ret
  exact ⟨by simp, rfl⟩

set_option maxRecDepth 100000 in
theorem mask_any (w : World) (t : Nat) (v l m : Int) (s : ByteArray) : Calls Tryz.prog 117 #[.agg #[.int .u32 (t : Int), .int .i64 v, .int .i64 l, .int .i64 m, .string s]] w fun e w' => e = .returned (.int .u32 (maskN t : Nat)) ∧ Below w.heap.size w w' := by
  have c := fun W => group_any W t
  by_cases hg : t / 65536 = 24576
  · have hm : maskN t = 4293001215 := by unfold maskN; rw [if_pos hg]
    have hgi : (((t / 65536 : Nat) : Int) == 24576) = true := by rw [hg]; rfl
    rw [hm]
    generalize t / 65536 = d at c hgi
    clear hm hg
    go_enter Tryz.func117, Tryz.ntmps117
    go_wp2_with (first | (go_at_call 76; refine (c _).mono ?_; rintro e w' ⟨rfl, rfl⟩) | fail)
    go_ret
    exact ⟨rfl, (Below.refl _ _).alloc (Nat.le_refl _) _⟩
  · have hm : maskN t = 4294967295 := by unfold maskN; rw [if_neg hg]
    have hgi : (((t / 65536 : Nat) : Int) == 24576) = false := beq_eq_false_iff_ne.2 (by omega)
    rw [hm]
    generalize t / 65536 = d at c hgi
    clear hm hg
    go_enter Tryz.func117, Tryz.ntmps117
    go_wp2_with (first | (go_at_call 76; refine (c _).mono ?_; rintro e w' ⟨rfl, rfl⟩) | fail)
    go_ret
    exact ⟨rfl, (Below.refl _ _).alloc (Nat.le_refl _) _⟩

/-- A row, as it lies in memory. -/
structure R5 (W : World) (g : Nat) (t v l m : Int) (s : ByteArray) : Prop where
  c0 : W.cell? ⟨g, 0, none⟩ = some (.int .u32 t)
  c1 : W.cell? ⟨g, 1, none⟩ = some (.int .i64 v)
  c2 : W.cell? ⟨g, 2, none⟩ = some (.int .i64 l)
  c3 : W.cell? ⟨g, 3, none⟩ = some (.int .i64 m)
  c4 : W.cell? ⟨g, 4, none⟩ = some (.string s)

theorem R5.after {W W' : World} {g : Nat} {t v l m : Int} {s : ByteArray} (hb : Below W.heap.size W W') (h : R5 W g t v l m s) : R5 W' g t v l m s :=
  ⟨(hb.cell (cell_lt h.c0)).trans h.c0, (hb.cell (cell_lt h.c1)).trans h.c1, (hb.cell (cell_lt h.c2)).trans h.c2, (hb.cell (cell_lt h.c3)).trans h.c3, (hb.cell (cell_lt h.c4)).trans h.c4⟩

theorem E6.after {W W' : World} {g : Nat} (hb : Below W.heap.size W W') (h : E6 W g) : E6 W' g := h.next hb

theorem below_after {w W W' : World} (hb : Below W.heap.size W W') (h : Below w.heap.size w W) : Below w.heap.size w W' := h.trans (hb.mono h.size)

end Go.Proofs.YtoikdpjjcnmgeaaGreatDoor.Tb
end

section
namespace Go.Proofs.YtoikdpjjcnmgeaaGreatDoor.Tb
open Go Go.Proofs Go.RowKit

set_option maxRecDepth 100000 in
theorem mask_exact (w : World) (t : Nat) (v l m : Int) (s : ByteArray) : Calls Tryz.prog 117 #[.agg #[.int .u32 (t : Int), .int .i64 v, .int .i64 l, .int .i64 m, .string s]] w fun e w' => e = .returned (.int .u32 (maskN t : Nat)) ∧ w.alloc (.cells #[.int .u32 (t : Int), .int .i64 v, .int .i64 l, .int .i64 m, .string s] 190) = w' := by
  have c := fun W => group_any W t
  by_cases hg : t / 65536 = 24576
  · have hm : maskN t = 4293001215 := by unfold maskN; rw [if_pos hg]
    have hgi : (((t / 65536 : Nat) : Int) == 24576) = true := by rw [hg]; rfl
    rw [hm]
    generalize t / 65536 = d at c hgi
    clear hm hg
    go_enter Tryz.func117, Tryz.ntmps117
    go_wp2_with (first | (go_at_call 76; refine (c _).mono ?_; rintro e w' ⟨rfl, rfl⟩) | fail)
    go_ret
    exact ⟨rfl, rfl⟩
  · have hm : maskN t = 4294967295 := by unfold maskN; rw [if_neg hg]
    have hgi : (((t / 65536 : Nat) : Int) == 24576) = false := beq_eq_false_iff_ne.2 (by omega)
    rw [hm]
    generalize t / 65536 = d at c hgi
    clear hm hg
    go_enter Tryz.func117, Tryz.ntmps117
    go_wp2_with (first | (go_at_call 76; refine (c _).mono ?_; rintro e w' ⟨rfl, rfl⟩) | fail)
    go_ret
    exact ⟨rfl, rfl⟩

set_option maxRecDepth 100000 in
set_option maxHeartbeats 2000000 in
theorem rowEntry_any (w : World) (t : Nat) (v l m : Int) (s : ByteArray) : Calls Tryz.prog 118 #[.agg #[.int .u32 (t : Int), .int .i64 v, .int .i64 l, .int .i64 m, .string s]] w fun e w' => e = .returned (.agg #[.int .u32 (t : Int), .int .u32 (maskN t : Nat), .int .i64 v, .string s, .int .i64 l, .int .i64 m]) ∧ Below w.heap.size w w' := by
  have c := fun W => mask_exact W t v l m s
  generalize maskN t = M at c ⊢
  obtain ⟨W1, hW1⟩ : ∃ W1, (w.alloc (.cells #[.int .u32 (t : Int), .int .i64 v, .int .i64 l, .int .i64 m, .string s] 190)).alloc (.cells #[.int .u32 0, .int .u32 0, .int .i64 0, .string ⟨#[]⟩, .int .i64 0, .int .i64 0] 50) = W1 := ⟨_, rfl⟩
  have HBl : Hid (Below w.heap.size w W1) := hW1 ▸ ((Below.refl _ _).alloc (Nat.le_refl _) _).alloc (by simp) _
  have hS : R5 W1 w.heap.size (t : Int) v l m s := by
    rw [← hW1]
    exact ⟨by simp, by simp, by simp, by simp, by simp⟩
  have hE : E6 W1 (w.heap.size + 1) := by
    rw [← hW1]
    exact ⟨by simp, by simp, by simp, by simp, by simp, by simp, fun i => by simp⟩
  have hlt : w.heap.size + 1 < W1.heap.size := by rw [← hW1]; simp
  have hlt0 : w.heap.size < W1.heap.size := by omega
  go_enter Tryz.func118, Tryz.ntmps118
  go_wp2
  clear hW1
  obtain ⟨s0, s1, s2, s3, s4⟩ := hS
  obtain ⟨z0, z1, z2, z3, z4, z5, zf⟩ := hE
  refine wp_region_noPanic ?_
  go_region_held3 (fun w' => w'.cell? ⟨w.heap.size, 0, none⟩ = some (.int .u32 (t : Int)) ∧ w'.cell? ⟨w.heap.size, 1, none⟩ = some (.int .i64 v) ∧ w'.cell? ⟨w.heap.size, 2, none⟩ = some (.int .i64 l) ∧ w'.cell? ⟨w.heap.size, 3, none⟩ = some (.int .i64 m) ∧ w'.cell? ⟨w.heap.size, 4, none⟩ = some (.string s)) (go_keep) (first | (go_at_call 117; refine (c _).mono ?_; rintro e w' ⟨rfl, rfl⟩))
  refine NoPanic.normal ?_
  go_wp2
  have hU := E6.sets ⟨z0, z1, z2, z3, z4, z5, zf⟩ (.int .u32 (t : Int)) (.int .u32 (M : Int)) (.int .i64 v) (.string s) (.int .i64 l) (.int .i64 m)
  simp only at hU
  obtain ⟨u0, u1, u2, u3, u4, u5⟩ := hU
  have HBU : Hid (Below w.heap.size w ((((((W1.setCell ⟨w.heap.size + 1, 0, none⟩ (.int .u32 (t : Int))).setCell ⟨w.heap.size + 1, 1, none⟩ (.int .u32 (M : Int))).setCell ⟨w.heap.size + 1, 2, none⟩ (.int .i64 v)).setCell ⟨w.heap.size + 1, 3, none⟩ (.string s)).setCell ⟨w.heap.size + 1, 4, none⟩ (.int .i64 l)).setCell ⟨w.heap.size + 1, 5, none⟩ (.int .i64 m))) := (((((HBl.out.setCell (p := ⟨w.heap.size + 1, 0, none⟩) (by simp) _).setCell (p := ⟨w.heap.size + 1, 1, none⟩) (by simp) _).setCell (p := ⟨w.heap.size + 1, 2, none⟩) (by simp) _).setCell (p := ⟨w.heap.size + 1, 3, none⟩) (by simp) _).setCell (p := ⟨w.heap.size + 1, 4, none⟩) (by simp) _).setCell (p := ⟨w.heap.size + 1, 5, none⟩) (by simp) _
  have hsU : w.heap.size + 1 < ((((((W1.setCell ⟨w.heap.size + 1, 0, none⟩ (.int .u32 (t : Int))).setCell ⟨w.heap.size + 1, 1, none⟩ (.int .u32 (M : Int))).setCell ⟨w.heap.size + 1, 2, none⟩ (.int .i64 v)).setCell ⟨w.heap.size + 1, 3, none⟩ (.string s)).setCell ⟨w.heap.size + 1, 4, none⟩ (.int .i64 l)).setCell ⟨w.heap.size + 1, 5, none⟩ (.int .i64 m)).heap.size := by simp; omega
  generalize ((((((W1.setCell ⟨w.heap.size + 1, 0, none⟩ (.int .u32 (t : Int))).setCell ⟨w.heap.size + 1, 1, none⟩ (.int .u32 (M : Int))).setCell ⟨w.heap.size + 1, 2, none⟩ (.int .i64 v)).setCell ⟨w.heap.size + 1, 3, none⟩ (.string s)).setCell ⟨w.heap.size + 1, 4, none⟩ (.int .i64 l)).setCell ⟨w.heap.size + 1, 5, none⟩ (.int .i64 m)) = U at u0 u1 u2 u3 u4 u5 HBU hsU ⊢
  have hba : Below U.heap.size U (U.alloc (.cells #[.int .u32 (t : Int), .int .i64 v, .int .i64 l, .int .i64 m, .string s] 190)).drew := ((Below.refl _ _).alloc (Nat.le_refl _) _).drew
  have a0 := (hba.cell (p := ⟨w.heap.size + 1, 0, none⟩) hsU).trans u0
  have a1 := (hba.cell (p := ⟨w.heap.size + 1, 1, none⟩) hsU).trans u1
  have a2 := (hba.cell (p := ⟨w.heap.size + 1, 2, none⟩) hsU).trans u2
  have a3 := (hba.cell (p := ⟨w.heap.size + 1, 3, none⟩) hsU).trans u3
  have a4 := (hba.cell (p := ⟨w.heap.size + 1, 4, none⟩) hsU).trans u4
  have a5 := (hba.cell (p := ⟨w.heap.size + 1, 5, none⟩) hsU).trans u5
  have HBV := below_after hba HBU.out
  generalize (U.alloc (.cells #[.int .u32 (t : Int), .int .i64 v, .int .i64 l, .int .i64 m, .string s] 190)).drew = V at a0 a1 a2 a3 a4 a5 HBV ⊢
  exact bodyPost_ret (v := .agg #[.int .u32 (t : Int), .int .u32 (M : Int), .int .i64 v, .string s, .int .i64 l, .int .i64 m]) (by simp only [results, Tryz.results118]; simp [go_sem, a0, a1, a2, a3, a4, a5]) rfl ⟨rfl, HBV⟩
end Go.Proofs.YtoikdpjjcnmgeaaGreatDoor.Tb
end

section
/-
  DERIVED. The parts of the program's dictionary.
-/
namespace Go.Proofs.YtoikdpjjcnmgeaaGreatDoor.Tb
open Go Go.Proofs Go.RowKit

/-- A part: its last tag, its rows' iterator. -/
def partOf : Nat → List Value
  | 0 => [.int .u32 524287, .func (.func 157) #[] #[]]
  | 1 => [.int .u32 528383, .func (.func 158) #[] #[]]
  | 2 => [.int .u32 1048575, .func (.func 159) #[] #[]]
  | 3 => [.int .u32 1572863, .func (.func 160) #[] #[]]
  | 4 => [.int .u32 3276799, .func (.func 161) #[] #[]]
  | 5 => [.int .u32 4194303, .func (.func 162) #[] #[]]
  | 6 => [.int .u32 4194880, .func (.func 163) #[] #[]]
  | 7 => [.int .u32 4198399, .func (.func 164) #[] #[]]
  | 8 => [.int .u32 7340031, .func (.func 165) #[] #[]]
  | _ => [.int .u32 4294967295, .func (.func 166) #[] #[]]

def partsC : Array Value := ((List.range 10).flatMap partOf).toArray

set_option maxRecDepth 100000 in
set_option maxHeartbeats 2000000 in
theorem parts_any (w : World) : Calls Tryz.prog 133 #[] w fun e w' => e = .returned (.agg partsC) ∧ w.alloc (.cells partsC 215) = w' := by
  go_enter Tryz.func133, Tryz.ntmps133
  go_wp2_with (refine wpList_store_rowTo rfl 215 (.tmp 0) (.tmp 11) rfl rfl w.heap.size partsC rfl (by kernel_rfl) 215 _ (heap_alloc_last w _) (by kernel_rfl) (by kernel_rfl) (by kernel_rfl) ?_)
  rw [World.setRow_alloc_new]
  refine bodyPost_ret (v := .agg partsC) ?_ rfl ⟨rfl, rfl⟩
  exact results_cell_row rfl _ _ w.heap.size 215 partsC (0, 0) _ rfl (heap_alloc_last w _) Tryz.underlying215 rfl (by kernel_rfl)

theorem part_at : ∀ (k : Fin 10) (W : World), (Instr.index 215 (.agg partsC) (.int .i64 (k.val : Int))).run Tryz.prog W = .ok (.agg (partOf k.val).toArray) W
  | ⟨0, _⟩ => fun _ => by kernel_rfl
  | ⟨1, _⟩ => fun _ => by kernel_rfl
  | ⟨2, _⟩ => fun _ => by kernel_rfl
  | ⟨3, _⟩ => fun _ => by kernel_rfl
  | ⟨4, _⟩ => fun _ => by kernel_rfl
  | ⟨5, _⟩ => fun _ => by kernel_rfl
  | ⟨6, _⟩ => fun _ => by kernel_rfl
  | ⟨7, _⟩ => fun _ => by kernel_rfl
  | ⟨8, _⟩ => fun _ => by kernel_rfl
  | ⟨9, _⟩ => fun _ => by kernel_rfl
  | ⟨n + 10, h⟩ => absurd h (by omega)
end Go.Proofs.YtoikdpjjcnmgeaaGreatDoor.Tb
end
