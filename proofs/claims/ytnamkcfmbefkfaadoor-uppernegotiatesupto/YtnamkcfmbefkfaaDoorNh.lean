import Derived.Test.YtnamkcfmbefkfaaDoorNg
/-
  DERIVED. The acceptance, but for its contexts.
-/
namespace Go.Proofs.YtnamkcfmbefkfaaDoor
open Go Go.Proofs Go.RowKit

/-- An acceptance's cells. -/
def acC (a b : ByteArray) (l : Value) : Fin 18 → Value := fun i => #[.int .u16 1, .string a, .string b, .string ⟨#[49, 46, 50, 46, 56, 52, 48, 46, 49, 48, 48, 48, 56, 46, 51, 46, 49, 46, 49, 46, 49]⟩, l, .bool true, .int .u32 16384, .string ⟨#[49, 46, 50, 46, 56, 50, 54, 46, 48, 46, 49, 46, 51, 54, 56, 48, 48, 52, 51, 46, 49, 48, 46, 49, 52, 49, 52]⟩, .string ⟨#[77, 79, 68, 65, 76, 73, 84, 89, 95, 49]⟩, .bool false, .int .u16 0, .int .u16 0, .slice none 0 0, .slice none 0 0, .int .u8 0, .int .u8 0, .int .u8 0, .slice none 0 0].getD i.val undef
def acU : Array Value := #[.bool true, .int .u32 16384, .string ⟨#[49, 46, 50, 46, 56, 50, 54, 46, 48, 46, 49, 46, 51, 54, 56, 48, 48, 52, 51, 46, 49, 48, 46, 49, 52, 49, 52]⟩, .string ⟨#[77, 79, 68, 65, 76, 73, 84, 89, 95, 49]⟩, .bool false, .int .u16 0, .int .u16 0, .slice none 0 0, .slice none 0 0]
def acA (a b : ByteArray) : Array Value := #[.int .u16 1, .string a, .string b, .string ⟨#[49, 46, 50, 46, 56, 52, 48, 46, 49, 48, 48, 48, 56, 46, 51, 46, 49, 46, 49, 46, 49]⟩, .slice none 0 0, .bool true, .int .u32 16384, .string ⟨#[49, 46, 50, 46, 56, 50, 54, 46, 48, 46, 49, 46, 51, 54, 56, 48, 48, 52, 51, 46, 49, 48, 46, 49, 52, 49, 52]⟩, .string ⟨#[77, 79, 68, 65, 76, 73, 84, 89, 95, 49]⟩, .bool false, .int .u16 0, .int .u16 0, .slice none 0 0, .slice none 0 0]
theorem ac_one (a b : ByteArray) (l : Value) (hl : l.oneCell' = true) : ∀ i, (acC a b l i).oneCell' = true := fun i => by
  match i with
  | ⟨0, _⟩ => rfl
  | ⟨1, _⟩ => rfl
  | ⟨2, _⟩ => rfl
  | ⟨3, _⟩ => rfl
  | ⟨4, _⟩ => exact hl
  | ⟨5, _⟩ => rfl
  | ⟨6, _⟩ => rfl
  | ⟨7, _⟩ => rfl
  | ⟨8, _⟩ => rfl
  | ⟨9, _⟩ => rfl
  | ⟨10, _⟩ => rfl
  | ⟨11, _⟩ => rfl
  | ⟨12, _⟩ => rfl
  | ⟨13, _⟩ => rfl
  | ⟨14, _⟩ => rfl
  | ⟨15, _⟩ => rfl
  | ⟨16, _⟩ => rfl
  | ⟨17, _⟩ => rfl
  | ⟨n + 18, h⟩ => exact absurd h (by omega)
theorem ac_ty (a b : ByteArray) (l : Value) : TyC (acC a b l) := ⟨⟨_, rfl⟩, ⟨_, rfl⟩, ⟨_, rfl⟩, ⟨_, rfl⟩, ⟨_, rfl⟩, ⟨_, rfl⟩, ⟨_, rfl⟩, ⟨_, rfl⟩, ⟨_, rfl⟩, ⟨_, rfl⟩, ⟨_, rfl⟩, ⟨_, rfl⟩, ⟨_, rfl⟩, ⟨_, rfl⟩⟩
theorem ac_up (a b : ByteArray) (l l' : Value) : up (acC a b l) 4 l' = acC a b l' := by
  funext i
  match i with
  | ⟨0, _⟩ => rfl
  | ⟨1, _⟩ => rfl
  | ⟨2, _⟩ => rfl
  | ⟨3, _⟩ => rfl
  | ⟨4, _⟩ => rfl
  | ⟨5, _⟩ => rfl
  | ⟨6, _⟩ => rfl
  | ⟨7, _⟩ => rfl
  | ⟨8, _⟩ => rfl
  | ⟨9, _⟩ => rfl
  | ⟨10, _⟩ => rfl
  | ⟨11, _⟩ => rfl
  | ⟨12, _⟩ => rfl
  | ⟨13, _⟩ => rfl
  | ⟨14, _⟩ => rfl
  | ⟨15, _⟩ => rfl
  | ⟨16, _⟩ => rfl
  | ⟨17, _⟩ => rfl
  | ⟨n + 18, h⟩ => exact absurd h (by omega)
theorem yld_build {P : Program} {ops : Array Oper} {S : World → Prop} {o : Oper} {a : Act} (hw : Region.wanted o (yielded ops a.tmps) = true) (t : TypeId) (parts : Array (Nat × Operand)) (ho : o.op = .build t parts) (cells : Array Value)
    (hb : P.built t (parts.map fun (i, x) => (i, a.eval x)).toList = some cells) : YieldsIf P ops S o (.agg cells) a :=
  .inl ⟨hw, fun w _ => by
    unfold execOp
    simp only [ho, Sem.run_bind, run_build w t _ cells hb, Result.andThen_ok]
    rfl⟩
theorem built_u : Tryd.prog.built 28 [(0, .bool true), (1, .int .u32 16384), (2, .string ⟨#[49, 46, 50, 46, 56, 50, 54, 46, 48, 46, 49, 46, 51, 54, 56, 48, 48, 52, 51, 46, 49, 48, 46, 49, 52, 49, 52]⟩), (3, .string ⟨#[77, 79, 68, 65, 76, 73, 84, 89, 95, 49]⟩)] = some acU := by kernel_rfl
theorem built_a (a b : ByteArray) : Tryd.prog.built 30 [(0, .int .u16 1), (1, .string a), (2, .string b), (3, .string ⟨#[49, 46, 50, 46, 56, 52, 48, 46, 49, 48, 48, 48, 56, 46, 51, 46, 49, 46, 49, 46, 49]⟩), (5, .agg acU)] = some (acA a b) := by kernel_rfl
theorem built_ac (a b : ByteArray) : Tryd.prog.built 33 [(0, .int .i64 2), (1, .agg (acA a b))] = some (Pd 2 (acC a b (.slice none 0 0))) := by kernel_rfl
set_option maxRecDepth 100000 in
set_option maxHeartbeats 4000000 in
theorem accept_any (w : World) (e o : Nat) (a b : ByteArray) (h1 : w.cell? ⟨e, o + 1, none⟩ = some (.string a)) (h2 : w.cell? ⟨e, o + 2, none⟩ = some (.string b)) :
    Calls Tryd.prog 13 #[.pointer (some ⟨e, o, none⟩)] w fun x w' => x = .returned (.agg (Pd 2 (acC a b (.slice none 0 0)))) ∧ Below w.heap.size w w' := by
  obtain ⟨fs, hu⟩ := hu33
  have hu' := built_u
  have ha' := built_a a b
  have hac := built_ac a b
  have hs := size40' 2 (acC a b (.slice none 0 0))
  have ho := pd_one 2 (acC a b (.slice none 0 0)) (ac_one a b _ rfl)
  have hl := z33 2 (acC a b (.slice none 0 0))
  generalize Pd 2 (acC a b (.slice none 0 0)) = RQ at *
  generalize acA a b = A at *
  generalize acU = U at *
  have he : e < w.heap.size := cell_lt h1
  go_enter Tryd.func13, Tryd.ntmps13
  obtain ⟨W1, hW1⟩ : ∃ W1, w.alloc (.cells Z33 33) = W1 := ⟨_, rfl⟩
  have hb1 : Below w.heap.size w W1 := hW1 ▸ (Below.refl _ _).alloc (Nat.le_refl _) _
  have hg1 : W1.heap[w.heap.size]? = some (.cells Z33 33) := hW1 ▸ alloc_new w _
  unfold Z33 at hW1
  go_wp2_with (rw [hW1])
  refine wp_region_held_drew (S := fun w' => w'.cell? ⟨e, o + 1, none⟩ = some (.string a) ∧ w'.cell? ⟨e, o + 2, none⟩ = some (.string b)) (by kernel_rfl) ⟨(hb1.cell (cell_lt h1)).trans h1, (hb1.cell (cell_lt h2)).trans h2⟩ (fun hHeld => ?_)
  have hb2 : Below w.heap.size w W1.drew := hb1.trans ((Below.refl _ _).drew.mono hb1.size)
  have hg2 : W1.drew.heap[w.heap.size]? = some (.cells Z33 33) := hg1
  generalize W1.drew = w1 at hb2 hg2 hHeld ⊢
  refine wpAnyH_take (i := 0) (oi := ({ dst := some 3, op := Op.move (Operand.tmp 0), type := 65, pos := "negotiate.go:118", after := #[], guard := none } : Oper)) (v := .pointer (some ⟨e, o, none⟩)) rfl (by kernel_rfl) (by kernel_rfl) (by kernel_rfl) (fun _ _ _ h => h) (Or.inl ⟨by rfl, fun w _ => by go_simp⟩) hHeld ?_
  try simp only [Act.put, List.setIfInBounds_toArray, List.set_cons_zero, List.set_cons_succ]
  refine wpAnyH_take (i := 1) (oi := ({ dst := some 4, op := Op.nilCheck (Operand.tmp 3), type := 0, pos := "negotiate.go:118", after := #[{ on := 0, ground := Ground.data }], guard := none } : Oper)) (v := .pointer (some ⟨e, o, none⟩)) rfl (by kernel_rfl) (by kernel_rfl) (by kernel_rfl) (fun _ _ _ h => h) (Or.inl ⟨by rfl, fun w _ => by go_simp⟩) hHeld ?_
  try simp only [Act.put, List.setIfInBounds_toArray, List.set_cons_zero, List.set_cons_succ]
  refine wpAnyH_take (i := 2) (oi := ({ dst := some 5, op := Op.fieldAddr 30 (Operand.tmp 4) 1, type := 0, pos := "negotiate.go:118", after := #[{ on := 1, ground := Ground.data }], guard := none } : Oper)) (v := .pointer (some ⟨e, o + 1, none⟩)) rfl (by kernel_rfl) (by kernel_rfl) (by kernel_rfl) (fun _ _ _ h => h) (Or.inl ⟨by rfl, fun w _ => by go_simp⟩) hHeld ?_
  try simp only [Act.put, List.setIfInBounds_toArray, List.set_cons_zero, List.set_cons_succ]
  refine wpAnyH_take (i := 3) (oi := ({ dst := some 6, op := Op.load 9 (Operand.tmp 5), type := 9, pos := "negotiate.go:118", after := #[{ on := 2, ground := Ground.data }], guard := none } : Oper)) (v := .string a) rfl (by kernel_rfl) (by kernel_rfl) (by kernel_rfl) (fun _ _ _ h => h) (Or.inl ⟨by rfl, fun w h => by have h1 := h.1; go_simp⟩) hHeld ?_
  try simp only [Act.put, List.setIfInBounds_toArray, List.set_cons_zero, List.set_cons_succ]
  refine wpAnyH_take (i := 4) (oi := ({ dst := some 7, op := Op.move (Operand.tmp 0), type := 65, pos := "negotiate.go:118", after := #[], guard := none } : Oper)) (v := .pointer (some ⟨e, o, none⟩)) rfl (by kernel_rfl) (by kernel_rfl) (by kernel_rfl) (fun _ _ _ h => h) (Or.inl ⟨by rfl, fun w _ => by go_simp⟩) hHeld ?_
  try simp only [Act.put, List.setIfInBounds_toArray, List.set_cons_zero, List.set_cons_succ]
  refine wpAnyH_take (i := 5) (oi := ({ dst := some 8, op := Op.nilCheck (Operand.tmp 7), type := 0, pos := "negotiate.go:118", after := #[{ on := 4, ground := Ground.data }], guard := none } : Oper)) (v := .pointer (some ⟨e, o, none⟩)) rfl (by kernel_rfl) (by kernel_rfl) (by kernel_rfl) (fun _ _ _ h => h) (Or.inl ⟨by rfl, fun w _ => by go_simp⟩) hHeld ?_
  try simp only [Act.put, List.setIfInBounds_toArray, List.set_cons_zero, List.set_cons_succ]
  refine wpAnyH_take (i := 6) (oi := ({ dst := some 9, op := Op.fieldAddr 30 (Operand.tmp 8) 2, type := 0, pos := "negotiate.go:118", after := #[{ on := 5, ground := Ground.data }], guard := none } : Oper)) (v := .pointer (some ⟨e, o + 2, none⟩)) rfl (by kernel_rfl) (by kernel_rfl) (by kernel_rfl) (fun _ _ _ h => h) (Or.inl ⟨by rfl, fun w _ => by go_simp⟩) hHeld ?_
  try simp only [Act.put, List.setIfInBounds_toArray, List.set_cons_zero, List.set_cons_succ]
  refine wpAnyH_take (i := 7) (oi := ({ dst := some 10, op := Op.load 9 (Operand.tmp 9), type := 9, pos := "negotiate.go:118", after := #[{ on := 6, ground := Ground.data }], guard := none } : Oper)) (v := .string b) rfl (by kernel_rfl) (by kernel_rfl) (by kernel_rfl) (fun _ _ _ h => h) (Or.inl ⟨by rfl, fun w h => by have h1 := h.2; go_simp⟩) hHeld ?_
  try simp only [Act.put, List.setIfInBounds_toArray, List.set_cons_zero, List.set_cons_succ]
  refine wpAnyH_take (i := 8) (oi := ({ dst := some 11, op := Op.build 28 #[(0, Operand.const (Value.bool true)), (1, Operand.const (Value.int IntKind.u32 16384)), (2, Operand.const (Value.string { data := #[49, 46, 50, 46, 56, 50, 54, 46, 48, 46, 49, 46, 51, 54, 56, 48, 48, 52, 51, 46, 49, 48, 46, 49, 52, 49, 52] })), (3, Operand.const (Value.string { data := #[77, 79, 68, 65, 76, 73, 84, 89, 95, 49] }))], type := 28, pos := "negotiate.go:118", after := #[], guard := none } : Oper)) (v := .agg U) rfl (by kernel_rfl) (by kernel_rfl) (by kernel_rfl) (fun _ _ _ h => h) (yld_build (by rfl) 28 _ rfl U (by simp [Act.eval]; exact hu')) hHeld ?_
  try simp only [Act.put, List.setIfInBounds_toArray, List.set_cons_zero, List.set_cons_succ]
  refine wpAnyH_take (i := 9) (oi := ({ dst := some 12, op := Op.build 30 #[(0, Operand.const (Value.int IntKind.u16 1)), (1, Operand.tmp 6), (2, Operand.tmp 10), (3, Operand.const (Value.string { data := #[49, 46, 50, 46, 56, 52, 48, 46, 49, 48, 48, 48, 56, 46, 51, 46, 49, 46, 49, 46, 49] })), (5, Operand.tmp 11)], type := 30, pos := "negotiate.go:118", after := #[{ on := 3, ground := Ground.data }, { on := 7, ground := Ground.data }, { on := 8, ground := Ground.data }], guard := none } : Oper)) (v := .agg A) rfl (by kernel_rfl) (by kernel_rfl) (by kernel_rfl) (fun _ _ _ h => h) (yld_build (by rfl) 30 _ rfl A (by simp [Act.eval]; exact ha')) hHeld ?_
  try simp only [Act.put, List.setIfInBounds_toArray, List.set_cons_zero, List.set_cons_succ]
  refine wpAnyH_take (i := 10) (oi := ({ dst := some 13, op := Op.build 33 #[(0, Operand.const (Value.int IntKind.i64 2)), (1, Operand.tmp 12)], type := 33, pos := "negotiate.go:118", after := #[{ on := 9, ground := Ground.data }], guard := none } : Oper)) (v := .agg RQ) rfl (by kernel_rfl) (by kernel_rfl) (by kernel_rfl) (fun _ _ _ h => h) (yld_build (by rfl) 33 _ rfl RQ (by simp [Act.eval]; exact hac)) hHeld ?_
  try simp only [Act.put, List.setIfInBounds_toArray, List.set_cons_zero, List.set_cons_succ]
  refine wpAnyH_ready (rs := [11]) (by kernel_rfl) (by simp) ?_
  refine AllReadyH.cons (o := ({ dst := none, op := Op.store 33 (Operand.tmp 2) (Operand.tmp 13), type := 0, pos := "negotiate.go:118", after := #[{ on := 10, ground := Ground.data }, { on := 0, ground := Ground.phase }, { on := 1, ground := Ground.phase }, { on := 2, ground := Ground.phase }, { on := 3, ground := Ground.phase }, { on := 4, ground := Ground.phase }, { on := 5, ground := Ground.phase }, { on := 6, ground := Ground.phase }, { on := 7, ground := Ground.phase }, { on := 8, ground := Ground.phase }, { on := 9, ground := Ground.phase }, { on := 10, ground := Ground.phase }], guard := none } : Oper)) rfl (fun K hK => ?_) AllReadyH.nil
  rw [if_pos (by rfl)]
  have hne : e ≠ w.heap.size := by omega
  have hh := setRow_heap w1 w.heap.size _ RQ 33 _ hg2
  have hbl : Below w.heap.size w (w1.setRow w.heap.size RQ) := below_setRow hb2 (Nat.le_refl _) _
  have hld := run_loadVar_row (P := Tryd.prog) _ _ _ 33 _ _ _ hh hu rfl hs
  refine wp_store_row 33 (.tmp 2) (.tmp 13) rfl w.heap.size RQ rfl rfl 33 _ hg2 hs hl ho ?_
  refine hK.out _ _ ⟨(hbl.cell (cell_lt h1)).trans h1, (hbl.cell (cell_lt h2)).trans h2⟩ (fun hHeld => ?_)
  clear hK K
  try simp only [Act.put]
  refine wpAnyH_done (by kernel_rfl) ?_ _
  go_wp2
  refine bodyPost_ret (v := .agg RQ) (res_cell (k := 2) Tryd.results13 (by kernel_rfl) hld) rfl ⟨rfl, hbl⟩
end Go.Proofs.YtnamkcfmbefkfaaDoor
