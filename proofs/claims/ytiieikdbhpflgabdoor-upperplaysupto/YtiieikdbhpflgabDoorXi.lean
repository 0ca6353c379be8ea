import Derived.Test.YtiieikdbhpflgabDoorXg
import Derived.Great.BuildSlice
/-
  DERIVED. What is sent, what the user is told: one act of the row that an action gives.
-/
namespace Go.Proofs.YtiieikdbhpflgabDoor
open Go Go.Proofs Go.RowKit

/-- An act's cells. -/
def Ac (x y : Int) (k : Int) (c : Fin 18 → Value) : Array Value := #[.int .i64 x, .int .i64 y] ++ Pd k c
theorem ac_told (x y : Int) (k : Int) (c : Fin 18 → Value) : Tryd.prog.built 61 [(0, .int .i64 x), (1, .int .i64 y), (2, .agg (Pd k c))] = some (Ac x y k c) := by kernel_rfl
theorem ac_sent (x : Int) (k : Int) (c : Fin 18 → Value) : Tryd.prog.built 61 [(0, .int .i64 x), (2, .agg (Pd k c))] = some (Ac x 0 k c) := by kernel_rfl
theorem ac_size (x y : Int) (k : Int) (c : Fin 18 → Value) : (Tryd.prog.info? 61).map (·.size) = some (Ac x y k c).size := by unfold Ac Pd; kernel_rfl
theorem ac_len (x y : Int) (k : Int) (c : Fin 18 → Value) : (Ac x y k c).size = 21 := by simp [Ac, Pd]
theorem ac_one (x y : Int) (k : Int) (c : Fin 18 → Value) (h : ∀ i, (c i).oneCell' = true) : (Ac x y k c).all (·.oneCell') = true := by
  have := pd_one k c h
  unfold Ac
  rw [Array.all_append, this]
  simp [show (Value.int .i64 x).oneCell' = true from rfl, show (Value.int .i64 y).oneCell' = true from rfl]
theorem hu57 : ∃ fs, Tryd.prog.underlying 61 = some (.struct fs) := ⟨_, Tryd.underlying61⟩
theorem step_build {P : Program} {ops : Array Oper} {rest : List Oper} {o : Oper} {a : Act} {w : World} {Q : Exit → Act → World → Prop} (hg : o.guard = none) (t : TypeId) (parts : Array (Nat × Operand)) (ho : o.op = .build t parts) (cells : Array Value)
    (hb : P.built t (parts.map fun (i, x) => (i, a.eval x)).toList = some cells) (h : wpList P ops Q rest (a.put o.dst (.agg cells)) w) : wpList P ops Q (o :: rest) a w :=
  wpList_build hg t parts ho (by rw [hb]; rfl) (by rw [hb]; exact h)
set_option maxRecDepth 100000 in
set_option maxHeartbeats 2000000 in
theorem sent_any (w : World) (k : Int) (c : Fin 18 → Value) (hc : ∀ i, (c i).oneCell' = true) : Calls Tryd.prog 69 #[.agg (Pd k c)] w fun e w' => e = .returned (.agg (Ac 3 0 k c)) ∧ Below w.heap.size w w' := by
  have hb := ac_sent 3 k c
  have hs := ac_size 3 0 k c
  have h1 := ac_one 3 0 k c hc
  have hl := ac_len 3 0 k c
  have hs4 : (Tryd.prog.info? 46).map (·.size) = some (Pd k c).size := by unfold Pd; kernel_rfl
  obtain ⟨fs, hu⟩ := hu40
  obtain ⟨fs5, hu5⟩ := hu57
  generalize Ac 3 0 k c = RQ at *
  generalize Pd k c = PQ at *
  obtain ⟨Z, hZ⟩ : ∃ Z : Array Value, #[.int .i64 0, .int .i64 0, .int .i64 0, .int .u16 0, .string ⟨#[]⟩, .string ⟨#[]⟩, .string ⟨#[]⟩, .slice none 0 0, .bool false, .int .u32 0, .string ⟨#[]⟩, .string ⟨#[]⟩, .bool false, .int .u16 0, .int .u16 0, .slice none 0 0, .slice none 0 0, .int .u8 0, .int .u8 0, .int .u8 0, .slice none 0 0] = Z := ⟨_, rfl⟩
  have hZs : Z.size = RQ.size := by rw [← hZ, hl]; rfl
  have hg1 : ((w.alloc (.cells PQ 46)).alloc (.cells Z 61)).heap[w.heap.size]? = some (.cells PQ 46) := (Below.heap_alloc _ _ _ (by simp)).trans (alloc_new w _)
  have hg2 : ((w.alloc (.cells PQ 46)).alloc (.cells Z 61)).heap[w.heap.size + 1]? = some (.cells Z 61) := by
    have := alloc_new (w.alloc (.cells PQ 46)) (.cells Z 61)
    simpa using this
  have hbl : Below w.heap.size w (((w.alloc (.cells PQ 46)).alloc (.cells Z 61)).setRow (w.heap.size + 1) RQ) := below_setRow (((Below.refl _ _).alloc (Nat.le_refl _) _).alloc (by simp) _) (by omega) _
  have hh := setRow_heap ((w.alloc (.cells PQ 46)).alloc (.cells Z 61)) (w.heap.size + 1) _ RQ 61 _ hg2
  have hld := run_loadVar_row (P := Tryd.prog) _ _ _ 61 _ _ _ hh hu5 rfl hs
  subst hZ
  go_enter Tryd.func69, Tryd.ntmps69
  go_wp2_with (first | (refine wpList_load_row rfl 46 (.tmp 1) rfl w.heap.size rfl 46 PQ (0, 0) _ hg1 hu rfl hs4 ?_) | (refine step_build rfl 61 _ rfl RQ (by simp [Act.eval]; exact hb) ?_) | (refine wpList_store_row rfl 61 (.tmp 2) (.tmp 4) rfl (w.heap.size + 1) RQ rfl rfl 61 _ hg2 hs hZs h1 ?_))
  refine bodyPost_ret (v := .agg RQ) (res_cell (k := 2) Tryd.results69 (by kernel_rfl) hld) rfl ⟨rfl, hbl⟩
set_option maxRecDepth 100000 in
set_option maxHeartbeats 2000000 in
theorem told_any (w : World) (t k : Int) (c : Fin 18 → Value) (hc : ∀ i, (c i).oneCell' = true) : Calls Tryd.prog 70 #[.int .i64 t, .agg (Pd k c)] w fun e w' => e = .returned (.agg (Ac 5 t k c)) ∧ Below w.heap.size w w' := by
  have hb := ac_told 5 t k c
  have hs := ac_size 5 t k c
  have h1 := ac_one 5 t k c hc
  have hl := ac_len 5 t k c
  have hs4 : (Tryd.prog.info? 46).map (·.size) = some (Pd k c).size := by unfold Pd; kernel_rfl
  obtain ⟨fs, hu⟩ := hu40
  obtain ⟨fs5, hu5⟩ := hu57
  generalize Ac 5 t k c = RQ at *
  generalize Pd k c = PQ at *
  obtain ⟨Z, hZ⟩ : ∃ Z : Array Value, #[.int .i64 0, .int .i64 0, .int .i64 0, .int .u16 0, .string ⟨#[]⟩, .string ⟨#[]⟩, .string ⟨#[]⟩, .slice none 0 0, .bool false, .int .u32 0, .string ⟨#[]⟩, .string ⟨#[]⟩, .bool false, .int .u16 0, .int .u16 0, .slice none 0 0, .slice none 0 0, .int .u8 0, .int .u8 0, .int .u8 0, .slice none 0 0] = Z := ⟨_, rfl⟩
  have hZs : Z.size = RQ.size := by rw [← hZ, hl]; rfl
  have hg1 : ((w.alloc (.cells PQ 46)).alloc (.cells Z 61)).heap[w.heap.size]? = some (.cells PQ 46) := (Below.heap_alloc _ _ _ (by simp)).trans (alloc_new w _)
  have hg2 : ((w.alloc (.cells PQ 46)).alloc (.cells Z 61)).heap[w.heap.size + 1]? = some (.cells Z 61) := by
    have := alloc_new (w.alloc (.cells PQ 46)) (.cells Z 61)
    simpa using this
  have hbl : Below w.heap.size w (((w.alloc (.cells PQ 46)).alloc (.cells Z 61)).setRow (w.heap.size + 1) RQ) := below_setRow (((Below.refl _ _).alloc (Nat.le_refl _) _).alloc (by simp) _) (by omega) _
  have hh := setRow_heap ((w.alloc (.cells PQ 46)).alloc (.cells Z 61)) (w.heap.size + 1) _ RQ 61 _ hg2
  have hld := run_loadVar_row (P := Tryd.prog) _ _ _ 61 _ _ _ hh hu5 rfl hs
  subst hZ
  go_enter Tryd.func70, Tryd.ntmps70
  go_wp2_with (first | (refine wpList_load_row rfl 46 (.tmp 3) rfl w.heap.size rfl 46 PQ (0, 0) _ hg1 hu rfl hs4 ?_) | (refine step_build rfl 61 _ rfl RQ (by simp [Act.eval]; exact hb) ?_) | (refine wpList_store_row rfl 61 (.tmp 4) (.tmp 7) rfl (w.heap.size + 1) RQ rfl rfl 61 _ hg2 hs hZs h1 ?_))
  exact bodyPost_ret (v := .agg RQ) (res_cell (k := 4) Tryd.results70 (by kernel_rfl) hld) rfl ⟨rfl, hbl⟩
end Go.Proofs.YtiieikdbhpflgabDoor

/-
  DERIVED. The actions: what is sent off the event's PDU.
-/
namespace Go.Proofs.YtiieikdbhpflgabDoor
open Go Go.Proofs Go.RowKit

def Z57 : Array Value := #[.int .i64 0, .int .i64 0, .int .i64 0, .int .u16 0, .string ⟨#[]⟩, .string ⟨#[]⟩, .string ⟨#[]⟩, .slice none 0 0, .bool false, .int .u32 0, .string ⟨#[]⟩, .string ⟨#[]⟩, .bool false, .int .u16 0, .int .u16 0, .slice none 0 0, .slice none 0 0, .int .u8 0, .int .u8 0, .int .u8 0, .slice none 0 0]
theorem info57 : (Tryd.prog.info? 61).map (fun i => (i.zero, i.size)) = some (some (.agg Z57), 21) := by kernel_rfl
theorem info57' : ∃ i, Tryd.prog.info? 61 = some i ∧ i.zero = some (.agg Z57) ∧ i.size = 21 := by
  have := info57
  cases h : Tryd.prog.info? 61 with
  | none => rw [h] at this; cases this
  | some i => rw [h] at this; exact ⟨i, rfl, by simpa using this⟩
theorem fill1 (x y k : Int) (c : Fin 18 → Value) : Go.Instr.fill (fun i => some (i * 21, 21)) (Array.map (fun x => (Value.agg Z57).cells[x % (Value.agg Z57).cells.size]!) (Array.range (1 * 21))) [(0, .agg (Ac x y k c))] = some (Ac x y k c) := by kernel_rfl
theorem fill2 (x y k : Int) (c : Fin 18 → Value) (x2 y2 k2 : Int) (c2 : Fin 18 → Value) : Go.Instr.fill (fun i => some (i * 21, 21)) (Array.map (fun x => (Value.agg Z57).cells[x % (Value.agg Z57).cells.size]!) (Array.range (2 * 21))) [(0, .agg (Ac x y k c)), (1, .agg (Ac x2 y2 k2 c2))] = some (Ac x y k c ++ Ac x2 y2 k2 c2) := by kernel_rfl
/-- One act that an action gives, in new memory. -/
def One (B : Nat) (w' : World) (v : Value) (x y k : Int) (c : Fin 18 → Value) : Prop := ∃ g, v = .slice (some ⟨g, 0, none⟩) 1 1 ∧ B ≤ g ∧ w'.heap[g]? = some (.cells (Ac x y k c) 61)
/-- One act with a PDU that says D, k. -/
def Act1 (w : World) (x y k : Int) (c : Fin 18 → Value) (D : PdD) (e : Ending) (w' : World) : Prop :=
  ∃ v c', e = .returned v ∧ One w.heap.size w' v x y k c' ∧ OX w.heap.size w' c' D ∧ (∀ i, i ≠ 4 → i ≠ 12 → i ≠ 13 → i ≠ 17 → c' i = c i) ∧ Below w.heap.size w w'
theorem slice1 {ops : Array Oper} {rest : List Oper} {o : Oper} {a : Act} {w : World} {Q : Exit → Act → World → Prop} (hg : o.guard = none) (x : Operand) (ho : o.op = .buildSlice 50 1 #[(0, x)]) (RQ : Array Value) (p q k : Int) (c : Fin 18 → Value) (hR : Ac p q k c = RQ) (hx : a.eval x = .agg RQ)
    (h : wpList Tryd.prog ops Q rest (a.put o.dst (.slice (some ⟨w.heap.size, 0, none⟩) 1 1)) (w.alloc (.cells RQ 61))) : wpList Tryd.prog ops Q (o :: rest) a w := by
  obtain ⟨i, hi, hz, hs⟩ := info57'
  subst hR
  refine wpList_buildSlice hg 50 61 1 #[(0, x)] ho (Ac p q k c) i (.agg Z57) Tryd.underlying50 hi hz (by rw [hs]; decide) (by rw [hs]; decide) ?_ h
  rw [hs]
  simp only [List.map_toArray, List.map_cons, List.map_nil, hx]
  exact fill1 p q k c
/-- A PDU's cells that nothing was written to. -/
def zc : Fin 18 → Value := fun i => #[.int .u16 0, .string ⟨#[]⟩, .string ⟨#[]⟩, .string ⟨#[]⟩, .slice none 0 0, .bool false, .int .u32 0, .string ⟨#[]⟩, .string ⟨#[]⟩, .bool false, .int .u16 0, .int .u16 0, .slice none 0 0, .slice none 0 0, .int .u8 0, .int .u8 0, .int .u8 0, .slice none 0 0].getD i.val undef
def D0 : PdD := ⟨[], [], [], []⟩
theorem zc_one : ∀ i, (zc i).oneCell' = true := by decide
theorem fits0 (n : Nat) : Fits ([] : List El).length n := by unfold Fits; simp
theorem ox_zero (B : Nat) (W : World) (c : Fin 18 → Value) (h : ∀ i, (c i).oneCell' = true) (h4 : c 4 = .slice none 0 0) (h12 : c 12 = .slice none 0 0) (h13 : c 13 = .slice none 0 0) (h17 : c 17 = .slice none 0 0) : OX B W c D0 :=
  ⟨h, ⟨h4 ▸ OE.nil _ _ _ _ _, fits0 _⟩, ⟨h12 ▸ OE.nil _ _ _ _ _, fits0 _⟩, ⟨h13 ▸ OE.nil _ _ _ _ _, fits0 _⟩, ⟨h17 ▸ OE.nil _ _ _ _ _, fits0 _⟩, 0, 0, 0, h13 ▸ BR.nil _ _ _ _ _ _, h17 ▸ BR.nil _ _ _ _ _ _⟩
theorem oxf_zero (F : Nat → Prop) (B : Nat) (W : World) (c : Fin 18 → Value) (h : ∀ i, (c i).oneCell' = true) (h4 : c 4 = .slice none 0 0) (h12 : c 12 = .slice none 0 0) (h13 : c 13 = .slice none 0 0) (h17 : c 17 = .slice none 0 0) : OXF F B W c D0 :=
  ⟨ox_zero B W c h h4 h12 h13 h17, h4 ▸ RF.nil _ _ _ _ _, h12 ▸ RF.nil _ _ _ _ _, h13 ▸ RF.nil _ _ _ _ _, h17 ▸ RF.nil _ _ _ _ _⟩
theorem pd_zero (k : Int) : Tryd.prog.built 46 [(0, .int .i64 k)] = some (Pd k zc) := by kernel_rfl
theorem pd_zero0 : Tryd.prog.built 46 [] = some (Pd 0 zc) := by kernel_rfl
theorem pd_zero1 (k : Int) : Tryd.prog.built 46 [(0, .int .i64 k), (3, .int .u8 0)] = some (Pd k zc) := by kernel_rfl
theorem ac_zero (x : Int) : Tryd.prog.built 61 [(0, .int .i64 x)] = some (Ac x 0 0 zc) := by kernel_rfl
theorem act1_of {w W3 W4 : World} {x y k : Int} {c c3 : Fin 18 → Value} {D : PdD} {RQ : Array Value} (h1 : OX w.heap.size W3 c3 D) (h2 : ∀ i, i ≠ 4 → i ≠ 12 → i ≠ 13 → i ≠ 17 → c3 i = c i) (h3 : Below w.heap.size w W3) (hR : Ac x y k c3 = RQ) (hb : Below W3.heap.size W3 W4) : Act1 w x y k c D (.returned (.slice (some ⟨W4.heap.size, 0, none⟩) 1 1)) (W4.alloc (.cells RQ 61)) := by
  have s1 := h3.size
  have s2 := hb.size
  have hb2 : Below W3.heap.size W3 (W4.alloc (.cells RQ 61)) := hb.alloc s2 _
  refine ⟨_, c3, rfl, ⟨_, rfl, by omega, ?_⟩, h1.keep (fun b _ hlt => hb2.block b hlt), h2, h3.trans (hb2.mono s1)⟩
  rw [hR]
  exact alloc_new _ _
theorem act1_zero {w W4 : World} {x y k : Int} {RQ : Array Value} (hR : Ac x y k zc = RQ) (hb : Below w.heap.size w W4) : Act1 w x y k zc D0 (.returned (.slice (some ⟨W4.heap.size, 0, none⟩) 1 1)) (W4.alloc (.cells RQ 61)) :=
  act1_of (ox_zero _ _ _ zc_one rfl rfl rfl rfl) (fun _ _ _ _ _ => rfl) (Below.refl _ _) hR hb
set_option maxRecDepth 100000 in
set_option maxHeartbeats 2000000 in
theorem sendPdu_any (w : World) (pv : Value) (e : Nat) (word : Value) (EV : Array Value) (kd k1 k2 : Int) (c1 c2 : Fin 18 → Value) (D1 D2 : PdD) (he : w.heap[e]? = some (.cells EV 48)) (hE : EvX w EV kd k1 c1 D1 k2 c2 D2) :
    Calls Tryd.prog 57 #[pv, .pointer (some ⟨e, 0, none⟩), word] w (Act1 w 3 0 k1 c1 D1) := by
  have r3 : w.rangeAt e 1 (Pd k1 c1).toList := fun j v hv => by rw [cell_of_row w _ _ _ _ _ he]; exact hE.pdu j v hv
  have hcp := copied_any w k1 c1 D1 hE.r1
  obtain ⟨fs4, hu4⟩ := hu40
  clear he hE
  go_enter Tryd.func57, Tryd.ntmps57
  go_wp2_with (first | (refine wpList_load_mid rfl 46 (.tmp 9) rfl e 1 rfl (Pd k1 c1).toList _ r3 hu4 rfl (size40 k1 c1) ?_) | (go_at_call 68; refine hcp.mono ?_; refine Stop9.mk ?_))
  rintro x W3 ⟨c3, rfl, hox, hsc, hb3⟩
  have hst := sent_any W3 k1 c3 hox.one
  have HOX : Hid (OX w.heap.size W3 c3 D1 ∧ (∀ i, i ≠ 4 → i ≠ 12 → i ≠ 13 → i ≠ 17 → c3 i = c1 i) ∧ Below w.heap.size w W3) := ⟨hox, hsc, hb3⟩
  clear hox hsc hb3 hcp r3
  go_wp2_with (first | (go_at_call 69; refine hst.mono ?_; refine Stop9.mk ?_))
  rintro x W4 ⟨rfl, hb4⟩
  generalize hRQ : Ac 3 0 k1 c3 = RQ
  have HRQ : Hid (Ac 3 0 k1 c3 = RQ) := hRQ
  clear hRQ
  have HB4 : Hid (Below W3.heap.size W3 W4) := hb4
  clear hb4 hst
  go_wp2_with (first | (refine slice1 rfl (.tmp 12) rfl RQ 3 0 k1 c3 HRQ.out rfl ?_))
  go_ret
  exact act1_of HOX.out.1 HOX.out.2.1 HOX.out.2.2 HRQ.out HB4.out
set_option maxRecDepth 100000 in
set_option maxHeartbeats 2000000 in
theorem sendAnswer_any (w : World) (pv : Value) (e : Nat) (word : Value) (EV : Array Value) (kd k1 k2 : Int) (c1 c2 : Fin 18 → Value) (D1 D2 : PdD) (he : w.heap[e]? = some (.cells EV 48)) (hE : EvX w EV kd k1 c1 D1 k2 c2 D2) :
    Calls Tryd.prog 56 #[pv, .pointer (some ⟨e, 0, none⟩), word] w (Act1 w 3 0 k2 c2 D2) := by
  have r3 : w.rangeAt e 21 (Pd k2 c2).toList := fun j v hv => by rw [cell_of_row w _ _ _ _ _ he]; exact hE.ans j v hv
  have hcp := copied_any w k2 c2 D2 hE.r2
  obtain ⟨fs4, hu4⟩ := hu40
  clear he hE
  go_enter Tryd.func56, Tryd.ntmps56
  go_wp2_with (first | (refine wpList_load_mid rfl 46 (.tmp 9) rfl e 21 rfl (Pd k2 c2).toList _ r3 hu4 rfl (size40 k2 c2) ?_) | (go_at_call 68; refine hcp.mono ?_; refine Stop9.mk ?_))
  rintro x W3 ⟨c3, rfl, hox, hsc, hb3⟩
  have hst := sent_any W3 k2 c3 hox.one
  have HOX : Hid (OX w.heap.size W3 c3 D2 ∧ (∀ i, i ≠ 4 → i ≠ 12 → i ≠ 13 → i ≠ 17 → c3 i = c2 i) ∧ Below w.heap.size w W3) := ⟨hox, hsc, hb3⟩
  clear hox hsc hb3 hcp r3
  go_wp2_with (first | (go_at_call 69; refine hst.mono ?_; refine Stop9.mk ?_))
  rintro x W4 ⟨rfl, hb4⟩
  generalize hRQ : Ac 3 0 k2 c3 = RQ
  have HRQ : Hid (Ac 3 0 k2 c3 = RQ) := hRQ
  clear hRQ
  have HB4 : Hid (Below W3.heap.size W3 W4) := hb4
  clear hb4 hst
  go_wp2_with (first | (refine slice1 rfl (.tmp 12) rfl RQ 3 0 k2 c3 HRQ.out rfl ?_))
  go_ret
  exact act1_of HOX.out.1 HOX.out.2.1 HOX.out.2.2 HRQ.out HB4.out
set_option maxRecDepth 100000 in
set_option maxHeartbeats 2000000 in
theorem tellPdu_any (w : World) (pv : Value) (e : Nat) (t : Int) (EV : Array Value) (kd k1 k2 : Int) (c1 c2 : Fin 18 → Value) (D1 D2 : PdD) (he : w.heap[e]? = some (.cells EV 48)) (hE : EvX w EV kd k1 c1 D1 k2 c2 D2) :
    Calls Tryd.prog 53 #[pv, .pointer (some ⟨e, 0, none⟩), .int .i64 t] w (Act1 w 5 t k1 c1 D1) := by
  have r3 : w.rangeAt e 1 (Pd k1 c1).toList := fun j v hv => by rw [cell_of_row w _ _ _ _ _ he]; exact hE.pdu j v hv
  have hcp := copied_any w k1 c1 D1 hE.r1
  obtain ⟨fs4, hu4⟩ := hu40
  clear he hE
  go_enter Tryd.func53, Tryd.ntmps53
  go_wp2_with (first | (refine wpList_load_mid rfl 46 (.tmp 10) rfl e 1 rfl (Pd k1 c1).toList _ r3 hu4 rfl (size40 k1 c1) ?_) | (go_at_call 68; refine hcp.mono ?_; refine Stop9.mk ?_))
  rintro x W3 ⟨c3, rfl, hox, hsc, hb3⟩
  have hst := told_any W3 t k1 c3 hox.one
  have HOX : Hid (OX w.heap.size W3 c3 D1 ∧ (∀ i, i ≠ 4 → i ≠ 12 → i ≠ 13 → i ≠ 17 → c3 i = c1 i) ∧ Below w.heap.size w W3) := ⟨hox, hsc, hb3⟩
  clear hox hsc hb3 hcp r3
  go_wp2_with (first | (go_at_call 70; refine hst.mono ?_; refine Stop9.mk ?_))
  rintro x W4 ⟨rfl, hb4⟩
  generalize hRQ : Ac 5 t k1 c3 = RQ
  have HRQ : Hid (Ac 5 t k1 c3 = RQ) := hRQ
  clear hRQ
  have HB4 : Hid (Below W3.heap.size W3 W4) := hb4
  clear hb4 hst
  go_wp2_with (first | (refine slice1 rfl (.tmp 13) rfl RQ 5 t k1 c3 HRQ.out rfl ?_))
  go_ret
  exact act1_of HOX.out.1 HOX.out.2.1 HOX.out.2.2 HRQ.out HB4.out
set_option maxRecDepth 100000 in
set_option maxHeartbeats 2000000 in
theorem askForEnd_any (w : World) (pv ev : Value) (word : Value) : Calls Tryd.prog 58 #[pv, ev, word] w (Act1 w 3 0 5 zc D0) := by
  have hb := pd_zero 5
  have hst := sent_any w 5 zc zc_one
  generalize Pd 5 zc = PQ at hb hst
  go_enter Tryd.func58, Tryd.ntmps58
  go_wp2_with (first | (refine step_build rfl 46 _ rfl PQ (by simp [Act.eval]; exact hb) ?_) | (go_at_call 69; refine hst.mono ?_; refine Stop9.mk ?_))
  rintro x W4 ⟨rfl, hb4⟩
  generalize hRQ : Ac 3 0 5 zc = RQ
  have HRQ : Hid (Ac 3 0 5 zc = RQ) := hRQ
  clear hRQ
  have HB4 : Hid (Below w.heap.size w W4) := hb4
  clear hb4 hst hb
  go_wp2_with (first | (refine slice1 rfl (.tmp 8) rfl RQ 3 0 5 zc HRQ.out rfl ?_))
  go_ret
  exact act1_zero HRQ.out HB4.out
set_option maxRecDepth 100000 in
set_option maxHeartbeats 2000000 in
theorem agreeToEnd_any (w : World) (pv ev : Value) (word : Value) : Calls Tryd.prog 61 #[pv, ev, word] w (Act1 w 3 0 6 zc D0) := by
  have hb := pd_zero 6
  have hst := sent_any w 6 zc zc_one
  generalize Pd 6 zc = PQ at hb hst
  go_enter Tryd.func61, Tryd.ntmps61
  go_wp2_with (first | (refine step_build rfl 46 _ rfl PQ (by simp [Act.eval]; exact hb) ?_) | (go_at_call 69; refine hst.mono ?_; refine Stop9.mk ?_))
  rintro x W4 ⟨rfl, hb4⟩
  generalize hRQ : Ac 3 0 6 zc = RQ
  have HRQ : Hid (Ac 3 0 6 zc = RQ) := hRQ
  clear hRQ
  have HB4 : Hid (Below w.heap.size w W4) := hb4
  clear hb4 hst hb
  go_wp2_with (first | (refine slice1 rfl (.tmp 8) rfl RQ 3 0 6 zc HRQ.out rfl ?_))
  go_ret
  exact act1_zero HRQ.out HB4.out
set_option maxRecDepth 100000 in
set_option maxHeartbeats 2000000 in
theorem abortForUser_any (w : World) (pv ev : Value) (word : Value) : Calls Tryd.prog 63 #[pv, ev, word] w (Act1 w 3 0 7 zc D0) := by
  have hb := pd_zero1 7
  have hst := sent_any w 7 zc zc_one
  generalize Pd 7 zc = PQ at hb hst
  go_enter Tryd.func63, Tryd.ntmps63
  go_wp2_with (first | (refine step_build rfl 46 _ rfl PQ (by simp [Act.eval]; exact hb) ?_) | (go_at_call 69; refine hst.mono ?_; refine Stop9.mk ?_))
  rintro x W4 ⟨rfl, hb4⟩
  generalize hRQ : Ac 3 0 7 zc = RQ
  have HRQ : Hid (Ac 3 0 7 zc = RQ) := hRQ
  clear hRQ
  have HB4 : Hid (Below w.heap.size w W4) := hb4
  clear hb4 hst hb
  go_wp2_with (first | (refine slice1 rfl (.tmp 8) rfl RQ 3 0 7 zc HRQ.out rfl ?_))
  go_ret
  exact act1_zero HRQ.out HB4.out
set_option maxRecDepth 100000 in
set_option maxHeartbeats 2000000 in
theorem tell_any (w : World) (pv ev : Value) (t : Int) : Calls Tryd.prog 59 #[pv, ev, .int .i64 t] w (Act1 w 5 t 0 zc D0) := by
  have hb := pd_zero0
  have hst := told_any w t 0 zc zc_one
  generalize Pd 0 zc = PQ at hb hst
  go_enter Tryd.func59, Tryd.ntmps59
  go_wp2_with (first | (refine step_build rfl 46 _ rfl PQ (by simp [Act.eval]; exact hb) ?_) | (go_at_call 70; refine hst.mono ?_; refine Stop9.mk ?_))
  rintro x W4 ⟨rfl, hb4⟩
  generalize hRQ : Ac 5 t 0 zc = RQ
  have HRQ : Hid (Ac 5 t 0 zc = RQ) := hRQ
  clear hRQ
  have HB4 : Hid (Below w.heap.size w W4) := hb4
  clear hb4 hst hb
  go_wp2_with (first | (refine slice1 rfl (.tmp 9) rfl RQ 5 t 0 zc HRQ.out rfl ?_))
  go_ret
  exact act1_zero HRQ.out HB4.out
set_option maxRecDepth 100000 in
set_option maxHeartbeats 2000000 in
theorem answerX_any (w : World) (pv ev word : Value) : Calls Tryd.prog 55 #[pv, ev, word] w (Act1 w 2 0 0 zc D0) := by
  have hb := ac_zero 2
  generalize hRQ : Ac 2 0 0 zc = RQ at hb
  have HRQ : Hid (Ac 2 0 0 zc = RQ) := hRQ
  clear hRQ
  go_enter Tryd.func55, Tryd.ntmps55
  go_wp2_with (first | (refine step_build rfl 61 _ rfl RQ (by simp [Act.eval]; exact hb) ?_) | (refine slice1 rfl (.tmp 7) rfl RQ 2 0 0 zc HRQ.out rfl ?_))
  go_ret
  exact act1_zero HRQ.out (Below.refl _ _)
set_option maxRecDepth 100000 in
set_option maxHeartbeats 2000000 in
theorem shut_any (w : World) (pv ev word : Value) : Calls Tryd.prog 64 #[pv, ev, word] w (Act1 w 4 0 0 zc D0) := by
  have hb := ac_zero 4
  generalize hRQ : Ac 4 0 0 zc = RQ at hb
  have HRQ : Hid (Ac 4 0 0 zc = RQ) := hRQ
  clear hRQ
  go_enter Tryd.func64, Tryd.ntmps64
  go_wp2_with (first | (refine step_build rfl 61 _ rfl RQ (by simp [Act.eval]; exact hb) ?_) | (refine slice1 rfl (.tmp 7) rfl RQ 4 0 0 zc HRQ.out rfl ?_))
  go_ret
  exact act1_zero HRQ.out (Below.refl _ _)
set_option maxRecDepth 100000 in
set_option maxHeartbeats 2000000 in
theorem nothing_any (w : World) (pv ev word : Value) : Calls Tryd.prog 62 #[pv, ev, word] w fun e w' => e = .returned (.slice none 0 0) ∧ w' = w := by
  go_enter Tryd.func62, Tryd.ntmps62
  go_wp2
  go_ret
  exact ⟨rfl, rfl⟩
end Go.Proofs.YtiieikdbhpflgabDoor
