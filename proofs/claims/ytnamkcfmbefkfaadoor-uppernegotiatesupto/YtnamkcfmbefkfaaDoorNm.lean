import Derived.Test.YtnamkcfmbefkfaaDoorNl
/-
  DERIVED. The law's own request.
-/
namespace Go.Proofs.YtnamkcfmbefkfaaDoor
open Go Go.Proofs Go.RowKit

def rqImp : ByteArray := ⟨#[49, 46, 50, 46, 56, 52, 48, 46, 49, 48, 48, 48, 56, 46, 49, 46, 50]⟩
def rqVer : ByteArray := ⟨#[49, 46, 50, 46, 56, 52, 48, 46, 49, 48, 48, 48, 56, 46, 49, 46, 49]⟩
/-- The cells of the law's own request. -/
def rqC (l : Value) : Fin 18 → Value := fun i => #[.int .u16 1, .string ⟨#[82, 73, 83]⟩, .string ⟨#[67, 84, 49]⟩, .string ⟨#[49, 46, 50, 46, 56, 52, 48, 46, 49, 48, 48, 48, 56, 46, 51, 46, 49, 46, 49, 46, 49]⟩, l, .bool false, .int .u32 0, .string ⟨#[]⟩, .string ⟨#[]⟩, .bool false, .int .u16 0, .int .u16 0, .slice none 0 0, .slice none 0 0, .int .u8 0, .int .u8 0, .int .u8 0, .slice none 0 0].getD i.val undef
def rqA (l : Value) : Array Value := #[.int .u16 1, .string ⟨#[82, 73, 83]⟩, .string ⟨#[67, 84, 49]⟩, .string ⟨#[49, 46, 50, 46, 56, 52, 48, 46, 49, 48, 48, 48, 56, 46, 51, 46, 49, 46, 49, 46, 49]⟩, l, .bool false, .int .u32 0, .string ⟨#[]⟩, .string ⟨#[]⟩, .bool false, .int .u16 0, .int .u16 0, .slice none 0 0, .slice none 0 0]
def rqE : El := ⟨[.int .u8 1, .int .u8 0, .string rqVer], .tx [rqImp]⟩
theorem rq_one (l : Value) (hl : l.oneCell' = true) : ∀ i, (rqC l i).oneCell' = true := fun i => by
  match i with
  | ⟨0, _⟩ => rfl
  | ⟨1, _⟩ => rfl
  | ⟨2, _⟩ => rfl
  | ⟨3, _⟩ => rfl
  | ⟨4, _⟩ => exact hl
  | ⟨5, _⟩ => rfl
  | ⟨6, _⟩ => rfl
  | ⟨7, _⟩ => rfl
  | ⟨8, _⟩ => rfl
  | ⟨9, _⟩ => rfl
  | ⟨10, _⟩ => rfl
  | ⟨11, _⟩ => rfl
  | ⟨12, _⟩ => rfl
  | ⟨13, _⟩ => rfl
  | ⟨14, _⟩ => rfl
  | ⟨15, _⟩ => rfl
  | ⟨16, _⟩ => rfl
  | ⟨17, _⟩ => rfl
  | ⟨n + 18, h⟩ => exact absurd h (by omega)
theorem rq_built (a : Option Addr) (n c : Nat) : Tryd.prog.built 30 [(0, .int .u16 1), (1, .string ⟨#[82, 73, 83]⟩), (2, .string ⟨#[67, 84, 49]⟩), (3, .string ⟨#[49, 46, 50, 46, 56, 52, 48, 46, 49, 48, 48, 48, 56, 46, 51, 46, 49, 46, 49, 46, 49]⟩), (4, .slice a n c)] = some (rqA (.slice a n c)) := by kernel_rfl
theorem rq_builtC (a : Option Addr) (n c : Nat) : Tryd.prog.built 51 [(0, .int .u8 1), (2, .string rqVer), (3, .slice a n c)] = some (pcC 1 0 rqVer (.slice a n c)) := by kernel_rfl
theorem rq_info (l : Value) : (Tryd.prog.info? 30).map (·.size) = some (rqA l).size := by unfold rqA; kernel_rfl
theorem rq_oneA (a : Option Addr) (n c : Nat) : (rqA (.slice a n c)).all (·.oneCell') = true := by simp only [rqA, List.all_toArray, List.all_cons, List.all_nil]; rfl
theorem fill_ctx (A : Array Value) (hA : A.size = 4) (x y : Int) (s : ByteArray) (v : Value) (h : A = pcC x y s v) : Instr.fill (fun i => some (i * 4, 4)) (Array.map (fun x => (Value.agg #[.int .u8 0, .int .u8 0, .string ⟨#[]⟩, .slice none 0 0]).cells[x % (Value.agg #[.int .u8 0, .int .u8 0, .string ⟨#[]⟩, .slice none 0 0]).cells.size]!) (Array.range (1 * 4))) [(0, .agg A)] = some A := by
  subst h
  kernel_rfl
theorem ls_bs23 {ops : Array Oper} {rest : List Oper} {o : Oper} {a : Act} {w : World} {Q : Exit → Act → World → Prop} (hg : o.guard = none) (x : Operand) (ho : o.op = .buildSlice 23 1 #[(0, x)]) (A : Array Value) (cx cy : Int) (s : ByteArray) (v : Value) (hA : A = pcC cx cy s v) (hx : a.eval x = .agg A)
    (h : wpList Tryd.prog ops Q rest (a.put o.dst (.slice (some ⟨w.heap.size, 0, none⟩) 1 1)) (w.alloc (.cells A 51))) : wpList Tryd.prog ops Q (o :: rest) a w := by
  obtain ⟨i, hi, hz, hs, _⟩ := info_parts infoCtx
  refine wpList_buildSlice hg 23 51 1 #[(0, x)] ho A i _ Tryd.underlying23 hi hz (by rw [hs]; decide) (by rw [hs]; decide) ?_ h
  rw [hs]
  simp only [List.map_toArray, List.map_cons, List.map_nil, hx]
  exact fill_ctx A (by rw [hA]; rfl) cx cy s v hA
theorem ls_bs34 {ops : Array Oper} {rest : List Oper} {o : Oper} {a : Act} {w : World} {Q : Exit → Act → World → Prop} (hg : o.guard = none) (x : Operand) (u : ByteArray) (ho : o.op = .buildSlice 34 1 #[(0, x)]) (hx : a.eval x = .string u)
    (h : wpList Tryd.prog ops Q rest (a.put o.dst (.slice (some ⟨w.heap.size, 0, none⟩) 1 1)) (w.alloc (.cells #[.string u] 9))) : wpList Tryd.prog ops Q (o :: rest) a w := by
  obtain ⟨i, hi, hz, hs, _⟩ := info_parts infoStr
  refine wpList_buildSlice hg 34 9 1 #[(0, x)] ho #[.string u] i (.string ⟨#[]⟩) Tryd.underlying34 hi hz (by rw [hs]; decide) (by rw [hs]; decide) ?_ h
  rw [hs]
  simp only [List.map_toArray, List.map_cons, List.map_nil, hx]
  exact fill_str u
theorem rq_put (l : Value) : putAll (Pd 1 zc) 1 (rqA l).toList = Pd 1 (rqC l) := by kernel_rfl
set_option maxRecDepth 100000 in
set_option maxHeartbeats 4000000 in
theorem request_any (w : World) : Calls Tryd.prog 8 #[] w fun e w' => ∃ l, e = .returned (.agg (Pd 1 (rqC l))) ∧ OE w.heap.size w' l [rqE] 4 51 ShC ∧ Below w.heap.size w w' := by
  obtain ⟨fs, hu⟩ := hu33
  obtain ⟨W1, hW1⟩ : ∃ W1, (w.alloc (.cells Z33 33)).alloc (.cells Z33 33) = W1 := ⟨_, rfl⟩
  obtain ⟨-, n0, n1, z1⟩ := two_new w (.cells Z33 33) (.cells Z33 33)
  have hb1 : Below w.heap.size w W1 := hW1 ▸ ((Below.refl _ _).alloc (Nat.le_refl _) _).alloc (by simp) _
  rw [hW1] at n0 n1 z1
  have s1 := size40' 1 zc
  have o1 := pd_one 1 zc (by decide)
  have l1 := z33 1 zc
  have b1 := pd_zero 1
  obtain ⟨W2, hW2⟩ : ∃ W2, W1.setRow (w.heap.size + 1) (Pd 1 zc) = W2 := ⟨_, rfl⟩
  have r1 : W2.heap[w.heap.size + 1]? = some (.cells (Pd 1 zc) 33) := hW2 ▸ setRow_heap _ _ _ _ _ _ n1
  have r0 : W2.heap[w.heap.size]? = some (.cells Z33 33) := hW2 ▸ (setRow_other _ _ _ _ (by omega)).trans n0
  have z2 : W2.heap.size = w.heap.size + 2 := by rw [← hW2]; unfold World.setRow; simp [z1]
  have hb2 : Below w.heap.size w W2 := hW2 ▸ below_setRow hb1 (by omega) _
  obtain ⟨W3, hW3⟩ : ∃ W3, W2.alloc (.cells #[.string rqImp] 9) = W3 := ⟨_, rfl⟩
  have n3 : W3.heap[w.heap.size + 2]? = some (.cells #[.string rqImp] 9) := hW3 ▸ z2 ▸ alloc_new W2 _
  have z3 : W3.heap.size = w.heap.size + 3 := by rw [← hW3]; simp [z2]
  have hb3 : Below w.heap.size w W3 := hW3 ▸ hb2.alloc (by omega) _
  have k3 : ∀ b, b < w.heap.size + 2 → W3.heap[b]? = W2.heap[b]? := fun b hb => hW3 ▸ Below.heap_alloc _ _ _ (by omega)
  have bC := rq_builtC (some ⟨w.heap.size + 2, 0, none⟩) 1 1
  obtain ⟨C, hC⟩ : ∃ C, pcC 1 0 rqVer (.slice (some ⟨w.heap.size + 2, 0, none⟩) 1 1) = C := ⟨_, rfl⟩
  rw [hC] at bC
  have HC : Hid (pcC 1 0 rqVer (.slice (some ⟨w.heap.size + 2, 0, none⟩) 1 1) = C) := hC
  clear hC
  obtain ⟨W4, hW4⟩ : ∃ W4, W3.alloc (.cells C 51) = W4 := ⟨_, rfl⟩
  have n4 : W4.heap[w.heap.size + 3]? = some (.cells C 51) := hW4 ▸ z3 ▸ alloc_new W3 _
  have hb4 : Below w.heap.size w W4 := hW4 ▸ hb3.alloc (by omega) _
  have k4 : ∀ b, b < w.heap.size + 3 → W4.heap[b]? = W3.heap[b]? := fun b hb => hW4 ▸ Below.heap_alloc _ _ _ (by omega)
  have q4 := (k4 (w.heap.size + 1) (by omega)).trans ((k3 (w.heap.size + 1) (by omega)).trans r1)
  have bA := rq_built (some ⟨w.heap.size + 3, 0, none⟩) 1 1
  have iA := rq_info (.slice (some ⟨w.heap.size + 3, 0, none⟩) 1 1)
  have oA := rq_oneA (some ⟨w.heap.size + 3, 0, none⟩) 1 1
  have hput := rq_put (.slice (some ⟨w.heap.size + 3, 0, none⟩) 1 1)
  have zA : (rqA (.slice (some ⟨w.heap.size + 3, 0, none⟩) 1 1)).size = 14 := rfl
  have zP : (Pd 1 zc).size = 19 := rfl
  have sR := size40' 1 (rqC (.slice (some ⟨w.heap.size + 3, 0, none⟩) 1 1))
  have oR := pd_one 1 (rqC (.slice (some ⟨w.heap.size + 3, 0, none⟩) 1 1)) (rq_one _ rfl)
  have lR := z33 1 (rqC (.slice (some ⟨w.heap.size + 3, 0, none⟩) 1 1))
  have HR : Hid (∀ (e : Ending) (W' : World), e = .returned (.agg (Pd 1 (rqC (.slice (some ⟨w.heap.size + 3, 0, none⟩) 1 1)))) → W'.heap[w.heap.size + 3]? = some (.cells C 51) → W'.heap[w.heap.size + 2]? = some (.cells #[.string rqImp] 9) → Below w.heap.size w W' → ∃ l, e = .returned (.agg (Pd 1 (rqC l))) ∧ OE w.heap.size W' l [rqE] 4 51 ShC ∧ Below w.heap.size w W') := fun e W' he h1 h2 hb => by
    refine ⟨_, he, ⟨C.toList, ?_, fun i hi => ?_, fun p hp => ?_⟩, hb⟩
    · rw [← HC.out]
      rw [← HC.out] at h1
      exact ⟨rfl, .inr ⟨_, 1, _, rfl, by omega, h1, Nat.le_refl _, by decide, rfl, rfl⟩⟩
    · obtain rfl : i = 0 := by simp at hi; omega
      refine ⟨[.slice (some ⟨w.heap.size + 2, 0, none⟩) 1 1], fun j u hu => ?_, ⟨_, rfl, ⟨rfl, .inr ⟨_, 1, _, rfl, by omega, h2, Nat.le_refl _, by decide, rfl, rfl⟩⟩, by decide, fun b e1 e2 => ?_⟩⟩
      · rw [← HC.out, Nat.zero_mul, Nat.zero_add]
        exact hu
      · simp [Value.ownBlock] at e1 e2
        omega
    · rw [List.mem_singleton.1 hp]
      exact ⟨_, _, _, _, rfl⟩
  generalize rqA (.slice (some ⟨w.heap.size + 3, 0, none⟩) 1 1) = A at *
  generalize Pd 1 (rqC (.slice (some ⟨w.heap.size + 3, 0, none⟩) 1 1)) = R at *
  generalize Pd 1 zc = P1 at *
  obtain ⟨W5, hW5⟩ : ∃ W5, W4.setCells (w.heap.size + 1) 1 A.toList = W5 := ⟨_, rfl⟩
  obtain ⟨q5, hk5, hbb5, -⟩ := setCells_put A.toList 1 W4 P1 q4
  have th5 : W4.there (w.heap.size + 1) 1 A.size := there_row q4 1 A.size (by omega)
  have hb5 := hbb5 w.heap.size w (by omega) hb4
  rw [hW5] at q5 hk5 hb5
  rw [hput] at q5
  have p0 : W5.heap[w.heap.size]? = some (.cells Z33 33) := (hk5 _ (by omega)).trans ((k4 _ (by omega)).trans ((k3 _ (by omega)).trans r0))
  have p3 := (hk5 (w.heap.size + 3) (by omega)).trans n4
  have p2 := (hk5 (w.heap.size + 2) (by omega)).trans ((k4 _ (by omega)).trans n3)
  obtain ⟨W6, hW6⟩ : ∃ W6, W5.setRow w.heap.size R = W6 := ⟨_, rfl⟩
  have v0 : W6.heap[w.heap.size]? = some (.cells R 33) := hW6 ▸ setRow_heap _ _ _ _ _ _ p0
  have v3 : W6.heap[w.heap.size + 3]? = some (.cells C 51) := hW6 ▸ (setRow_other _ _ _ _ (by omega)).trans p3
  have v2 : W6.heap[w.heap.size + 2]? = some (.cells #[.string rqImp] 9) := hW6 ▸ (setRow_other _ _ _ _ (by omega)).trans p2
  have hb6 : Below w.heap.size w W6 := hW6 ▸ below_setRow hb5 (Nat.le_refl _) _
  have hld := run_loadVar_row (P := Tryd.prog) _ _ _ 33 _ _ _ v0 hu rfl sR
  have HFIN := HR.out _ W6 rfl v3 v2 hb6
  have HF : Hid _ := HFIN
  clear HFIN v2 v3 hb6 p2 p3 hb5 hbb5 hk5 hput hb4 k4 k3 hb3 n3 n4 HR r0 r1 q4 hb1 hb2 n0 v0
  unfold Z33 at hW1
  go_enter Tryd.func8, Tryd.ntmps8
  go_wp2_with (first | (rw [hW1]) | (refine step_build rfl 33 _ rfl P1 (by simp [Act.eval]; exact b1) ?_) | (refine wpList_store_row rfl 33 (.tmp 1) (.tmp 2) rfl (w.heap.size + 1) P1 rfl rfl 33 _ n1 s1 l1 o1 ?_; rw [hW2]) | (refine ls_bs34 rfl (.const (.string rqImp)) rqImp rfl rfl ?_; rw [hW3]; rw [z2]) | (refine step_build rfl 51 _ rfl C (by simp [Act.eval]; exact bC) ?_) | (refine ls_bs23 rfl (.tmp 4) rfl C 1 0 rqVer _ HC.out.symm rfl ?_; rw [hW4]; rw [z3]) | (refine step_build rfl 30 _ rfl A (by simp [Act.eval]; exact bA) ?_) | (refine wpList_store_mid rfl 30 (.tmp 7) (.tmp 6) rfl (w.heap.size + 1) 1 A rfl rfl th5 iA oA ?_; rw [hW5]) | (refine wpList_load_row rfl 33 (.tmp 1) rfl (w.heap.size + 1) rfl 33 R (0, 0) _ q5 hu rfl sR ?_) | (refine wpList_store_row rfl 33 (.tmp 0) (.tmp 8) rfl w.heap.size R rfl rfl 33 _ p0 sR lR oR ?_; rw [hW6]))
  refine bodyPost_ret (v := .agg R) (res_cell (k := 0) Tryd.results8 (by kernel_rfl) hld) rfl HF.out
end Go.Proofs.YtnamkcfmbefkfaaDoor
