import Derived.Test.YtnamkcfmbefkfaaDoorNo
import Derived.Test.YtnamkcfmbefkfaaDoorVj
import Derived.Test.YtnamkcfmbefkfaaDoorVd
/-
  DERIVED. Rows laid anew; two lists of what is agreed compared.
-/
namespace Go.Proofs.YtnamkcfmbefkfaaDoor
open Go Go.Proofs Go.RowKit

/-- One row laid anew. -/
theorem one33 (W : World) (A : Array Value) : (W.alloc (.cells Z33 33)).heap[W.heap.size]? = some (.cells Z33 33) ∧ ((W.alloc (.cells Z33 33)).setRow W.heap.size A).heap[W.heap.size]? = some (.cells A 33) ∧
    (∀ b, b < W.heap.size → ((W.alloc (.cells Z33 33)).setRow W.heap.size A).heap[b]? = W.heap[b]?) ∧ ((W.alloc (.cells Z33 33)).setRow W.heap.size A).heap.size = W.heap.size + 1 ∧ Below W.heap.size W ((W.alloc (.cells Z33 33)).setRow W.heap.size A) := by
  have n0 := alloc_new W (.cells Z33 33)
  exact ⟨n0, setRow_heap _ _ _ _ _ _ n0, fun b hb => (setRow_other _ _ _ _ (by omega)).trans (Below.heap_alloc _ _ _ hb), by unfold World.setRow; simp, below_setRow ((Below.refl _ _).alloc (Nat.le_refl _) _) (Nat.le_refl _) _⟩
/-- Two rows laid anew. -/
theorem two33 (W : World) (A R : Array Value) : ((W.alloc (.cells Z33 33)).alloc (.cells Z33 33)).heap[W.heap.size]? = some (.cells Z33 33) ∧ (((W.alloc (.cells Z33 33)).alloc (.cells Z33 33)).setRow W.heap.size A).heap[W.heap.size + 1]? = some (.cells Z33 33) ∧
    ((((W.alloc (.cells Z33 33)).alloc (.cells Z33 33)).setRow W.heap.size A).setRow (W.heap.size + 1) R).heap[W.heap.size]? = some (.cells A 33) ∧ ((((W.alloc (.cells Z33 33)).alloc (.cells Z33 33)).setRow W.heap.size A).setRow (W.heap.size + 1) R).heap[W.heap.size + 1]? = some (.cells R 33) ∧
    (∀ b, b < W.heap.size → ((((W.alloc (.cells Z33 33)).alloc (.cells Z33 33)).setRow W.heap.size A).setRow (W.heap.size + 1) R).heap[b]? = W.heap[b]?) ∧ ((((W.alloc (.cells Z33 33)).alloc (.cells Z33 33)).setRow W.heap.size A).setRow (W.heap.size + 1) R).heap.size = W.heap.size + 2 ∧ Below W.heap.size W ((((W.alloc (.cells Z33 33)).alloc (.cells Z33 33)).setRow W.heap.size A).setRow (W.heap.size + 1) R) := by
  obtain ⟨-, n0, n1, z⟩ := two_new W (.cells Z33 33) (.cells Z33 33)
  have k1 : (((W.alloc (.cells Z33 33)).alloc (.cells Z33 33)).setRow W.heap.size A).heap[W.heap.size + 1]? = some (.cells Z33 33) := (setRow_other _ _ _ _ (by omega)).trans n1
  refine ⟨n0, k1, (setRow_other _ _ _ _ (by omega)).trans (setRow_heap _ _ _ _ _ _ n0), setRow_heap _ _ _ _ _ _ k1, fun b hb => ?_, by unfold World.setRow; simp, below_setRow (below_setRow (((Below.refl _ _).alloc (Nat.le_refl _) _).alloc (by simp) _) (Nat.le_refl _) _) (by omega) _⟩
  exact (setRow_other _ _ _ _ (by omega)).trans ((setRow_other _ _ _ _ (by omega)).trans ((Below.heap_alloc _ _ _ (by simp; omega)).trans (Below.heap_alloc _ _ _ hb)))
theorem AgR.on {W W' : World} {v : Value} {l : List (Int × ByteArray × Int)} (h : AgR W v l) (hb : Below W.heap.size W W') : AgR W' v l := by
  obtain ⟨ao, cap, rfl, h1⟩ := h
  refine ⟨ao, cap, rfl, fun hn => ?_⟩
  obtain ⟨g, rfl, h2⟩ := h1 hn
  exact ⟨g, rfl, fun i hi => ⟨(hb.cell (cell_lt (h2 i hi).1)).trans (h2 i hi).1, (hb.cell (cell_lt (h2 i hi).2.1)).trans (h2 i hi).2.1, (hb.cell (cell_lt (h2 i hi).2.2)).trans (h2 i hi).2.2⟩⟩
/-- The list's block is as it was: then the list is. -/
theorem AgR.keep {W W' : World} {v : Value} {l : List (Int × ByteArray × Int)} (h : AgR W v l) (hb : ∀ b, v.ownBlock = some b → W'.heap[b]? = W.heap[b]?) : AgR W' v l := by
  obtain ⟨ao, cap, rfl, h1⟩ := h
  refine ⟨ao, cap, rfl, fun hn => ?_⟩
  obtain ⟨g, rfl, h2⟩ := h1 hn
  have e := hb g rfl
  exact ⟨g, rfl, fun i hi => ⟨(World.cell?_of_block e).trans (h2 i hi).1, (World.cell?_of_block e).trans (h2 i hi).2.1, (World.cell?_of_block e).trans (h2 i hi).2.2⟩⟩
end Go.Proofs.YtnamkcfmbefkfaaDoor

/-
  DERIVED. The law's code, statement by statement; what stands throughout.
-/
namespace Go.Proofs.YtnamkcfmbefkfaaDoor
open Go Go.Proofs Go.RowKit

/-- What stands behind the first n statements. -/
def nthTail : Nat → Code → Code
  | 0, c => c
  | n + 1, .seq _ b => nthTail n b
  | _ + 1, c => c
def nthHead : Code → Code
  | .seq a _ => a
  | c => c
def tl (b : Option Code) (n : Nat) : Code := nthTail n (b.getD .skip)
def hd (b : Option Code) (n : Nat) : Code := nthHead (tl b n)
/-- How the law ends. -/
def QL (w : World) : Exit → Act → World → Prop := bodyPost Tryd.prog Tryd.f3 fun e w' => e = .returned (.bool true) ∧ Below w.heap.size w w'
/-- What stands throughout: the request and the configuration that came in. -/
structure LwI (w : World) (k : Int) (c : Fin 18 → Value) (CF : Array Value) (W : World) : Prop where
  b : Below w.heap.size w W
  p : W.heap[w.heap.size]? = some (.cells (Pd k c) 33)
  q : W.heap[w.heap.size + 1]? = some (.cells CF 36)
theorem LwI.on {w W W' : World} {k : Int} {c : Fin 18 → Value} {CF : Array Value} (h : LwI w k c CF W) (hb : Below (w.heap.size + 2) W W') : LwI w k c CF W' :=
  ⟨h.b.trans (hb.mono (by omega)), (hb.block _ (by omega)).trans h.p, (hb.block _ (by omega)).trans h.q⟩
theorem LwI.size {w W : World} {k : Int} {c : Fin 18 → Value} {CF : Array Value} (h : LwI w k c CF W) : w.heap.size + 2 ≤ W.heap.size := (Array.getElem?_eq_some_iff.1 h.q).1
theorem LwI.kf {w W W' : World} {k : Int} {c : Fin 18 → Value} {CF : Array Value} {F : Nat → Prop} (h : LwI w k c CF W) (hb : KF F W W') (hF : ∀ b, F b → w.heap.size + 2 ≤ b) : LwI w k c CF W' := by
  have hs := h.size
  have hk : ∀ b, b < w.heap.size + 2 → W'.heap[b]? = W.heap[b]? := fun b h1 => hb.block b (by omega) fun h2 => by have := hF b h2; omega
  exact ⟨⟨hb.os.trans h.b.os, hb.tape.trans h.b.tape, hb.output.trans h.b.output, Nat.le_trans h.b.size hb.size, fun b h1 => (hk b (by omega)).trans (h.b.block b h1)⟩, (hk _ (by omega)).trans h.p, (hk _ (by omega)).trans h.q⟩
/-- What is known of what came in. -/
structure Bs (w : World) (k : Int) (c : Fin 18 → Value) (D : PdD) (cv : Value) (r : RqD) (s : SvD) : Prop where
  rq : RqV k c r
  rx : RX w c D
  sm : Sml D
  ty : TyC c
  tr : TR w cv s.T
  rs : RqSm r s
  m : 0 ≤ r.m ∧ r.m ≤ 4294967295
/-- The configuration's cells. -/
def cfA (s : SvD) (cv a1 a2 : Value) : Array Value := #[.string s.title, cv, .int .i64 s.lines, a1, a2]
theorem cf_info (s : SvD) (cv a1 a2 : Value) : (Tryd.prog.info? 36).map (·.size) = some (cfA s cv a1 a2).size := by unfold cfA; kernel_rfl
theorem neg5 {w W : World} {k : Int} {c : Fin 18 → Value} {D : PdD} {cv : Value} {r : RqD} {s : SvD} (B : Bs w k c D cv r s) (hb : Below w.heap.size w W) (a1 a2 : Value) (k' : Int) (c' : Fin 18 → Value) (D' : PdD) (r' : RqD) (b' : Int) (h1 : RqV k' c' r') (h2 : RX W c' D') (h3 : RqSm r' s) (h4 : 0 ≤ r'.m ∧ r'.m ≤ 4294967295) :
    Calls Tryd.prog 5 #[.agg (Pd k' c'), .agg (cfA s cv a1 a2), .int .i64 b'] W (NegP W r' s b' D'.cx) :=
  negotiate_any W k' c' D' cv a1 a2 r' s b' h1 h2 (B.tr.on hb) h3 h4
theorem neg6 {w W : World} {k : Int} {c : Fin 18 → Value} {D : PdD} {cv : Value} {r : RqD} {s : SvD} (B : Bs w k c D cv r s) (hb : Below w.heap.size w W) (a1 a2 : Value) (k' : Int) (c' : Fin 18 → Value) (D' : PdD) (r' : RqD) (b' : Int) (h1 : RqV k' c' r') (h2 : RX W c' D') (h3 : RqSm r' s) (h4 : 0 ≤ r'.m ∧ r'.m ≤ 4294967295) :
    Calls Tryd.prog 6 #[.agg (Pd k' c'), .agg (cfA s cv a1 a2), .int .i64 b'] W (NegP W r' s b' D'.cx) :=
  rnegotiate_any W k' c' D' cv a1 a2 r' s b' h1 h2 (B.tr.on hb) h3 h4
theorem op_alloc33 {o : Oper} {a : Act} {w : World} {K : Act → World → Prop} {Q : Exit → Act → World → Prop} (ho : o.op = .alloc 33) (h : K (a.put o.dst (.pointer (some ⟨w.heap.size, 0, none⟩))) (w.alloc (.cells Z33 33))) : o.wp Tryd.prog a w K Q := by
  obtain ⟨d, op, ty, pos, af, gd⟩ := o
  simp only at ho
  subst ho
  go_simp
  exact h
theorem range3 {W : World} {g o : Nat} {x y z : Value} (h0 : W.cell? ⟨g, o, none⟩ = some x) (h1 : W.cell? ⟨g, o + 1, none⟩ = some y) (h2 : W.cell? ⟨g, o + 2, none⟩ = some z) : W.rangeAt g o [x, y, z] := fun j v hv => by
  match j, hv with
  | 0, hv => cases hv; exact h0
  | 1, hv => cases hv; exact h1
  | 2, hv => cases hv; exact h2
  | n + 3, hv => simp at hv
theorem i44c (x : Int) (s : ByteArray) (n : Int) : (Tryd.prog.info? 44).map (·.size) = some [Value.int .u8 x, .string s, .int .i64 n].length := by kernel_rfl
/-- The statements, one by one. -/
theorem tl_0 : tl Tryd.f3.body 0 = .seq (hd Tryd.f3.body 0) (tl Tryd.f3.body 1) := by kernel_rfl
theorem tl_6 : tl Tryd.f3.body 6 = .seq (hd Tryd.f3.body 6) (tl Tryd.f3.body 7) := by kernel_rfl
theorem tl_7 : tl Tryd.f3.body 7 = .seq (hd Tryd.f3.body 7) (tl Tryd.f3.body 8) := by kernel_rfl
theorem tl_8 : tl Tryd.f3.body 8 = .seq (hd Tryd.f3.body 8) (tl Tryd.f3.body 9) := by kernel_rfl
theorem tl_9 : tl Tryd.f3.body 9 = .seq (hd Tryd.f3.body 9) (tl Tryd.f3.body 10) := by kernel_rfl
theorem tl_10 : tl Tryd.f3.body 10 = .seq (hd Tryd.f3.body 10) (tl Tryd.f3.body 11) := by kernel_rfl
theorem tl_11 : tl Tryd.f3.body 11 = .seq (hd Tryd.f3.body 11) (tl Tryd.f3.body 12) := by kernel_rfl
theorem tl_12 : tl Tryd.f3.body 12 = .seq (hd Tryd.f3.body 12) (tl Tryd.f3.body 13) := by kernel_rfl
theorem tl_13 : tl Tryd.f3.body 13 = .seq (hd Tryd.f3.body 13) (tl Tryd.f3.body 14) := by kernel_rfl
theorem tl_14 : tl Tryd.f3.body 14 = .seq (hd Tryd.f3.body 14) (tl Tryd.f3.body 15) := by kernel_rfl
theorem tl_15 : tl Tryd.f3.body 15 = .seq (hd Tryd.f3.body 15) (tl Tryd.f3.body 16) := by kernel_rfl
theorem tl_16 : tl Tryd.f3.body 16 = .seq (hd Tryd.f3.body 16) (tl Tryd.f3.body 17) := by kernel_rfl
theorem tl_17 : tl Tryd.f3.body 17 = .seq (hd Tryd.f3.body 17) (tl Tryd.f3.body 18) := by kernel_rfl
theorem tl_18 : tl Tryd.f3.body 18 = .seq (hd Tryd.f3.body 18) (tl Tryd.f3.body 19) := by kernel_rfl
theorem tl_19 : tl Tryd.f3.body 19 = .seq (hd Tryd.f3.body 19) (tl Tryd.f3.body 20) := by kernel_rfl
theorem tl_20 : tl Tryd.f3.body 20 = .seq (hd Tryd.f3.body 20) (tl Tryd.f3.body 21) := by kernel_rfl
theorem tl_21 : tl Tryd.f3.body 21 = .seq (hd Tryd.f3.body 21) (tl Tryd.f3.body 22) := by kernel_rfl
end Go.Proofs.YtnamkcfmbefkfaaDoor
