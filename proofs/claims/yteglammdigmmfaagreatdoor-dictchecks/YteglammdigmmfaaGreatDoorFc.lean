import Derived.Test.YteglammdigmmfaaGreatDoorTS
import Derived.Laws.BitsAllLaws
/-
  DERIVED. The program's dictionary, asked for a tag.
-/
namespace Go.Proofs.YteglammdigmmfaaGreatDoor.Tb
open Go Go.RowKit Go.Shelf
attribute [local go_sem] Oper.semAt_some

/-- What a lookup has in memory ahead of its end. -/
structure FI (w V : World) (b : Nat) (t : Nat) : Prop where
  tc : V.cell? ⟨b, 0, none⟩ = some (.int .u32 (t : Int))
  r0 : V.cell? ⟨b + 1, 0, none⟩ = some (.int .u32 0)
  r1 : V.cell? ⟨b + 1, 1, none⟩ = some (.int .u32 0)
  r2 : V.cell? ⟨b + 1, 2, none⟩ = some (.int .i64 0)
  r3 : V.cell? ⟨b + 1, 3, none⟩ = some (.string ⟨#[]⟩)
  r4 : V.cell? ⟨b + 1, 4, none⟩ = some (.int .i64 0)
  r5 : V.cell? ⟨b + 1, 5, none⟩ = some (.int .i64 0)
  q : V.cell? ⟨b + 1 + 1, 0, none⟩ = some (.bool false)
  f1 : ∀ i, V.frozen? ⟨b + 1, i, none⟩ = false
  f2 : ∀ i, V.frozen? ⟨b + 1 + 1, i, none⟩ = false
  be : Below b w V
theorem FI.on {w V V' : World} {b t : Nat} (h : FI w V b t) (hb : Below V.heap.size V V') : FI w V' b t :=
  ⟨(hb.cell (cell_lt h.tc)).trans h.tc, (hb.cell (cell_lt h.r0)).trans h.r0, (hb.cell (cell_lt h.r1)).trans h.r1, (hb.cell (cell_lt h.r2)).trans h.r2, (hb.cell (cell_lt h.r3)).trans h.r3, (hb.cell (cell_lt h.r4)).trans h.r4, (hb.cell (cell_lt h.r5)).trans h.r5, (hb.cell (cell_lt h.q)).trans h.q,
    fun i => (hb.frozen (p := ⟨b + 1, i, none⟩) (show b + 1 < _ from cell_lt h.r0)).trans (h.f1 i), fun i => (hb.frozen (p := ⟨b + 1 + 1, i, none⟩) (show b + 1 + 1 < _ from cell_lt h.q)).trans (h.f2 i), h.be.trans (hb.mono (by have : b < V.heap.size := cell_lt h.tc; omega))⟩
theorem cell_kept_block {W W' : World} {row : Option Nat} {a : Addr} {v : Value} (h : W.cell? a = some v) (hg : W.grownBy W' row) (hrow : ∀ r, row = some r → ∃ o : Obj, W.heap[r]? = some o ∧ o.isCells = false) : W'.heap[a.block]? = W.heap[a.block]? := by
  obtain ⟨o, ho, hc⟩ := cells_of_cell h
  exact grownBy_keeps_cells hg hrow ho hc
theorem below_grown {w V V' : World} {b n : Nat} {row : Option Nat} (h : Below b w V) (hb : b ≤ V.heap.size) (hg : V.grownBy V' row) (hr : ∀ r, row = some r → n ≤ r) (hn : b ≤ n) : Below b w V' :=
  ⟨hg.os.trans h.os, hg.tape.trans h.tape, hg.output.trans h.output, Nat.le_trans h.size hg.size, fun k hk => (hg.block k (by omega) (fun e => by have := hr k e.symm; omega)).trans (h.block k hk)⟩
theorem FI.grown {w V V' : World} {b t n : Nat} {row : Option Nat} (h : FI w V b t) (hg : V.grownBy V' row) (hr : ∀ r, row = some r → n ≤ r ∧ ∃ o : Obj, V.heap[r]? = some o ∧ o.isCells = false) (hn : b ≤ n) : FI w V' b t :=
  have k := fun r e => (hr r e).2
  ⟨cell_kept h.tc hg k, cell_kept h.r0 hg k, cell_kept h.r1 hg k, cell_kept h.r2 hg k, cell_kept h.r3 hg k, cell_kept h.r4 hg k, cell_kept h.r5 hg k, cell_kept h.q hg k,
    fun i => (World.frozen?_of_block (a := ⟨b + 1, i, none⟩) (show V'.heap[b + 1]? = V.heap[b + 1]? from cell_kept_block h.r0 hg k)).trans (h.f1 i),
    fun i => (World.frozen?_of_block (a := ⟨b + 1 + 1, i, none⟩) (show V'.heap[b + 1 + 1]? = V.heap[b + 1 + 1]? from cell_kept_block h.q hg k)).trans (h.f2 i),
    below_grown h.be (by have : b < V.heap.size := cell_lt h.tc; omega) hg (fun r e => (hr r e).1) hn⟩
/-- What it has there at its end. -/
structure FX (w V : World) (b : Nat) (T M v l m : Int) (s : ByteArray) (z : Bool) : Prop where
  r0 : V.cell? ⟨b + 1, 0, none⟩ = some (.int .u32 T)
  r1 : V.cell? ⟨b + 1, 1, none⟩ = some (.int .u32 M)
  r2 : V.cell? ⟨b + 1, 2, none⟩ = some (.int .i64 v)
  r3 : V.cell? ⟨b + 1, 3, none⟩ = some (.string s)
  r4 : V.cell? ⟨b + 1, 4, none⟩ = some (.int .i64 l)
  r5 : V.cell? ⟨b + 1, 5, none⟩ = some (.int .i64 m)
  q : V.cell? ⟨b + 1 + 1, 0, none⟩ = some (.bool z)
  be : Below b w V
theorem FX.grown {w V V' : World} {b n : Nat} {T M v l m : Int} {s : ByteArray} {z : Bool} {row : Option Nat} (h : FX w V b T M v l m s z) (hg : V.grownBy V' row) (hr : ∀ r, row = some r → n ≤ r ∧ ∃ o : Obj, V.heap[r]? = some o ∧ o.isCells = false) (hn : b ≤ n) : FX w V' b T M v l m s z :=
  have k := fun r e => (hr r e).2
  ⟨cell_kept h.r0 hg k, cell_kept h.r1 hg k, cell_kept h.r2 hg k, cell_kept h.r3 hg k, cell_kept h.r4 hg k, cell_kept h.r5 hg k, cell_kept h.q hg k, below_grown h.be (by have : b + 1 < V.heap.size := cell_lt h.r0; omega) hg (fun r e => (hr r e).1) hn⟩
theorem FI.sets {w V : World} {b t : Nat} (h : FI w V b t) (T M v l m : Int) (s : ByteArray) (z : Bool) :
    FX w (((((((V.setCell ⟨b + 1, 0, none⟩ (.int .u32 T)).setCell ⟨b + 1, 1, none⟩ (.int .u32 M)).setCell ⟨b + 1, 2, none⟩ (.int .i64 v)).setCell ⟨b + 1, 3, none⟩ (.string s)).setCell ⟨b + 1, 4, none⟩ (.int .i64 l)).setCell ⟨b + 1, 5, none⟩ (.int .i64 m)).setCell ⟨b + 1 + 1, 0, none⟩ (.bool z)) b T M v l m s z := by
  have hE : E6 V (b + 1) := ⟨h.r0, h.r1, h.r2, h.r3, h.r4, h.r5, h.f1⟩
  have hU := hE.sets (.int .u32 T) (.int .u32 M) (.int .i64 v) (.string s) (.int .i64 l) (.int .i64 m)
  simp only at hU
  obtain ⟨u0, u1, u2, u3, u4, u5⟩ := hU
  have off : ∀ (W : World) (i : Nat) (x u : Value), W.cell? ⟨b + 1, i, none⟩ = some u → (W.setCell ⟨b + 1 + 1, 0, none⟩ x).cell? ⟨b + 1, i, none⟩ = some u := fun W i x u hu => by
    rw [← hu]
    apply World.cell?_setCell_other
    simp
  refine ⟨off _ _ _ _ u0, off _ _ _ _ u1, off _ _ _ _ u2, off _ _ _ _ u3, off _ _ _ _ u4, off _ _ _ _ u5, ?_, ?_⟩
  · refine cell_set_eq (u := .bool false) ?_
    have on : ∀ (W : World) (i : Nat) (x : Value), W.cell? ⟨b + 1 + 1, 0, none⟩ = some (.bool false) → (W.setCell ⟨b + 1, i, none⟩ x).cell? ⟨b + 1 + 1, 0, none⟩ = some (.bool false) := fun W i x hu => by
      rw [← hu]
      apply World.cell?_setCell_other
      simp
    exact on _ _ _ (on _ _ _ (on _ _ _ (on _ _ _ (on _ _ _ (on _ _ _ h.q)))))
  · exact ((((((h.be.setCell (p := ⟨b + 1, 0, none⟩) (Nat.le_succ _) _).setCell (p := ⟨b + 1, 1, none⟩) (Nat.le_succ _) _).setCell (p := ⟨b + 1, 2, none⟩) (Nat.le_succ _) _).setCell (p := ⟨b + 1, 3, none⟩) (Nat.le_succ _) _).setCell (p := ⟨b + 1, 4, none⟩) (Nat.le_succ _) _).setCell (p := ⟨b + 1, 5, none⟩) (Nat.le_succ _) _).setCell (p := ⟨b + 1 + 1, 0, none⟩) (by show b ≤ b + 1 + 1; omega) _
theorem Stay.set {s : Nat} {W : World} {p : Addr} (x : Value) (h : p.block < s) : Stay s W (W.setCell p x) := ⟨by simp, fun k hk _ => Below.heap_setCell W p x k (by omega)⟩

/-- What was found, as values. -/
def eT : Option Row → Int
  | none => 0
  | some r => (r.t : Int)
def eM : Option Row → Int
  | none => 0
  | some r => ((maskN r.t : Nat) : Int)
def eV : Option Row → Int
  | none => 0
  | some r => r.v
def eL : Option Row → Int
  | none => 0
  | some r => r.l
def eN : Option Row → Int
  | none => 0
  | some r => r.m
def eS : Option Row → ByteArray
  | none => ⟨#[]⟩
  | some r => r.s
theorem hit_and {t : Nat} {r : Row} (ht : t < 4294967296) : (bits .and .u32 (t : Int) ((maskN r.t : Nat) : Int) == (r.t : Int)) = hit t r := by
  have hm : maskN r.t < 4294967296 := by unfold maskN; split <;> omega
  rw [u32_and_nat t _ ht hm]
  unfold hit
  by_cases h : t &&& maskN r.t = r.t
  · rw [h]; simp
  · rw [show decide (t &&& maskN r.t = r.t) = false by simp [h]]
    exact beq_eq_false_iff_ne.2 (by omega)

set_option maxRecDepth 100000 in
set_option maxHeartbeats 4000000 in
theorem sets_heap {V : World} {b D : Nat} (x0 x1 x2 x3 x4 x5 x6 : Value) (h1 : D ≠ b + 1) (h2 : D ≠ b + 1 + 1) :
    (((((((V.setCell ⟨b + 1, 0, none⟩ x0).setCell ⟨b + 1, 1, none⟩ x1).setCell ⟨b + 1, 2, none⟩ x2).setCell ⟨b + 1, 3, none⟩ x3).setCell ⟨b + 1, 4, none⟩ x4).setCell ⟨b + 1, 5, none⟩ x5).setCell ⟨b + 1 + 1, 0, none⟩ x6).heap[D]? = V.heap[D]? := by
  rw [Below.heap_setCell _ _ _ _ h2, Below.heap_setCell _ _ _ _ h1, Below.heap_setCell _ _ _ _ h1, Below.heap_setCell _ _ _ _ h1, Below.heap_setCell _ _ _ _ h1, Below.heap_setCell _ _ _ _ h1, Below.heap_setCell _ _ _ _ h1]
theorem FX.res {w V : World} {b : Nat} {T M v l m : Int} {s : ByteArray} {z : Bool} (h : FX w V b T M v l m s z) {tm : Array Value} (h2 : tm[2]? = some (.pointer (some ⟨b + 1, 0, none⟩))) (h3 : tm[3]? = some (.pointer (some ⟨b + 1 + 1, 0, none⟩))) :
    (results Tryz.f29 tm).run Tryz.prog V = .ok (.tuple #[.agg #[.int .u32 T, .int .u32 M, .int .i64 v, .string s, .int .i64 l, .int .i64 m], .bool z]) V := by
  obtain ⟨u0, u1, u2, u3, u4, u5, uq, -⟩ := h
  simp only [results, Tryz.results29]
  simp [go_sem, h2, h3, u0, u1, u2, u3, u4, u5, uq]
theorem alloc2 (w : World) (a b : Obj) : ((w.alloc a).alloc b).heap[w.heap.size + 1]? = some b := by
  have := World.alloc_heap_new (w.alloc a) b
  rwa [World.size_alloc] at this
theorem cell_blk {W : World} {g i : Nat} {c : Array Value} {t : TypeId} {u : Value} (h : W.heap[g]? = some (.cells c t (0, 0))) (hu : c[i]? = some u) : W.cell? ⟨g, i, none⟩ = some u := by
  simp [World.cell?, h, hu]
theorem frozen_blk {W : World} {g i : Nat} {c : Array Value} {t : TypeId} (h : W.heap[g]? = some (.cells c t (0, 0))) : W.frozen? ⟨g, i, none⟩ = false := by
  simp [World.frozen?, h]
theorem part_field (T : Int) (k : Nat) (W : World) : (Instr.field 84 (.agg #[.int .u32 T, .func (.func (93 + k)) #[] #[]]) 1).run Tryz.prog W = .ok (.func (.func (93 + k)) #[] #[]) W := by kernel_rfl

set_option maxRecDepth 100000 in
set_option maxHeartbeats 4000000 in
theorem find_any (w : World) (t : Nat) (ht : t < 4294967296) : Calls Tryz.prog 29 #[.int .u32 (t : Int)] w fun e w' =>
    e = .returned (.tuple #[.agg #[.int .u32 (eT (docF t (upTo 10))), .int .u32 (eM (docF t (upTo 10))), .int .i64 (eV (docF t (upTo 10))), .string (eS (docF t (upTo 10))), .int .i64 (eL (docF t (upTo 10))), .int .i64 (eN (docF t (upTo 10)))], .bool (docF t (upTo 10)).isSome]) ∧ Below w.heap.size w w' := by
  obtain ⟨O, hO⟩ : ∃ O, docF t (upTo 10) = O := ⟨_, rfl⟩
  rw [hO]
  have HO : Hid (docF t (upTo 10) = O) := hO
  have HT : Hid (t < 4294967296) := ht
  clear hO
  refine (callsIn_wide (n := 0)).1 ?_
  obtain ⟨V0, hV0⟩ : ∃ V0, ((w.alloc (.cells #[.int .u32 (t : Int)] 23)).alloc (.cells #[.int .u32 0, .int .u32 0, .int .i64 0, .string ⟨#[]⟩, .int .i64 0, .int .i64 0] 62)).alloc (.cells #[.bool false] 4) = V0 := ⟨_, rfl⟩
  have h0 : FI w V0 w.heap.size t := by
    have hbe : Below w.heap.size w V0 := by rw [← hV0]; exact (((Below.refl _ _).alloc (Nat.le_refl _) _).alloc (by simp) _).alloc (by simp; omega) _
    have b1 : Below (w.heap.size + 1) (w.alloc (.cells #[.int .u32 (t : Int)] 23)) V0 := by rw [← hV0]; exact ((Below.refl _ _).alloc (by simp) _).alloc (by simp) _
    have b2 : Below (w.heap.size + 1 + 1) ((w.alloc (.cells #[.int .u32 (t : Int)] 23)).alloc (.cells #[.int .u32 0, .int .u32 0, .int .i64 0, .string ⟨#[]⟩, .int .i64 0, .int .i64 0] 62)) V0 := by rw [← hV0]; exact (Below.refl _ _).alloc (by simp) _
    have h2 : V0.heap[w.heap.size + 1]? = some (.cells #[.int .u32 0, .int .u32 0, .int .i64 0, .string ⟨#[]⟩, .int .i64 0, .int .i64 0] 62 (0, 0)) := (b2.block _ (Nat.lt_succ_self _)).trans (alloc2 _ _ _)
    have h3 : V0.heap[w.heap.size + 1 + 1]? = some (.cells #[.bool false] 4 (0, 0)) := by rw [← hV0]; exact alloc3 _ _ _ _
    exact ⟨(b1.cell (p := ⟨w.heap.size, 0, none⟩) (Nat.lt_succ_self _)).trans (by simp), cell_blk h2 rfl, cell_blk h2 rfl, cell_blk h2 rfl, cell_blk h2 rfl, cell_blk h2 rfl, cell_blk h2 rfl, cell_blk h3 rfl, fun i => frozen_blk h2, fun i => frozen_blk h3, hbe⟩
  have HI0 : Hid (FI w V0 w.heap.size t) := h0
  have tc := h0.tc
  clear h0
  have c35 := fun W => partOf_any W t ht
  refine callsIn_of_wp_marks Tryz.func29 rfl trivial ?_ rfl
  simp only [Tryz.ntmps29, List.size_toArray, List.length_cons, List.length_nil, Nat.reduceAdd, Nat.reduceSub, Array.replicate_succ, Array.replicate_zero, List.push_toArray, List.append_toArray, List.nil_append, List.cons_append]
  gi_wp2_with (refine ⟨trivial, ?_⟩; (try refine ⟨rfl, ?_⟩); gi_at_call 50; refine (callsIn_wide.2 (c35 _)).mono ?_; rintro e W1 ⟨k, T, rfl, HK, hb1⟩; have hF := fun W => part_field T k W)
  clear hV0
  have HI1 : Hid (FI w W1 w.heap.size t) := HI0.out.on hb1
  obtain ⟨s, hs⟩ : ∃ s, s = W1.heap.size := ⟨_, rfl⟩
  refine loop_tells (gf := 93 + k) (lb := #[]) rfl (part_enters k HK.out.1) (part_tells k HK.out.1 0 W1 ?hpos) (fun _ => rfl)
    (fun pre V => FI w V w.heap.size t ∧ ∀ x ∈ pre, hit t x = false) 
    (fun c pre V => c = .ret ∧ ∃ p r, pre = p ++ [r] ∧ (∀ x ∈ p, hit t x = false) ∧ hit t r = true ∧ FX w V w.heap.size (r.t : Int) ((maskN r.t : Nat) : Int) r.v r.l r.m r.s true)
    ?oI ?oX ⟨HI1.out, fun x hx => by simp at hx⟩
    (fun x a' V => ∃ Bx, V.cell? ⟨Bx, 0, none⟩ = some (.int .u32 (x.t : Int)) ∧ V.cell? ⟨Bx, 1, none⟩ = some (.int .i64 x.v) ∧ V.cell? ⟨Bx, 2, none⟩ = some (.int .i64 x.l) ∧ V.cell? ⟨Bx, 3, none⟩ = some (.int .i64 x.m) ∧ V.cell? ⟨Bx, 4, none⟩ = some (.string x.s) ∧
      a' = { tmps := #[.int .u32 (t : Int), .pointer (some ⟨w.heap.size, 0, none⟩), .pointer (some ⟨w.heap.size + 1, 0, none⟩), .pointer (some ⟨w.heap.size + 1 + 1, 0, none⟩), .pointer (some ⟨Bx, 0, none⟩), .int .u32 (t : Int), .agg #[.int .u32 T, .func (.func (93 + k)) #[] #[]], .func (.func (93 + k)) #[] #[], x.val, undef, undef, undef, undef, undef, undef, undef, undef, undef, undef], defers := [] })
    (fun x a' _ A A' row hs hg hr => by
      obtain ⟨Bx, h0, h1, h2, h3, h4, h5⟩ := hs
      exact ⟨Bx, cell_kept h0 hg (fun r e => (hr r e).2), cell_kept h1 hg (fun r e => (hr r e).2), cell_kept h2 hg (fun r e => (hr r e).2), cell_kept h3 hg (fun r e => (hr r e).2), cell_kept h4 hg (fun r e => (hr r e).2), h5⟩)
    ?assign ?body ?done ?stop
  case hpos => exact Nat.lt_of_le_of_lt (Nat.zero_le _) (cell_lt HI1.out.tc)
  case oI => exact fun pre A A' row hs hg hr => ⟨hs.1.grown hg hr (by have : w.heap.size < W1.heap.size := cell_lt HI1.out.tc; omega), hs.2⟩
  case oX =>
    intro c pre A A' row hs hg hr
    obtain ⟨h1, p, r, h2, h3, h4, h5⟩ := hs
    exact ⟨h1, p, r, h2, h3, h4, h5.grown hg hr (by have : w.heap.size < W1.heap.size := cell_lt HI1.out.tc; omega)⟩
  case assign =>
    rintro l' pre x V K ⟨hj, hst⟩ hK
    unfold Row.val
    gi_wp2
    refine hK _ _ (Stay.of_below ((Below.refl _ _).alloc (Nat.le_refl _) _)) ⟨by simp, fun i o hi _ _ => (Below.heap_alloc V _ i (Array.getElem?_eq_some_iff.1 hi).1).trans hi⟩ ⟨hj.on ((Below.refl _ _).alloc (Nat.le_refl _) _), hst⟩ ⟨V.heap.size, by simp, by simp, by simp, by simp, by simp, rfl⟩
  case body =>
    rintro l' pre x a' V ⟨hj, hst⟩ ⟨Bx, r0, r1, r2, r3, r4, rfl⟩ hlen
    have hbs : w.heap.size + 1 + 1 < W1.heap.size := cell_lt HI1.out.q
    have c36 := fun W => mask_any W x.t x.v x.l x.m x.s
    have c37 := fun W => rowEntry_any W x.t x.v x.l x.m x.s
    have hm : Tryz.prog.follows .mixedOrders = true := by kernel_rfl
    have HH : Hid ((bits .and .u32 (t : Int) ((maskN x.t : Nat) : Int) == (x.t : Int)) = hit t x) := hit_and HT.out
    obtain ⟨hv, hhv⟩ : ∃ hv, hit t x = hv := ⟨_, rfl⟩
    have hh2 : (bits .and .u32 (t : Int) ((maskN x.t : Nat) : Int) == (x.t : Int)) = hv := HH.out.trans hhv
    obtain ⟨M, hM⟩ : ∃ M, maskN x.t = M := ⟨_, rfl⟩
    have HM : Hid (maskN x.t = M) := hM
    rw [hM] at c36 c37 hh2
    clear hM
    have HHV : Hid (hit t x = hv) := hhv
    clear hhv HH
    have HJ : Hid (FI w V w.heap.size t) := hj
    have tcV := hj.tc
    clear hj
    unfold Row.val
    gi_wp2
    gi_region_with_o (first
      | (refine ⟨trivial, ?_⟩; (try refine ⟨rfl, ?_⟩); gi_at_call 51; refine (CallsIn.inRound l' (callsIn_wide.2 (c36 _))).mono ?_; rintro e W9 ⟨rfl, hb9⟩
         have hb9' : Below V.heap.size V W9 := ((Below.refl _ V).drew).trans hb9
         have y0 := (hb9'.cell (p := ⟨Bx, 0, none⟩) (cell_lt r0)).trans r0
         have y1 := (hb9'.cell (p := ⟨w.heap.size, 0, none⟩) (cell_lt tcV)).trans tcV)
      | fail)
    all_goals
      have HJ9 : Hid (FI w W9 w.heap.size t) := HJ.out.on hb9'
      have HB9 : Hid (Below V.heap.size V W9) := hb9'
      have z1 := (hb9'.cell (p := ⟨Bx, 1, none⟩) (cell_lt r1)).trans r1
      have z2 := (hb9'.cell (p := ⟨Bx, 2, none⟩) (cell_lt r2)).trans r2
      have z3 := (hb9'.cell (p := ⟨Bx, 3, none⟩) (cell_lt r3)).trans r3
      have z4 := (hb9'.cell (p := ⟨Bx, 4, none⟩) (cell_lt r4)).trans r4
      clear hb9 hb9' c36 r0 r1 r2 r3 r4 tcV hh2 HJ
      cases hv with
      | false =>
        gi_wp2
        have kb := kept_below W1.heap.size 0 HB9.out
        exact ⟨kb.1, kb.2, HJ9.out, fun y hy => by rcases List.mem_append.1 hy with h | h; exact hst y h; rw [List.mem_singleton.1 h]; exact HHV.out⟩
      | true =>
        gi_wp2_with (refine ⟨trivial, ?_⟩; (try refine ⟨rfl, ?_⟩); gi_at_call 52; refine (CallsIn.inRound l' (callsIn_wide.2 (c37 _))).mono ?_; rintro e W8 ⟨rfl, hb8⟩; have HJ8 : Hid (FI w W8 w.heap.size t) := HJ9.out.on hb8; have HB8 : Hid (Below V.heap.size V W8) := HB9.out.trans (hb8.mono HB9.out.size); obtain ⟨u0, u1, u2, u3, u4, u5, uq, uf1, uf2⟩ := (show _ ∧ _ ∧ _ ∧ _ ∧ _ ∧ _ ∧ _ ∧ (∀ i, W8.frozen? ⟨w.heap.size + 1, i, none⟩ = false) ∧ (∀ i, W8.frozen? ⟨w.heap.size + 1 + 1, i, none⟩ = false) from ⟨HJ8.out.r0, HJ8.out.r1, HJ8.out.r2, HJ8.out.r3, HJ8.out.r4, HJ8.out.r5, HJ8.out.q, HJ8.out.f1, HJ8.out.f2⟩))
        have sb := fun (W : World) (i : Nat) (v : Value) => Stay.set (s := W1.heap.size) (W := W) (p := ⟨w.heap.size + 1, i, none⟩) v (show w.heap.size + 1 < _ by omega)
        refine ⟨(((((((Stay.of_below HB8.out).trans (sb _ _ _)).trans (sb _ _ _)).trans (sb _ _ _)).trans (sb _ _ _)).trans (sb _ _ _)).trans (sb _ _ _)).trans (Stay.set (p := ⟨w.heap.size + 1 + 1, 0, none⟩) _ (show w.heap.size + 1 + 1 < _ by omega)), rfl, pre, x, rfl, hst, HHV.out, ?_⟩
        rw [HM.out]
        exact HJ8.out.sets _ _ _ _ _ _ _
  case done =>
    rintro D V hD ⟨hj, hst⟩ hK
    have HF : Hid (O = none) := by
      have := HO.out
      rw [find_both HT.out HK.out] at this
      show O = none
      rw [← this, List.find?_eq_none]
      intro x hx
      rw [hst x hx]
      decide
    have HFI : Hid (FI w V w.heap.size t) := hj
    obtain ⟨tc, r0, r1, r2, r3, r4, r5, q, f1, f2, be⟩ := hj
    have hbs : w.heap.size + 1 + 1 < W1.heap.size := cell_lt HI1.out.q
    gi_wp2
    refine leaves_keep (n₀ := W1.heap.size) (Z := fun V => FX w V w.heap.size 0 0 0 0 0 ⟨#[]⟩ false) (fun V D o hz hD ho hc => hz.grown (grownBy_putObj' V D _) (fun r e => by cases e; exact ⟨hD, o, ho, hc⟩) (by omega)) _ _ ⟨D, rfl, hD, (sets_heap _ _ _ _ _ _ _ (by omega) (by omega)).trans hK, by simp, trivial⟩ (HFI.out.sets 0 0 0 0 0 ⟨#[]⟩ false) ?_
    intro W' hz
    refine ⟨_, hz.res rfl rfl, ?_, hz.be⟩
    rw [HF.out]
    rfl
  case stop =>
    rintro D c pre V hD hpre ⟨rfl, p, r, rfl, h3, h4, h5⟩ hK
    have HF : Hid (O = some r) := by
      have := HO.out
      rw [find_both HT.out HK.out] at this
      show O = some r
      obtain ⟨rest, hrest⟩ := hpre
      rw [← this, ← hrest, List.append_assoc, List.find?_append, List.find?_eq_none.2 (fun x hx => by rw [h3 x hx]; decide), List.singleton_append, List.find?_cons, h4]
      rfl
    gi_wp2
    refine leaves_keep (n₀ := W1.heap.size) (Z := fun V => FX w V w.heap.size (r.t : Int) ((maskN r.t : Nat) : Int) r.v r.l r.m r.s true) (fun V D o hz hD ho hc => hz.grown (grownBy_putObj' V D _) (fun r e => by cases e; exact ⟨hD, o, ho, hc⟩) (by have : w.heap.size + 1 + 1 < W1.heap.size := cell_lt HI1.out.q; omega)) _ _ ⟨D, rfl, hD, hK, by simp, trivial⟩ h5 ?_
    intro W' hz
    refine ⟨_, hz.res rfl rfl, ?_, hz.be⟩
    rw [HF.out]
    rfl
end Go.Proofs.YteglammdigmmfaaGreatDoor.Tb
