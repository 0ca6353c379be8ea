import Derived.Test.YtnamkcfmbefkfaaDoorNk
import Derived.Test.YtnamkcfmbefkfaaDoorNg
import Derived.Deep.AppendLies
import Derived.Deep.CutRange
/-
  DERIVED. What the document answers a request with.
-/
namespace Go.Proofs.YtnamkcfmbefkfaaDoor
open Go Go.Proofs Go.RowKit

/-- A row's cells, from one place on, written over. -/
def putAll (Q : Array Value) (o : Nat) : List Value → Array Value
  | [] => Q
  | v :: vs => putAll (Q.setIfInBounds o v) (o + 1) vs
theorem setCells_put {g : Nat} {t : TypeId} : ∀ (vs : List Value) (o : Nat) (W : World) (Q : Array Value), W.heap[g]? = some (.cells Q t (0, 0)) → (W.setCells g o vs).heap[g]? = some (.cells (putAll Q o vs) t (0, 0)) ∧ (∀ j, j ≠ g → (W.setCells g o vs).heap[j]? = W.heap[j]?) ∧ (∀ B w0, B ≤ g → Below B w0 W → Below B w0 (W.setCells g o vs)) ∧ (W.setCells g o vs).heap.size = W.heap.size
  | [], _, W, Q, h => ⟨h, fun _ _ => rfl, fun _ _ _ hb => hb, rfl⟩
  | v :: vs, o, W, Q, h => by
    have he := setCell_eq_setRow W g o Q t (0, 0) v h
    have h1 : (W.setCell ⟨g, o, none⟩ v).heap[g]? = some (.cells (Q.setIfInBounds o v) t (0, 0)) := by rw [he]; exact setRow_heap W g Q _ t _ h
    obtain ⟨a1, a2, a3, a4⟩ := setCells_put vs (o + 1) _ _ h1
    exact ⟨a1, fun j hj => (a2 j hj).trans (Below.heap_setCell _ _ _ _ hj), fun B w0 hB hb => a3 B w0 hB (hb.setCell (p := ⟨g, o, none⟩) hB v), by rw [World.setCells, a4]; simp⟩
def acB (a b : ByteArray) : Array Value := #[.int .u16 1, .string a, .string b, .string ⟨#[49, 46, 50, 46, 56, 52, 48, 46, 49, 48, 48, 48, 56, 46, 51, 46, 49, 46, 49, 46, 49]⟩, .slice none 0 0, .bool false, .int .u32 0, .string ⟨#[]⟩, .string ⟨#[]⟩, .bool false, .int .u16 0, .int .u16 0, .slice none 0 0, .slice none 0 0]
theorem built_b (a b : ByteArray) : Tryd.prog.built 30 [(0, .int .u16 1), (1, .string a), (2, .string b), (3, .string ⟨#[49, 46, 50, 46, 56, 52, 48, 46, 49, 48, 48, 48, 56, 46, 51, 46, 49, 46, 49, 46, 49]⟩)] = some (acB a b) := by kernel_rfl
theorem put_b (a b : ByteArray) : putAll (putAll (Pd 2 zc) 1 (acB a b).toList) 6 acU.toList = Pd 2 (acC a b (.slice none 0 0)) := by kernel_rfl
theorem put_bs (a b : ByteArray) : (putAll (Pd 2 zc) 1 (acB a b).toList).size = 19 := by kernel_rfl
theorem info_b (a b : ByteArray) : (Tryd.prog.info? 30).map (·.size) = some (acB a b).size := by unfold acB; kernel_rfl
theorem info_u : (Tryd.prog.info? 28).map (·.size) = some acU.size := by unfold acU; kernel_rfl
theorem one_b (a b : ByteArray) : (acB a b).all (·.oneCell') = true := by simp only [acB, List.all_toArray, List.all_cons, List.all_nil]; rfl
theorem one_u : acU.all (·.oneCell') = true := by simp only [acU, List.all_toArray, List.all_cons, List.all_nil]; rfl
theorem ans_form2 (x : Int) (y : Value) (s : ByteArray) (T : List ByteArray) : (∃ u, ansR s T = 0 ∧ ansT s T = [u] ∧ agrEl ⟨[.int .u8 x, y, .string s], .tx T⟩ = [(x, s, syN u)]) ∨ (ansR s T ≠ 0 ∧ agrEl ⟨[.int .u8 x, y, .string s], .tx T⟩ = []) := by
  show (∃ u, ansR s T = 0 ∧ ansT s T = [u] ∧ (ansO s T).toList.map (fun u => (x, s, syN u)) = [(x, s, syN u)]) ∨ (ansR s T ≠ 0 ∧ (ansO s T).toList.map (fun u => (x, s, syN u)) = [])
  unfold ansT ansR ansO
  by_cases h : svB s = true
  · rw [if_pos h, if_pos h]
    cases hf : firstS T with
    | none => exact .inr ⟨by simp, rfl⟩
    | some u => exact .inl ⟨u, by simp, rfl, rfl⟩
  · rw [if_neg h, if_neg h]
    exact .inr ⟨by decide, rfl⟩
theorem fill_con (x : Int) (s : ByteArray) (n : Int) : Instr.fill (fun i => some (i * 3, 3)) (Array.map (fun x => (Value.agg #[.int .u8 0, .string ⟨#[]⟩, .int .i64 0]).cells[x % (Value.agg #[.int .u8 0, .string ⟨#[]⟩, .int .i64 0]).cells.size]!) (Array.range (1 * 3))) [(0, .agg (ctxC x s n))] = some (ctxC x s n) := by kernel_rfl
theorem op_bs38 {o : Oper} {a : Act} {w : World} {K : Act → World → Prop} {Q : Exit → Act → World → Prop} (x : Operand) (cx : Int) (cs : ByteArray) (cn : Int) (ho : o.op = .buildSlice 38 1 #[(0, x)]) (hx : a.eval x = .agg (ctxC cx cs cn))
    (h : K (a.put o.dst (.slice (some ⟨w.heap.size, 0, none⟩) 1 1)) (w.alloc (.cells (ctxC cx cs cn) 44))) : o.wp Tryd.prog a w K Q := by
  obtain ⟨i, hi, hz, hs, _⟩ := info_parts infoCon
  refine wp_buildSlice 38 44 1 #[(0, x)] ho (ctxC cx cs cn) i _ Tryd.underlying38 hi hz (by rw [hs]; decide) (by rw [hs]; decide) ?_ h
  rw [hs]
  simp only [List.map_toArray, List.map_cons, List.map_nil, hx]
  exact fill_con cx cs cn
/-- What stands while contexts are answered. -/
structure RgI (w : World) (G : Nat) (AQ : Array Value) (r : RqD) (l : Value) (W : World) : Prop where
  b : Below w.heap.size w W
  g6 : W.heap[w.heap.size + 1 + 1]? = some (.cells Z33 33)
  g9 : W.heap[w.heap.size + 1 + 1 + 1]? = some (.cells Z33 33)
  a : W.heap[G + 1]? = some (.cells AQ 30)
  q : W.heap[G + 1 + 1]? = some (.cells (Pd 2 (acC r.called r.calling l)) 33)
  lo : w.heap.size + 4 ≤ G
theorem RgI.size {w W : World} {G : Nat} {AQ : Array Value} {r : RqD} {l : Value} (h : RgI w G AQ r l W) : G + 3 ≤ W.heap.size := (Array.getElem?_eq_some_iff.1 h.q).1
theorem RgI.on {w W W' : World} {G : Nat} {AQ : Array Value} {r : RqD} {l : Value} (h : RgI w G AQ r l W) (hb : Below (G + 3) W W') : RgI w G AQ r l W' := by
  have := h.lo
  exact ⟨h.b.trans (hb.mono (by omega)), (hb.block _ (by omega)).trans h.g6, (hb.block _ (by omega)).trans h.g9, (hb.block _ (by omega)).trans h.a, (hb.block _ (by omega)).trans h.q, h.lo⟩
theorem RgI.cellq {w W : World} {G : Nat} {AQ : Array Value} {r : RqD} {l : Value} (h : RgI w G AQ r l W) : W.cell? ⟨G + 1 + 1, 5, none⟩ = some l := by rw [cell_of_row W _ _ _ _ _ h.q]; rfl
theorem RgI.froz {w W : World} {G : Nat} {AQ : Array Value} {r : RqD} {l : Value} (h : RgI w G AQ r l W) (i : Nat) : W.frozen? ⟨G + 1 + 1, i, none⟩ = false := by simp [World.frozen?, h.q]
theorem RgI.set {w W : World} {G : Nat} {AQ : Array Value} {r : RqD} {l : Value} (h : RgI w G AQ r l W) (l' : Value) : RgI w G AQ r l' (W.setCell ⟨G + 1 + 1, 5, none⟩ l') := by
  have hlo := h.lo
  refine ⟨h.b.setCell (p := ⟨G + 1 + 1, 5, none⟩) (by show w.heap.size ≤ G + 1 + 1; omega) _, (Below.heap_setCell _ _ _ _ (show w.heap.size + 1 + 1 ≠ G + 1 + 1 by omega)).trans h.g6, (Below.heap_setCell _ _ _ _ (show w.heap.size + 1 + 1 + 1 ≠ G + 1 + 1 by omega)).trans h.g9, (Below.heap_setCell _ _ _ _ (show G + 1 ≠ G + 1 + 1 by omega)).trans h.a, ?_, h.lo⟩
  have h1 : (Pd 2 (acC r.called r.calling l)).setIfInBounds 5 l' = Pd 2 (acC r.called r.calling l') := by rw [pd_up4, ac_up]
  rw [setCell_eq_setRow W _ _ _ _ _ l' h.q, h1]
  exact setRow_heap W _ _ _ _ _ h.q
/-- What the answer stands at while syntaxes are looked at from behind. -/
def InK (w1 : World) (H : Nat) (x0 : Int) (o : Option ByteArray) (y : Int) (wx : World) : Prop :=
  Below (H + 1) w1 wx ∧ H + 2 ≤ wx.heap.size ∧ ∃ sv, wx.heap[H + 1]? = some (.cells (pcC x0 y ⟨#[]⟩ sv) 51) ∧ wx.ownsRow (H + 2) 9 1 sv o.toList.length (txs o.toList)
set_option maxRecDepth 100000 in
set_option maxHeartbeats 8000000 in
theorem rnegotiate_any (w : World) (k : Int) (c : Fin 18 → Value) (D : PdD) (cv : Value) (a1 a2 : Value) (r : RqD) (s : SvD) (busy : Int) (hR : RqV k c r) (hX : RX w c D) (hT : TR w cv s.T) (hsm : RqSm r s) (hm : 0 ≤ r.m ∧ r.m ≤ 4294967295) :
    Calls Tryd.prog 6 #[.agg (Pd k c), .agg #[.string s.title, cv, .int .i64 s.lines, a1, a2], .int .i64 busy] w (NegP w r s busy D.cx) := by
  obtain ⟨fs, hu⟩ := hu33
  obtain ⟨fsa, hua⟩ : ∃ fs, Tryd.prog.underlying 30 = some (.struct fs) := ⟨_, Tryd.underlying30⟩
  obtain ⟨CF, hCF⟩ : ∃ CF, #[.string s.title, cv, .int .i64 s.lines, a1, a2] = CF := ⟨_, rfl⟩
  have scf : (Tryd.prog.info? 36).map (·.size) = some CF.size := by rw [← hCF]; kernel_rfl
  obtain ⟨fsc, huc⟩ : ∃ fs, Tryd.prog.underlying 36 = some (.struct fs) := ⟨_, Tryd.underlying36⟩
  obtain ⟨W1, hW1⟩ : ∃ W1, (((w.alloc (.cells (Pd k c) 33)).alloc (.cells CF 36)).alloc (.cells Z33 33)).alloc (.cells Z33 33) = W1 := ⟨_, rfl⟩
  have hb1 : Below w.heap.size w W1 := hW1 ▸ ((((Below.refl _ _).alloc (Nat.le_refl _) _).alloc (by simp) _).alloc (by simp; omega) _).alloc (by simp; omega) _
  have hs1 : W1.heap.size = w.heap.size + 4 := by rw [← hW1]; simp
  have g0 : W1.heap[w.heap.size]? = some (.cells (Pd k c) 33) := by
    rw [← hW1]
    exact (Below.heap_alloc _ _ _ (by simp; omega)).trans ((Below.heap_alloc _ _ _ (by simp; omega)).trans ((Below.heap_alloc _ _ _ (by simp)).trans (alloc_new w _)))
  have g1 : W1.heap[w.heap.size + 1]? = some (.cells CF 36) := by
    rw [← hW1]
    refine (Below.heap_alloc _ _ _ (by simp)).trans ((Below.heap_alloc _ _ _ (by simp)).trans ?_)
    have := alloc_new (w.alloc (.cells (Pd k c) 33)) (.cells CF 36)
    simpa using this
  have g2 : W1.heap[w.heap.size + 1 + 1]? = some (.cells Z33 33) := by
    rw [← hW1]
    refine (Below.heap_alloc _ _ _ (by simp)).trans ?_
    have := alloc_new ((w.alloc (.cells (Pd k c) 33)).alloc (.cells CF 36)) (.cells Z33 33)
    simpa using this
  have g3 : W1.heap[w.heap.size + 1 + 1 + 1]? = some (.cells Z33 33) := by
    rw [← hW1]
    have := alloc_new (((w.alloc (.cells (Pd k c) 33)).alloc (.cells CF 36)).alloc (.cells Z33 33)) (.cells Z33 33)
    simpa using this
  have hrj := refuses_any W1 k c cv a1 a2 r s busy hR (hT.on hb1) hsm
  rw [hCF] at hrj ⊢
  have sPQ := size40' k c
  have HRV : Hid (RqV k c r ∧ (0 ≤ r.m ∧ r.m ≤ 4294967295)) := ⟨hR, hm⟩
  have HX : Hid (RX w c D) := hX
  have HG : Hid (Below w.heap.size w W1 ∧ W1.heap.size = w.heap.size + 4 ∧ W1.heap[w.heap.size]? = some (.cells (Pd k c) 33) ∧ W1.heap[w.heap.size + 1 + 1]? = some (.cells Z33 33) ∧ W1.heap[w.heap.size + 1 + 1 + 1]? = some (.cells Z33 33)) := ⟨hb1, hs1, g0, g2, g3⟩
  obtain ⟨q5, hq5⟩ : ∃ v, c 4 = v := ⟨_, rfl⟩
  have HQ : Hid (c 4 = q5 ∧ (As c)[4]? = some q5 ∧ (As c)[5]? = some (.bool r.h) ∧ (As c)[6]? = some (.int .u32 r.m) ∧ (As c)[1]? = some (.string r.called) ∧ (As c)[2]? = some (.string r.calling)) := by
    refine ⟨hq5, by rw [← hq5]; rfl, by rw [← hR.c5]; rfl, by rw [← hR.c6]; rfl, by rw [← hR.c1]; rfl, by rw [← hR.c2]; rfl⟩
  have HAP : Hid (∀ j v, (As c).toList[j]? = some v → (Pd k c)[1 + j]? = some v) := as_pd k c
  have hsa := as_info c
  have hsa' : (Tryd.prog.info? 30).map (·.size) = some (As c).size := by rw [← Array.length_toList]; exact hsa
  have hoa := as_one c hR.one
  have hza : Z30.size = (As c).size := rfl
  clear hR hX hT hsm hm hb1 hs1 g2 g3 hCF hq5
  generalize As c = AQ at *
  generalize Pd k c = PQ at *
  have hz33 : Z33.size = 19 := rfl
  obtain ⟨RQ, hRQ⟩ : ∃ RQ, Pd (rjK (rejO r s busy)) (rjF (rejO r s busy)) = RQ := ⟨_, rfl⟩
  have hR1 : RQ.all (·.oneCell') = true := by
    rw [← hRQ]
    refine pd_one _ _ ?_
    cases rejO r s busy with
    | none => exact fun i => (by decide : ∀ i, (zc i).oneCell' = true) i
    | some abc => exact rj_one _ _ _
  have hR0 : (Tryd.prog.info? 33).map (·.size) = some RQ.size := hRQ ▸ size40' _ _
  have hRL : (Tryd.prog.info? 33).map (·.size) = some RQ.toList.length := hRQ ▸ size40 _ _
  have hRz : Z33.size = RQ.size := hRQ ▸ z33 _ _
  have hRk : RQ[0]? = some (.int .i64 (rjK (rejO r s busy))) := by rw [← hRQ]; rfl
  have HRQ : Hid (Pd (rjK (rejO r s busy)) (rjF (rejO r s busy)) = RQ) := hRQ
  rw [hRQ] at hrj
  clear hRQ
  go_enter Tryd.func6, Tryd.ntmps6
  unfold Z33 at hW1
  go_wp2_with (first | (rw [hW1]) | (refine wpList_load_row rfl 33 (.tmp 3) rfl w.heap.size rfl 33 PQ (0, 0) _ g0 hu rfl sPQ ?_) | (refine wpList_load_row rfl 36 (.tmp 4) rfl (w.heap.size + 1) rfl 36 CF (0, 0) _ g1 huc rfl scf ?_) | (go_at_call 16; refine hrj.mono ?_; refine Fr.Stop.mk ?_))
  rintro xr W2 ⟨rfl, hb2⟩
  clear g0 g1 hrj
  obtain ⟨G, hG⟩ : ∃ G, W2.heap.size = G := ⟨_, rfl⟩
  obtain ⟨WA, hWA⟩ : ∃ WA, W2.alloc (.cells Z33 33) = WA := ⟨_, rfl⟩
  have n0 : WA.heap[G]? = some (.cells Z33 33) := hWA ▸ hG ▸ alloc_new W2 _
  have hsA : WA.heap.size = G + 1 := by rw [← hWA]; simp [hG]
  obtain ⟨W3, hW3⟩ : ∃ W3, WA.setRow G RQ = W3 := ⟨_, rfl⟩
  have hk3 : ∀ b, b < W1.heap.size → W3.heap[b]? = W1.heap[b]? := fun b hb => by
    have := hb2.size
    rw [← hW3, ← hWA]
    exact (setRow_other _ _ _ _ (by omega)).trans ((Below.heap_alloc _ _ _ (by omega)).trans (hb2.block b hb))
  have g0 := (hk3 w.heap.size (by have := HG.out.2.1; omega)).trans HG.out.2.2.1
  have g2 := (hk3 (w.heap.size + 1 + 1) (by have := HG.out.2.1; omega)).trans HG.out.2.2.2.1
  have g3 := (hk3 (w.heap.size + 1 + 1 + 1) (by have := HG.out.2.1; omega)).trans HG.out.2.2.2.2
  have hlo : w.heap.size + 4 ≤ G := by have := hb2.size; have := HG.out.2.1; omega
  have hbw : Below w.heap.size w W3 := hW3 ▸ hWA ▸ below_setRow ((HG.out.1.trans (hb2.mono HG.out.1.size)).alloc (by omega) _) (by omega) _
  have gR : W3.heap[G]? = some (.cells RQ 33) := hW3 ▸ setRow_heap _ _ _ _ _ _ n0
  have hs3 : W3.heap.size = G + 1 := by rw [← hW3]; unfold World.setRow; simp [hsA]
  have y0 : W3.cell? ⟨G, 0, none⟩ = some (.int .i64 (rjK (rejO r s busy))) := by rw [cell_of_row W3 _ _ _ _ _ gR]; exact hRk
  clear hb2 hk3 HG
  cases ho : rejO r s busy with
  | some abc =>
    obtain ⟨ra, rb, rc⟩ := abc
    rw [ho] at y0 HRQ
    have sz := size40' 0 zc
    have oz := pd_one 0 zc (by decide)
    have lz := z33 0 zc
    have hz0 := pd_zero0
    have HF : Hid (∀ (e : Ending) (W' : World), e = .returned (.tuple #[.agg (Pd 0 zc), .slice none 0 0, .int .i64 0, .agg RQ, .bool false]) → Below w.heap.size w W' → NegP w r s busy D.cx e W') := fun e W' he hb => by
      refine ⟨.slice none 0 0, .slice none 0 0, ?_, ?_, ?_, hb⟩
      · rw [he, ho, ← HRQ.out]; rfl
      · rw [ho]; exact OE.nil _ _ _ _ _
      · rw [ho]; exact World.ownsRow_nil _ _ _ _
    generalize Pd 0 zc = P0 at *
    have y0' : W3.cell? ⟨G, 0, none⟩ = some (.int .i64 3) := y0
    clear y0
    unfold Z33 at hWA
    go_wp2_with (first | (rw [hWA]; rw [hG]) | (refine wpList_store_row rfl 33 (.tmp 11) (.tmp 23) rfl G RQ rfl rfl 33 _ n0 hR0 hRz hR1 ?_; rw [hW3]))
    refine wp_region_held_drew (S := fun w' => w'.heap[G]? = some (.cells RQ 33)) (by kernel_rfl) gR (fun hHeld => ?_)
    have hb4 : Below w.heap.size w W3.drew := hbw.trans ((Below.refl _ _).drew.mono hbw.size)
    have r2' : W3.drew.heap[w.heap.size + 1 + 1]? = some (.cells Z33 33) := g2
    have r3' : W3.drew.heap[w.heap.size + 1 + 1 + 1]? = some (.cells Z33 33) := g3
    generalize W3.drew = w1 at hb4 r2' r3' hHeld ⊢
    refine wpAnyH_take (i := 0) (oi := ({ dst := some 27, op := Op.build 33 #[], type := 33, pos := "upper.go:466", after := #[], guard := none } : Oper)) (v := .agg P0) rfl (by kernel_rfl) (by kernel_rfl) (by kernel_rfl) (fun _ _ _ h => h) (yld_build (by rfl) 33 _ rfl P0 (by simp [Act.eval]; exact hz0)) hHeld ?_
    try simp only [Act.put, List.setIfInBounds_toArray, List.set_cons_zero, List.set_cons_succ]
    refine wpAnyH_take (i := 1) (oi := ({ dst := some 28, op := Op.load 33 (Operand.tmp 11), type := 33, pos := "upper.go:466", after := #[{ on := 4, ground := Ground.gcOnly Departure.lateStores }], guard := none } : Oper)) (v := .agg RQ) rfl (by kernel_rfl) (by kernel_rfl) (by kernel_rfl) (fun _ _ _ h => h) (yieldsIf_load_mid (by rfl) 33 (.tmp 11) rfl G 0 rfl RQ.toList _ (fun w h => range_row h) hu rfl hRL) hHeld ?_
    try simp only [Act.put, List.setIfInBounds_toArray, List.set_cons_zero, List.set_cons_succ]
    refine wpAnyH_ready (rs := [2]) (by kernel_rfl) (by simp) ?_
    refine AllReadyH.cons (o := ({ dst := none, op := Op.store 33 (Operand.tmp 6) (Operand.tmp 27), type := 0, pos := "upper.go:466", after := #[{ on := 0, ground := Ground.data }, { on := 0, ground := Ground.phase }, { on := 1, ground := Ground.textOnly Departure.lateStores }], guard := none } : Oper)) rfl (fun K hK => ?_) AllReadyH.nil
    rw [if_pos (by rfl)]
    refine wp_store_row 33 (.tmp 6) (.tmp 27) rfl (w.heap.size + 1 + 1) P0 rfl rfl 33 _ r2' sz lz oz ?_
    have k0 : (w1.setRow (w.heap.size + 1 + 1) P0).heap[G]? = some (.cells RQ 33) := (setRow_other _ _ _ _ (by omega)).trans hHeld
    have k3 : (w1.setRow (w.heap.size + 1 + 1) P0).heap[w.heap.size + 1 + 1 + 1]? = some (.cells Z33 33) := (setRow_other _ _ _ _ (by omega)).trans r3'
    have k2 := setRow_heap w1 (w.heap.size + 1 + 1) _ P0 33 _ r2'
    have hb5 : Below w.heap.size w (w1.setRow (w.heap.size + 1 + 1) P0) := below_setRow hb4 (by omega) _
    refine hK.out _ _ k0 (fun hHeld => ?_)
    clear hK K
    try simp only [Act.put]
    generalize w1.setRow (w.heap.size + 1 + 1) P0 = w2 at k3 k2 hb5 hHeld ⊢
    refine wpAnyH_take (i := 3) (oi := ({ dst := some 7, op := Op.assign (Operand.const (Value.slice none 0 0)), type := 38, pos := "upper.go:466", after := #[{ on := 2, ground := Ground.chain }, { on := 0, ground := Ground.phase }, { on := 1, ground := Ground.textOnly Departure.lateStores }, { on := 2, ground := Ground.phase }], guard := none } : Oper)) (v := .slice none 0 0) rfl (by kernel_rfl) (by kernel_rfl) (by kernel_rfl) (fun _ _ _ h => h) (Or.inl ⟨by rfl, fun w _ => by go_simp⟩) hHeld ?_
    try simp only [Act.put, List.setIfInBounds_toArray, List.set_cons_zero, List.set_cons_succ]
    refine wpAnyH_take (i := 4) (oi := ({ dst := some 8, op := Op.assign (Operand.const (Value.int IntKind.i64 0)), type := 3, pos := "upper.go:466", after := #[{ on := 3, ground := Ground.chain }, { on := 0, ground := Ground.phase }, { on := 1, ground := Ground.textOnly Departure.lateStores }, { on := 2, ground := Ground.phase }, { on := 3, ground := Ground.phase }], guard := none } : Oper)) (v := .int .i64 0) rfl (by kernel_rfl) (by kernel_rfl) (by kernel_rfl) (fun _ _ _ h => h) (Or.inl ⟨by rfl, fun w _ => by go_simp⟩) hHeld ?_
    try simp only [Act.put, List.setIfInBounds_toArray, List.set_cons_zero, List.set_cons_succ]
    refine wpAnyH_ready (rs := [5]) (by kernel_rfl) (by simp) ?_
    refine AllReadyH.cons (o := ({ dst := none, op := Op.store 33 (Operand.tmp 9) (Operand.tmp 28), type := 0, pos := "upper.go:466", after := #[{ on := 1, ground := Ground.data }, { on := 4, ground := Ground.chain }, { on := 0, ground := Ground.phase }, { on := 1, ground := Ground.phase }, { on := 2, ground := Ground.phase }, { on := 3, ground := Ground.phase }, { on := 4, ground := Ground.phase }], guard := none } : Oper)) rfl (fun K hK => ?_) AllReadyH.nil
    rw [if_pos (by rfl)]
    refine wp_store_row 33 (.tmp 9) (.tmp 28) rfl (w.heap.size + 1 + 1 + 1) RQ rfl rfl 33 _ k3 hR0 hRz hR1 ?_
    have m0 : (w2.setRow (w.heap.size + 1 + 1 + 1) RQ).heap[G]? = some (.cells RQ 33) := (setRow_other _ _ _ _ (by omega)).trans hHeld
    have m3 := setRow_heap w2 (w.heap.size + 1 + 1 + 1) _ RQ 33 _ k3
    have m2 : (w2.setRow (w.heap.size + 1 + 1 + 1) RQ).heap[w.heap.size + 1 + 1]? = some (.cells P0 33) := (setRow_other _ _ _ _ (by omega)).trans k2
    have hb6 : Below w.heap.size w (w2.setRow (w.heap.size + 1 + 1 + 1) RQ) := below_setRow hb5 (by omega) _
    refine hK.out _ _ m0 (fun hHeld => ?_)
    clear hK K
    try simp only [Act.put]
    generalize w2.setRow (w.heap.size + 1 + 1 + 1) RQ = w3 at m3 m2 hb6 hHeld ⊢
    refine wpAnyH_take (i := 6) (oi := ({ dst := some 10, op := Op.assign (Operand.const (Value.bool false)), type := 4, pos := "upper.go:466", after := #[{ on := 5, ground := Ground.chain }, { on := 0, ground := Ground.phase }, { on := 1, ground := Ground.phase }, { on := 2, ground := Ground.phase }, { on := 3, ground := Ground.phase }, { on := 4, ground := Ground.phase }, { on := 5, ground := Ground.phase }], guard := none } : Oper)) (v := .bool false) rfl (by kernel_rfl) (by kernel_rfl) (by kernel_rfl) (fun _ _ _ h => h) (Or.inl ⟨by rfl, fun w _ => by go_simp⟩) hHeld ?_
    try simp only [Act.put, List.setIfInBounds_toArray, List.set_cons_zero, List.set_cons_succ]
    refine wpAnyH_done (by kernel_rfl) ?_ _
    have ld1 := run_loadVar_row (P := Tryd.prog) _ _ _ 33 _ _ _ m2 hu rfl sz
    have ld2 := run_loadVar_row (P := Tryd.prog) _ _ _ 33 _ _ _ m3 hu rfl hR0
    go_wp2
    refine bodyPost_ret (v := .tuple #[.agg P0, .slice none 0 0, .int .i64 0, .agg RQ, .bool false]) (res_five Tryd.results6 (by kernel_rfl) ld1 (by kernel_rfl) (by kernel_rfl) (by kernel_rfl) ld2 (by kernel_rfl)) rfl (HF.out _ _ rfl hb6)
  | none =>
    rw [ho] at y0 HRQ
    have y0' : W3.cell? ⟨G, 0, none⟩ = some (.int .i64 0) := y0
    clear y0 gR hRL
    have sz := size40' 0 zc
    have oz := pd_one 0 zc (by decide)
    have hz0 := pd_zero0
    have HF : Hid (∀ (e : Ending) (W' : World) (l lv : Value), e = .returned (.tuple #[.agg (Pd 2 (acC r.called r.calling l)), lv, .int .i64 (mostN r.h r.m), .agg (Pd 0 zc), .bool true]) → OE w.heap.size W' l (D.cx.map ansEl) 4 51 ShC → W'.ownsRow w.heap.size 44 3 lv (agrs D.cx).length (agrV (agrs D.cx)) → Below w.heap.size w W' → NegP w r s busy D.cx e W') := fun e W' l lv he h1 h2 hb => by
      refine ⟨l, lv, ?_, ?_, ?_, hb⟩
      · rw [he, ho]; rfl
      · rw [ho]; exact h1
      · rw [ho]; exact h2
    clear ho
    have lz := z33 0 zc
    have s2' := size40' 2 zc
    have o2' := pd_one 2 zc (by decide)
    have l2' := z33 2 zc
    have hz2 := pd_zero 2
    have hput := put_b r.called r.calling
    have hbB := built_b r.called r.calling
    have hbU := built_u
    have iB := info_b r.called r.calling
    have iU := info_u
    have oB := one_b r.called r.calling
    have oU := one_u
    have zB : (acB r.called r.calling).size = 14 := rfl
    have zU : acU.size = 9 := rfl
    have z2 : (Pd 2 zc).size = 19 := rfl
    have HPUT : Hid (putAll (putAll (Pd 2 zc) 1 (acB r.called r.calling).toList) 6 acU.toList = Pd 2 (acC r.called r.calling (.slice none 0 0)) ∧ (putAll (Pd 2 zc) 1 (acB r.called r.calling).toList).size = 19) := ⟨hput, put_bs r.called r.calling⟩
    clear hput
    generalize Pd 0 zc = P0 at *
    generalize Pd 2 zc = P2 at *
    generalize acB r.called r.calling = B at *
    generalize acU = U at *
    obtain ⟨⟨-, ao, cap, hc4, hsh, hel⟩, hfit⟩ := HX.out.ctx
    obtain ⟨n, hnl⟩ : ∃ n, D.cx.length = n := ⟨_, rfl⟩
    have HN : Hid (D.cx.length = n ∧ (∀ p ∈ D.cx, ShC p)) := ⟨hnl, hsh⟩
    have HEl : Hid (0 < D.cx.length → ∃ b off, ao = some ⟨b, off, none⟩ ∧ ∀ k (h : k < D.cx.length), ∃ vs, (∀ j u, (D.cx[k].fl ++ vs)[j]? = some u → w.cell? ⟨b, off + k * 4 + j, none⟩ = some u) ∧ InnR w D.cx[k].inn vs) := hel
    rw [hnl] at hc4 hfit
    have hn : n ≤ 2932031007384 := by unfold Fits at hfit; omega
    obtain rfl : q5 = .slice ao n cap := HQ.out.1.symm.trans hc4
    clear hel hfit hsh hnl hc4
    obtain ⟨WB, hWB⟩ : ∃ WB, W3.alloc (.cells Z30 30) = WB := ⟨_, rfl⟩
    have nB : WB.heap[G + 1]? = some (.cells Z30 30) := hWB ▸ hs3 ▸ alloc_new W3 _
    obtain ⟨W4, hW4⟩ : ∃ W4, WB.setRow (G + 1) AQ = W4 := ⟨_, rfl⟩
    have hs4 : W4.heap.size = G + 1 + 1 := by rw [← hW4, ← hWB]; unfold World.setRow; simp [hs3]
    have hk4 : ∀ b, b < G + 1 → W4.heap[b]? = W3.heap[b]? := fun b hb => by
      rw [← hW4, ← hWB]
      exact (setRow_other _ _ _ _ (by omega)).trans (Below.heap_alloc _ _ _ (by omega))
    have a4 : W4.heap[G + 1]? = some (.cells AQ 30) := hW4 ▸ setRow_heap _ _ _ _ _ _ nB
    have hb4 : Below w.heap.size w W4 := hW4 ▸ hWB ▸ below_setRow (hbw.alloc hbw.size _) (by omega) _
    obtain ⟨WC, hWC⟩ : ∃ WC, W4.alloc (.cells Z33 33) = WC := ⟨_, rfl⟩
    have nC : WC.heap[G + 1 + 1]? = some (.cells Z33 33) := hWC ▸ hs4 ▸ alloc_new W4 _
    obtain ⟨W5, hW5⟩ : ∃ W5, WC.setRow (G + 1 + 1) P2 = W5 := ⟨_, rfl⟩
    have hk5 : ∀ b, b < G + 1 + 1 → W5.heap[b]? = W4.heap[b]? := fun b hb => by
      rw [← hW5, ← hWC]
      exact (setRow_other _ _ _ _ (by omega)).trans (Below.heap_alloc _ _ _ (by omega))
    have q5' : W5.heap[G + 1 + 1]? = some (.cells P2 33) := hW5 ▸ setRow_heap _ _ _ _ _ _ nC
    have hb5 : Below w.heap.size w W5 := hW5 ▸ hWC ▸ below_setRow (hb4.alloc hb4.size _) (by omega) _
    have a5 := (hk5 (G + 1) (by omega)).trans a4
    have c1 : W5.cell? ⟨G + 1, 1, none⟩ = some (.string r.called) := by rw [cell_of_row W5 _ _ _ _ _ a5]; exact HQ.out.2.2.2.2.1
    have c2 : W5.cell? ⟨G + 1, 2, none⟩ = some (.string r.calling) := by rw [cell_of_row W5 _ _ _ _ _ a5]; exact HQ.out.2.2.2.2.2
    obtain ⟨W6, hW6⟩ : ∃ W6, W5.setCells (G + 1 + 1) 1 B.toList = W6 := ⟨_, rfl⟩
    obtain ⟨q6, hk6, hbb6, -⟩ := setCells_put B.toList 1 W5 P2 q5'
    have th1 : W5.there (G + 1 + 1) 1 B.size := there_row q5' 1 B.size (by omega)
    have hb6 := hbb6 w.heap.size w (by omega) hb5
    rw [hW6] at q6 hk6 hb6
    obtain ⟨W7, hW7⟩ : ∃ W7, W6.setCells (G + 1 + 1) 6 U.toList = W7 := ⟨_, rfl⟩
    obtain ⟨q7, hk7, hbb7, -⟩ := setCells_put U.toList 6 W6 _ q6
    have th2 : W6.there (G + 1 + 1) 6 U.size := there_row q6 6 U.size (by have := HPUT.out.2; omega)
    have hb7 := hbb7 w.heap.size w (by omega) hb6
    rw [hW7] at q7 hk7 hb7
    rw [HPUT.out.1] at q7
    have HI0 : Hid (RgI w G AQ r (.slice none 0 0) W7) := by
      have hh : ∀ b, b < G + 1 → W7.heap[b]? = W3.heap[b]? := fun b hb => (hk7 b (by omega)).trans ((hk6 b (by omega)).trans ((hk5 b (by omega)).trans (hk4 b hb)))
      exact ⟨hb7, (hh _ (by omega)).trans g2, (hh _ (by omega)).trans g3, (hk7 _ (by omega)).trans ((hk6 _ (by omega)).trans a5), q7, hlo⟩
    have hra : W3.rangeAt w.heap.size 1 AQ.toList := fun j v hv => by rw [cell_of_row W3 _ _ _ _ _ g0]; exact HAP.out j v hv
    have lA : Z30.size = AQ.size := hza
    clear a4 hb4 hk4 hk5 hb5 a5 q6 hk6 hb6 hbb6 q7 hk7 hb7 hbb7 hbw g2 g3
    unfold Z33 at hWA hWC
    unfold Z30 at hWB
    go_wp2_with (first | (rw [hWA]; rw [hG]) | (refine wpList_store_row rfl 33 (.tmp 11) (.tmp 23) rfl G RQ rfl rfl 33 _ n0 hR0 hRz hR1 ?_; rw [hW3]) | (refine wpList_load_mid rfl 30 (.tmp 29) rfl w.heap.size 1 rfl AQ.toList _ hra hua rfl hsa ?_) | (rw [hWB]; rw [hs3]) | (refine wpList_store_row rfl 30 (.tmp 12) (.tmp 30) rfl (G + 1) AQ rfl rfl 30 _ nB hsa' lA hoa ?_; rw [hW4]) | (refine step_build rfl 33 _ rfl P2 (by simp [Act.eval]; exact hz2) ?_) | (rw [hWC]; rw [hs4]) | (refine wpList_store_row rfl 33 (.tmp 13) (.tmp 31) rfl (G + 1 + 1) P2 rfl rfl 33 _ nC s2' l2' o2' ?_; rw [hW5]) | (refine step_build rfl 30 _ rfl B (by simp [Act.eval]; exact hbB) ?_) | (refine wpList_store_mid rfl 30 (.tmp 37) (.tmp 36) rfl (G + 1 + 1) 1 B rfl rfl th1 iB oB ?_; rw [hW6]) | (refine step_build rfl 28 _ rfl U (by simp [Act.eval]; exact hbU) ?_) | (refine wpList_store_mid rfl 28 (.tmp 40) (.tmp 38) rfl (G + 1 + 1) 6 U rfl rfl th2 iU oU ?_; rw [hW7]))
    clear hG hs3 hs4 hWA hWB hWC hW1 hW3 hW4 hW5 hW6 hW7 n0 nB nC th1 th2 iB iU oB oU hbB hbU zB zU z2 c1 c2 y0' hra sPQ scf huc hsa hsa' lA hoa hza hz2 s2' o2' l2' hR1 hRz hRk q5' g0 hsA HAP HPUT hR0
    go_loopg [14, 15] n (fun g s14 s15 wx => ∃ (j : Nat) (l : Value), s15 = .int .i64 (j : Int) ∧ g + j = n ∧ Hid (RgI w G AQ r l wx) ∧ Hid (OE (G + 3) wx l ((D.cx.take j).map ansEl) 4 51 ShC) ∧ Hid (wx.ownsRow (G + 3) 44 3 s14 (agrs (D.cx.take j)).length (agrV (agrs (D.cx.take j)))))
    case atStart => exact ⟨0, .slice none 0 0, rfl, by omega, HI0.out, OE.nil _ _ _ _ _, World.ownsRow_nil _ _ _ _⟩
    case round =>
      clear HI0
      obtain ⟨j, l, rfl, hgj, HI, HO, HA⟩ := hrel
      have y5 : wr.cell? ⟨G + 1, 4, none⟩ = some (.slice ao n cap) := by rw [cell_of_row wr _ _ _ _ _ HI.out.a]; exact HQ.out.2.1
      by_cases hjn : j < n
      · have hjn2 : (j : Int) < (n : Int) := by omega
        have hjx : j < D.cx.length := by rw [HN.out.1]; exact hjn
        obtain ⟨b, off, rfl, hE⟩ := HEl.out (by omega)
        obtain ⟨vs, hE1, hE2⟩ := hE j hjx
        obtain ⟨x0, x1, s2, T, he⟩ := HN.out.2 D.cx[j] (List.getElem_mem hjx)
        rw [he] at hE1 hE2
        obtain ⟨v3, rfl, ao2, cap2, rfl, hel2, hzT, -⟩ := hE2
        have HEe : Hid (D.cx.take (j + 1) = D.cx.take j ++ [⟨[.int .u8 x0, .int .u8 x1, .string s2], .tx T⟩]) := by
          show D.cx.take (j + 1) = _
          rw [List.take_succ_eq_append_getElem hjx, he]
        have HEn : Hid (ansEl ⟨[.int .u8 x0, .int .u8 x1, .string s2], .tx T⟩ = ⟨[.int .u8 x0, .int .u8 (ansR s2 T), .string ⟨#[]⟩], .tx (ansT s2 T)⟩) := by
          show _ = _
          rfl
        have hbw := HI.out.b
        obtain ⟨m, hml⟩ : ∃ m, T.length = m := ⟨_, rfl⟩
        have E0 : wr.cell? ⟨b, off + j * 4, none⟩ = some (.int .u8 x0) := (hbw.cell (cell_lt (hE1 0 _ rfl))).trans (hE1 0 _ rfl)
        have E1 : wr.cell? ⟨b, off + j * 4 + 1, none⟩ = some (.int .u8 x1) := (hbw.cell (cell_lt (hE1 1 _ rfl))).trans (hE1 1 _ rfl)
        have E2 : wr.cell? ⟨b, off + j * 4 + 2, none⟩ = some (.string s2) := (hbw.cell (cell_lt (hE1 2 _ rfl))).trans (hE1 2 _ rfl)
        have E3 : wr.cell? ⟨b, off + j * 4 + 3, none⟩ = some (.slice ao2 m cap2) := hml ▸ (hbw.cell (cell_lt (hE1 3 _ rfl))).trans (hE1 3 _ rfl)
        have hm : m ≤ 8796093022208 := by omega
        have HTX : Hid (T.length = m ∧ (0 < T.length → ∃ b off, ao2 = some ⟨b, off, none⟩ ∧ ∀ k (h : k < T.length), wr.cell? ⟨b, off + k, none⟩ = some (.string T[k]))) := ⟨hml, fun h => by
          obtain ⟨b2, o2, e2, h2⟩ := hel2 h
          exact ⟨b2, o2, e2, fun k hk => (hbw.cell (cell_lt (h2 k hk))).trans (h2 k hk)⟩⟩
        have HLj : Hid ((D.cx.take j).length = j) := by show _ = _; rw [List.length_take]; omega
        obtain ⟨w0, hw0⟩ : ∃ w0, wr.alloc (.cells #[.int .u8 x0, .int .u8 x1, .string s2, .slice ao2 m cap2] 51) = w0 := ⟨_, rfl⟩
        have hs0 : w0.heap.size = wr.heap.size + 1 := by rw [← hw0]; simp
        have r0 : w0.heap[wr.heap.size]? = some (.cells #[.int .u8 x0, .int .u8 x1, .string s2, .slice ao2 m cap2] 51) := hw0 ▸ alloc_new wr _
        have T0 : w0.cell? ⟨wr.heap.size, 0, none⟩ = some (.int .u8 x0) := by rw [cell_of_row w0 _ _ _ _ _ r0]; rfl
        obtain ⟨wz, hwz⟩ : ∃ wz, w0.alloc (.cells #[.int .u8 0, .int .u8 0, .string ⟨#[]⟩, .slice none 0 0] 51) = wz := ⟨_, rfl⟩
        have nz : wz.heap[wr.heap.size + 1]? = some (.cells (pcC 0 0 ⟨#[]⟩ (.slice none 0 0)) 51) := hwz ▸ hs0 ▸ alloc_new w0 _
        have nz0 : wz.heap[wr.heap.size]? = some (.cells #[.int .u8 x0, .int .u8 x1, .string s2, .slice ao2 m cap2] 51) := hwz ▸ (Below.heap_alloc _ _ _ (by omega)).trans r0
        have hsz : wz.heap.size = wr.heap.size + 2 := by rw [← hwz]; simp [hs0]
        have hbz : Below wr.heap.size wr wz := hwz ▸ (hw0 ▸ (Below.refl _ _).alloc (Nat.le_refl _) _ : Below wr.heap.size wr w0).alloc (by omega) _
        obtain ⟨w1, hw1⟩ : ∃ w1, wz.setRow (wr.heap.size + 1) (pcC x0 4 ⟨#[]⟩ (.slice none 0 0)) = w1 := ⟨_, rfl⟩
        have n1 : w1.heap[wr.heap.size + 1]? = some (.cells (pcC x0 4 ⟨#[]⟩ (.slice none 0 0)) 51) := hw1 ▸ setRow_heap _ _ _ _ _ _ nz
        have n0 : w1.heap[wr.heap.size]? = some (.cells #[.int .u8 x0, .int .u8 x1, .string s2, .slice ao2 m cap2] 51) := hw1 ▸ (setRow_other _ _ _ _ (by omega)).trans nz0
        have hs1 : w1.heap.size = wr.heap.size + 2 := by rw [← hw1]; unfold World.setRow; simp [hsz]
        have hb1 : Below wr.heap.size wr w1 := hw1 ▸ below_setRow hbz (by omega) _
        have bR := built_pc x0 4
        have sR := sz51 x0 4 ⟨#[]⟩ (.slice none 0 0)
        have oR := pc_one x0 4 ⟨#[]⟩ (.slice none 0 0) rfl
        have lR : (pcC 0 0 ⟨#[]⟩ (.slice none 0 0)).size = (pcC x0 4 ⟨#[]⟩ (.slice none 0 0)).size := rfl
        have T2 : w1.cell? ⟨wr.heap.size, 2, none⟩ = some (.string s2) := by rw [cell_of_row w1 _ _ _ _ _ n0]; rfl
        have hsv := rserves_any w1 s2
        have HW1 : Hid (Below wr.heap.size wr w1 ∧ w1.heap.size = wr.heap.size + 2 ∧ w1.heap[wr.heap.size]? = some (.cells #[.int .u8 x0, .int .u8 x1, .string s2, .slice ao2 m cap2] 51) ∧ w1.heap[wr.heap.size + 1]? = some (.cells (pcC x0 4 ⟨#[]⟩ (.slice none 0 0)) 51)) := ⟨hb1, hs1, n0, n1⟩
        clear hE hE1 hbw he hjx hel2 hzT hml r0 n1 n0 hs1 hb1 nz0 hsz hbz
        generalize pcC x0 4 ⟨#[]⟩ (.slice none 0 0) = RB at bR sR oR lR hw1 ⊢
        go_upto_if 59 with (first | (rw [hw0]) | (rw [hwz]; rw [hs0]) | (refine step_build rfl 51 _ rfl RB (by simp [Act.eval]; exact bR) ?_) | (refine wpList_store_row rfl 51 (.tmp 17) (.tmp 55) rfl (wr.heap.size + 1) RB rfl rfl 51 _ nz sR lR oR ?_; rw [hw1]) | (go_at_call 17; refine hsv.mono ?_; rintro _ W' ⟨rfl, hw'⟩; obtain rfl : w1 = W' := hw'.symm))
        clear hsv T0 T2 hw0 hw1 hwz nz bR sR oR lR hs0 E0 E1 E2 E3
        obtain ⟨wo, hwo⟩ : ∃ wo : World, wo = wr := ⟨_, rfl⟩
        subst hwo
        go_cut [18] from 41 to 107 (fun s18 wx => Hid (InK w1 wo.heap.size x0 (ansO s2 T) (ansR s2 T) wx))
        case first => as_aux_lemma =>
          cases d1 : svB s2
          · have HF2 : Hid (∀ wx, Below (wo.heap.size + 1) w1 wx → wx.heap[wo.heap.size + 1]? = some (.cells (pcC x0 3 ⟨#[]⟩ (.slice none 0 0)) 51) → InK w1 wo.heap.size x0 (ansO s2 T) (ansR s2 T) wx) := fun wx h1 h2 => by
              unfold ansO ansR
              rw [d1]
              exact ⟨h1, (Array.getElem?_eq_some_iff.1 h2).1, _, h2, World.ownsRow_nil _ _ _ _⟩
            have q1 : w1.cell? ⟨wo.heap.size + 1, 1, none⟩ = some (.int .u8 4) := by rw [cell_of_row w1 _ _ _ _ _ HW1.out.2.2.2]; rfl
            have qf : w1.frozen? ⟨wo.heap.size + 1, 1, none⟩ = false := by simp [World.frozen?, HW1.out.2.2.2]
            go_wp2
            go_meet
            case rel =>
              refine HF2.out _ ((Below.refl _ _).setCell (p := ⟨wo.heap.size + 1, 1, none⟩) (Nat.le_refl _) _) ?_
              rw [setCell_eq_setRow w1 _ _ _ _ _ _ HW1.out.2.2.2]
              exact setRow_heap w1 _ _ _ _ _ HW1.out.2.2.2
          · have HF2 : Hid (∀ wx, InK w1 wo.heap.size x0 (firstS T) (if (firstS T).isSome then 0 else 4) wx → InK w1 wo.heap.size x0 (ansO s2 T) (ansR s2 T) wx) := fun wx h => by
              unfold ansO ansR
              rw [d1]
              exact h
            have q3 : w1.cell? ⟨wo.heap.size, 3, none⟩ = some (.slice ao2 m cap2) := by rw [cell_of_row w1 _ _ _ _ _ HW1.out.2.2.1]; rfl
            go_wp2
            clear q3
            go_loopg [18] m (fun g s18 wx => s18 = .int .i64 ((g : Int) - 1) ∧ g ≤ m ∧ Hid (InK w1 wo.heap.size x0 (firstS (T.drop g)) (if (firstS (T.drop g)).isSome then 0 else 4) wx))
            case atStart =>
              refine ⟨by go_num, Nat.le_refl _, ?_⟩
              rw [← HTX.out.1, List.drop_length]
              exact ⟨Below.refl _ _, by have := HW1.out.2.1; omega, _, HW1.out.2.2.2, World.ownsRow_nil _ _ _ _⟩
            case round => as_aux_lemma =>
              obtain ⟨rfl, hgm, HK⟩ := hrel
              by_cases hg0 : gk = 0
              · subst hg0
                have hI : ¬ (((0 : Nat) : Int) - 1) ≥ 0 := by decide
                go_wp2
                go_meet
                case rel => exact HF2.out _ HK.out
              · obtain ⟨i, rfl⟩ : ∃ i, gk = i + 1 := ⟨gk - 1, by omega⟩
                have hie : (((i + 1 : Nat) : Int) - 1) = (i : Int) := by omega
                rw [hie]
                clear hie
                have hil : i < T.length := by have := HTX.out.1; omega
                obtain ⟨b2, off2, rfl, he⟩ := HTX.out.2 (by omega)
                have hbr : Below wo.heap.size wo wr := HW1.out.1.trans (HK.out.1.mono (by omega))
                have hc := (hbr.cell (cell_lt (he i hil))).trans (he i hil)
                have q3 : wr.cell? ⟨wo.heap.size, 3, none⟩ = some (.slice (some ⟨b2, off2, none⟩) m cap2) := by rw [cell_of_row wr _ _ _ _ _ ((HK.out.1.block _ (by omega)).trans HW1.out.2.2.1)]; rfl
                have hdr := firstS_drop T i hil
                have hsy := rsyntax_any wr T[i]
                have hb2 : b2 < wo.heap.size := cell_lt (he i hil)
                clear he
                generalize T[i] = u at hc hdr hsy
                have him : (i : Int) < (m : Int) := by omega
                by_cases d2 : syN u = 0
                · rw [if_neg (by simp [d2])] at hdr
                  have HDR : Hid (firstS (T.drop i) = firstS (T.drop (i + 1))) := hdr
                  rw [d2] at hsy
                  clear hdr
                  go_wp2_with (go_at_call 18; refine hsy.mono ?_; rintro _ W' ⟨rfl, hw'⟩; obtain rfl : wr = W' := hw'.symm)
                  go_roundg i
                  case rel =>
                    refine ⟨by go_num, by omega, ?_⟩
                    rw [HDR.out]
                    exact HK.out
                  case measure => omega
                · rw [if_pos d2] at hdr
                  have HDR : Hid (firstS (T.drop i) = some u) := hdr
                  clear hdr
                  obtain ⟨y, hy⟩ : ∃ y : Int, (if (firstS (T.drop (i + 1))).isSome then 0 else 4) = y := ⟨_, rfl⟩
                  rw [hy] at HK
                  clear hy
                  obtain ⟨hbk, hsk, sv, hrow, -⟩ := HK.out
                  have q1 : wr.cell? ⟨wo.heap.size + 1, 1, none⟩ = some (.int .u8 y) := by rw [cell_of_row wr _ _ _ _ _ hrow]; rfl
                  have qf : wr.frozen? ⟨wo.heap.size + 1, 1, none⟩ = false := by simp [World.frozen?, hrow]
                  obtain ⟨W5, hW5⟩ : ∃ W5, wr.setCell ⟨wo.heap.size + 1, 1, none⟩ (.int .u8 0) = W5 := ⟨_, rfl⟩
                  have r5 : W5.heap[wo.heap.size + 1]? = some (.cells (pcC x0 0 ⟨#[]⟩ sv) 51) := by
                    rw [← hW5, setCell_eq_setRow wr _ _ _ _ _ _ hrow]
                    exact setRow_heap wr _ _ _ _ _ hrow
                  have k5 : ∀ b, b ≠ wo.heap.size + 1 → W5.heap[b]? = wr.heap[b]? := fun b hb => hW5 ▸ Below.heap_setCell _ _ _ _ hb
                  have z5 : W5.heap.size = wr.heap.size := by rw [← hW5]; simp
                  have p3 : W5.cell? ⟨wo.heap.size, 3, none⟩ = some (.slice (some ⟨b2, off2, none⟩) m cap2) := (World.cell?_of_block (k5 _ (by show wo.heap.size ≠ _; omega))).trans q3
                  have pc : W5.cell? ⟨b2, off2 + i, none⟩ = some (.string u) := (World.cell?_of_block (k5 _ (by show b2 ≠ _; omega))).trans hc
                  have hb5 : Below (wo.heap.size + 1) w1 W5 := hW5 ▸ hbk.setCell (p := ⟨wo.heap.size + 1, 1, none⟩) (Nat.le_refl _) _
                  obtain ⟨W6, hW6⟩ : ∃ W6, W5.alloc (.cells #[.string u] 9) = W6 := ⟨_, rfl⟩
                  have r6 : W6.heap[wo.heap.size + 1]? = some (.cells (pcC x0 0 ⟨#[]⟩ sv) 51) := hW6 ▸ (Below.heap_alloc _ _ _ (by omega)).trans r5
                  have n6 : W6.heap[W5.heap.size]? = some (.cells #[.string u] 9) := hW6 ▸ alloc_new W5 _
                  have z6 : W6.heap.size = W5.heap.size + 1 := by rw [← hW6]; simp
                  have hb6 : Below (wo.heap.size + 1) w1 W6 := hW6 ▸ hb5.alloc (by have := HW1.out.2.1; omega) _
                  have t3 : W6.cell? ⟨wo.heap.size + 1, 3, none⟩ = some sv := by rw [cell_of_row W6 _ _ _ _ _ r6]; rfl
                  have tf : W6.frozen? ⟨wo.heap.size + 1, 3, none⟩ = false := by simp [World.frozen?, r6]
                  obtain ⟨g7, hg7⟩ : ∃ g, W5.heap.size = g := ⟨_, rfl⟩
                  rw [hg7] at n6 z6
                  obtain ⟨W7, hW7⟩ : ∃ W7, W6.setCell ⟨wo.heap.size + 1, 3, none⟩ (.slice (some ⟨g7, 0, none⟩) 1 1) = W7 := ⟨_, rfl⟩
                  have HI7 : Hid (InK w1 wo.heap.size x0 (firstS (T.drop i)) (if (firstS (T.drop i)).isSome then 0 else 4) W7) := by
                    show InK _ _ _ _ _ _
                    rw [HDR.out]
                    refine ⟨hW7 ▸ hb6.setCell (p := ⟨wo.heap.size + 1, 3, none⟩) (Nat.le_refl _) _, by rw [← hW7]; simp; omega, .slice (some ⟨g7, 0, none⟩) 1 1, ?_, rfl, .inr ⟨g7, 1, #[.string u], rfl, by omega, ?_, Nat.le_refl _, by decide, rfl, rfl⟩⟩
                    · rw [← hW7, setCell_eq_setRow W6 _ _ _ _ _ _ r6]
                      exact setRow_heap W6 _ _ _ _ _ r6
                    · rw [← hW7]
                      exact (Below.heap_setCell _ _ _ _ (show g7 ≠ wo.heap.size + 1 by omega)).trans n6
                  clear hbk hrow r5 k5 z5 hb5 r6 n6 z6 hb6 hbr
                  go_wp2_with (first | (rw [hW7]) | (rw [hW6]; rw [hg7]) | (rw [hW5]) | (go_at_call 18; refine hsy.mono ?_; rintro _ W' ⟨rfl, hw'⟩; obtain rfl : wr = W' := hw'.symm))
                  go_roundg i
                  case rel => exact ⟨by go_num, by omega, HI7.out⟩
                  case measure => omega
        case rest =>
          obtain ⟨hbc, hszc, sv, hrow, hown⟩ := hcut.out
          have hbo : Below wo.heap.size wo wc := HW1.out.1.trans (hbc.mono (by omega))
          have hrow0 : wc.heap[wo.heap.size]? = some (.cells #[.int .u8 x0, .int .u8 x1, .string s2, .slice ao2 m cap2] 51) := (hbc.block _ (by omega)).trans HW1.out.2.2.1
          clear y5 hcut
          have hwz := HI.out.size
          have HIc : Hid (RgI w G AQ r l wc) := HI.out.on (hbo.mono hwz)
          obtain ⟨xs, hO1, hO2, hO3⟩ := HO.out
          have hlen : ((D.cx.take j).map ansEl).length = j := by rw [List.length_map]; exact HLj.out
          rw [hlen] at hO1
          obtain ⟨a6, p6, hsve⟩ := owns_slice hown
          obtain ⟨m6, hm6⟩ : ∃ m, (ansO s2 T).toList.length = m := ⟨_, rfl⟩
          have HSV : Hid (wc.ownsRow (wo.heap.size + 2) 9 1 sv (ansT s2 T).length (txs (ansT s2 T))) := hown
          rw [hm6] at hsve
          subst hsve
          obtain ⟨k8, hk8⟩ : ∃ k, (agrs (D.cx.take j)).length = k := ⟨_, rfl⟩
          have hk8j : k8 ≤ j := by
            have h1 := agrs_len (D.cx.take j)
            have h2 := HLj.out
            omega
          rw [hk8] at HA
          have HK8 : Hid ((agrs (D.cx.take j)).length = k8) := hk8
          obtain ⟨a8, p8, h8⟩ := owns_slice HA.out
          subst h8
          obtain ⟨a7, p7, h7⟩ := owns_slice hO1
          subst h7
          have HO1 : Hid (wo.ownsRow (G + 3) 51 4 (.slice a7 j p7) j xs) := hO1
          have HOc : Hid (wc.ownsRow (G + 3) 51 4 (.slice a7 j p7) j xs) := owns_next hO1 hbo
          have HAc : Hid (wc.ownsRow (G + 3) 44 3 (.slice a8 k8 p8) k8 (agrV (agrs (D.cx.take j)))) := owns_next HA.out hbo
          have HGc : Hid (GE (G + 3) wc (.slice a7 j p7) xs ((D.cx.take j).map ansEl) 4 ∧ ((D.cx.take j).map ansEl).length = j ∧ InnO (G + 3) wc (.slice a7 j p7) (.tx (ansT s2 T)) [.slice a6 m6 p6] ∧ (∀ p ∈ (D.cx.take j).map ansEl, ShC p)) := by
            refine ⟨hO2.move (fun b hb1 hb2 hb3 => ⟨hbo.block b hb2, hb3⟩), hlen, ?_, hO3⟩
            refine inno_tx (base := wo.heap.size + 2) HSV.out ?_ (fun b e => by have := (hO1.lt b e).2; omega) (by omega)
            have := ansT_len s2 T
            omega
          obtain ⟨y, hy⟩ : ∃ y, ansR s2 T = y := ⟨_, rfl⟩
          have HAE : Hid (agrs (D.cx.take (j + 1)) = agrs (D.cx.take j) ++ agrEl ⟨[.int .u8 x0, .int .u8 x1, .string s2], .tx T⟩) := by
            show _ = _
            rw [HEe.out, agrs_snoc]
          have hcase := ans_form2 x0 (.int .u8 x1) s2 T
          rw [hy] at hrow hcase
          have HEy : Hid (ansEl ⟨[.int .u8 x0, .int .u8 x1, .string s2], .tx T⟩ = ⟨[.int .u8 x0, .int .u8 y, .string ⟨#[]⟩], .tx (ansT s2 T)⟩) := by rw [← hy]; exact HEn.out
          have HRW : Hid (wc.heap[wo.heap.size]? = some (.cells #[.int .u8 x0, .int .u8 x1, .string s2, .slice ao2 m cap2] 51) ∧ wc.heap[wo.heap.size + 1]? = some (.cells (pcC x0 y ⟨#[]⟩ (.slice a6 m6 p6)) 51) ∧ wo.heap.size + 2 ≤ wc.heap.size ∧ wo.heap.size ≤ wc.heap.size) := ⟨hrow0, hrow, hszc, by omega⟩
          have T1 : wc.cell? ⟨wo.heap.size + 1, 1, none⟩ = some (.int .u8 y) := by rw [cell_of_row wc _ _ _ _ _ hrow]; rfl
          have HAo : Hid (wo.ownsRow (G + 3) 44 3 (.slice a8 k8 p8) k8 (agrV (agrs (D.cx.take j)))) := HA.out
          clear hy hk8 hlen hO1 hO2 hO3 HO HA HI hbc hszc hrow hrow0 hown hbo hm6 HEn HW1 HTX
          rcases hcase with ⟨u, rfl, hT1, hag⟩ | ⟨hy0, hag⟩
          · have HAG : Hid (agrs (D.cx.take (j + 1)) = agrs (D.cx.take j) ++ [(x0, s2, syN u)]) := by
              show _ = _
              rw [HAE.out, hag]
            have hown1 : wc.ownsRow (wo.heap.size + 2) 9 1 (.slice a6 m6 p6) 1 (txs [u]) := by
              have h := HSV.out
              rw [hT1] at h
              exact h
            rcases hown1.2 with ⟨_, h0⟩ | ⟨gs, cp, cur, e1, hgs2, _⟩
            · exact absurd h0 (by decide)
            injection e1 with e1 e2 e3
            subst e1 e2 e3
            have hcu : wc.cell? ⟨gs, 0, none⟩ = some (.string u) := by
              have := hown1.cellAt 0 (by decide)
              simpa [txs] using this
            clear hag HAE hT1 hown1
            have bC := built_ctx x0 s2 (syN u)
            have HSY : Hid (∀ W', Calls Tryd.prog 18 #[.string u] W' fun e w' => e = .returned (.int .i64 (syN u)) ∧ w' = W') := fun W' => rsyntax_any W' u
            have C0 : wc.cell? ⟨wo.heap.size, 0, none⟩ = some (.int .u8 x0) := by rw [cell_of_row wc _ _ _ _ _ HRW.out.1]; rfl
            have C2 : wc.cell? ⟨wo.heap.size, 2, none⟩ = some (.string s2) := by rw [cell_of_row wc _ _ _ _ _ HRW.out.1]; rfl
            have C3 : wc.cell? ⟨wo.heap.size + 1, 3, none⟩ = some (.slice (some ⟨gs, 0, none⟩) 1 p6) := by rw [cell_of_row wc _ _ _ _ _ HRW.out.2.1]; rfl
            generalize syN u = sy at *
            have hgsl : gs < wc.heap.size := cell_lt hcu
            go_wp2
            clear T1
            refine wp_region_held_drew (S := fun w' => w'.heap[wo.heap.size]? = wc.heap[wo.heap.size]? ∧ w'.heap[wo.heap.size + 1]? = wc.heap[wo.heap.size + 1]? ∧ w'.heap[gs]? = wc.heap[gs]?) (by kernel_rfl) ⟨rfl, rfl, rfl⟩ (fun hHeld => ?_)
            have HIw : Hid (RgI w G AQ r (.slice a7 j p7) wc.drew) := HIc.out.on (Below.refl _ _).drew
            have HOw : Hid (wc.drew.ownsRow (G + 3) 51 4 (.slice a7 j p7) j xs) := owns_next HOc.out (Below.refl _ _).drew
            have HAw : Hid (wc.drew.ownsRow (G + 3) 44 3 (.slice a8 k8 p8) k8 (agrV (agrs (D.cx.take j)))) := owns_next HAc.out (Below.refl _ _).drew
            have HGw : Hid (GE (G + 3) wc.drew (.slice a7 j p7) xs ((D.cx.take j).map ansEl) 4 ∧ ((D.cx.take j).map ansEl).length = j ∧ InnO (G + 3) wc.drew (.slice a7 j p7) (.tx (ansT s2 T)) [.slice (some ⟨gs, 0, none⟩) 1 p6] ∧ (∀ p ∈ (D.cx.take j).map ansEl, ShC p)) := ⟨HGc.out.1.move (fun b _ _ hb3 => ⟨rfl, hb3⟩), HGc.out.2.1, HGc.out.2.2.1.move (fun b _ _ hb3 => ⟨rfl, hb3⟩), HGc.out.2.2.2⟩
            have hzw : wc.drew.heap.size = wc.heap.size := rfl
            generalize wc.drew = wd at HIw HOw HAw HGw hzw hHeld ⊢
            refine wpAnyH_take (i := 0) (oi := ({ dst := some 87, op := Op.move (Operand.tmp 14), type := 38, pos := "upper.go:487", after := #[], guard := none } : Oper)) (v := .slice a8 k8 p8) rfl (by kernel_rfl) (by kernel_rfl) (by kernel_rfl) (fun _ _ _ h => h) (Or.inl ⟨by rfl, fun w _ => by go_simp⟩) hHeld ?_
            try simp only [Act.put, List.setIfInBounds_toArray, List.set_cons_zero, List.set_cons_succ]
            refine wpAnyH_take (i := 1) (oi := ({ dst := some 88, op := Op.fieldAddr 51 (Operand.tmp 16) 0, type := 0, pos := "upper.go:487", after := #[], guard := none } : Oper)) (v := .pointer (some ⟨wo.heap.size, 0, none⟩)) rfl (by kernel_rfl) (by kernel_rfl) (by kernel_rfl) (fun _ _ _ h => h) (Or.inl ⟨by rfl, fun w _ => by go_simp⟩) hHeld ?_
            try simp only [Act.put, List.setIfInBounds_toArray, List.set_cons_zero, List.set_cons_succ]
            refine wpAnyH_take (i := 2) (oi := ({ dst := some 89, op := Op.load 5 (Operand.tmp 88), type := 5, pos := "upper.go:487", after := #[{ on := 1, ground := Ground.data }], guard := none } : Oper)) (v := .int .u8 x0) rfl (by kernel_rfl) (by kernel_rfl) (by kernel_rfl) (fun _ _ _ h => h) (Or.inl ⟨by rfl, fun w h => by have h1 := (World.cell?_of_block h.1).trans C0; go_simp⟩) hHeld ?_
            try simp only [Act.put, List.setIfInBounds_toArray, List.set_cons_zero, List.set_cons_succ]
            refine wpAnyH_take (i := 3) (oi := ({ dst := some 90, op := Op.fieldAddr 51 (Operand.tmp 16) 2, type := 0, pos := "upper.go:487", after := #[], guard := none } : Oper)) (v := .pointer (some ⟨wo.heap.size, 2, none⟩)) rfl (by kernel_rfl) (by kernel_rfl) (by kernel_rfl) (fun _ _ _ h => h) (Or.inl ⟨by rfl, fun w _ => by go_simp⟩) hHeld ?_
            try simp only [Act.put, List.setIfInBounds_toArray, List.set_cons_zero, List.set_cons_succ]
            refine wpAnyH_take (i := 4) (oi := ({ dst := some 91, op := Op.load 9 (Operand.tmp 90), type := 9, pos := "upper.go:487", after := #[{ on := 3, ground := Ground.data }], guard := none } : Oper)) (v := .string s2) rfl (by kernel_rfl) (by kernel_rfl) (by kernel_rfl) (fun _ _ _ h => h) (Or.inl ⟨by rfl, fun w h => by have h1 := (World.cell?_of_block h.1).trans C2; go_simp⟩) hHeld ?_
            try simp only [Act.put, List.setIfInBounds_toArray, List.set_cons_zero, List.set_cons_succ]
            refine wpAnyH_take (i := 5) (oi := ({ dst := some 92, op := Op.fieldAddr 51 (Operand.tmp 17) 3, type := 0, pos := "upper.go:487", after := #[], guard := none } : Oper)) (v := .pointer (some ⟨wo.heap.size + 1, 3, none⟩)) rfl (by kernel_rfl) (by kernel_rfl) (by kernel_rfl) (fun _ _ _ h => h) (Or.inl ⟨by rfl, fun w _ => by go_simp⟩) hHeld ?_
            try simp only [Act.put, List.setIfInBounds_toArray, List.set_cons_zero, List.set_cons_succ]
            refine wpAnyH_take (i := 6) (oi := ({ dst := some 93, op := Op.load 34 (Operand.tmp 92), type := 34, pos := "upper.go:487", after := #[{ on := 5, ground := Ground.data }], guard := none } : Oper)) (v := .slice (some ⟨gs, 0, none⟩) 1 p6) rfl (by kernel_rfl) (by kernel_rfl) (by kernel_rfl) (fun _ _ _ h => h) (Or.inl ⟨by rfl, fun w h => by have h1 := (World.cell?_of_block h.2.1).trans C3; go_simp⟩) hHeld ?_
            try simp only [Act.put, List.setIfInBounds_toArray, List.set_cons_zero, List.set_cons_succ]
            refine wpAnyH_take (i := 7) (oi := ({ dst := some 94, op := Op.indexAddr 34 (Operand.tmp 93) (Operand.const (Value.int IntKind.i64 0)), type := 0, pos := "upper.go:487", after := #[{ on := 6, ground := Ground.data }], guard := none } : Oper)) (v := .pointer (some ⟨gs, 0, none⟩)) rfl (by kernel_rfl) (by kernel_rfl) (by kernel_rfl) (fun _ _ _ h => h) (Or.inl ⟨by rfl, fun w _ => by go_simp⟩) hHeld ?_
            try simp only [Act.put, List.setIfInBounds_toArray, List.set_cons_zero, List.set_cons_succ]
            refine wpAnyH_take (i := 8) (oi := ({ dst := some 95, op := Op.load 9 (Operand.tmp 94), type := 9, pos := "upper.go:487", after := #[{ on := 7, ground := Ground.data }], guard := none } : Oper)) (v := .string u) rfl (by kernel_rfl) (by kernel_rfl) (by kernel_rfl) (fun _ _ _ h => h) (Or.inl ⟨by rfl, fun w h => by have h1 := (World.cell?_of_block h.2.2).trans hcu; go_simp⟩) hHeld ?_
            try simp only [Act.put, List.setIfInBounds_toArray, List.set_cons_zero, List.set_cons_succ]
            obtain ⟨hwd0, hwd1, hwds⟩ := hHeld
            have hHeld : wd.heap[wo.heap.size]? = wc.heap[wo.heap.size]? ∧ wd.heap[wo.heap.size + 1]? = wc.heap[wo.heap.size + 1]? ∧ wd.heap[gs]? = wc.heap[gs]? := ⟨hwd0, hwd1, hwds⟩
            refine wpAnyH_ready (rs := [9]) (by kernel_rfl) (by simp) ?_
            refine AllReadyH.cons (o := ({ dst := some 96, op := Op.call { callee := Callee.value (Operand.func 18), args := #[Operand.tmp 95], argTypes := #[9] }, type := 42, pos := "upper.go:487", after := #[{ on := 8, ground := Ground.data }], guard := none } : Oper)) rfl (fun K hK => ?_) AllReadyH.nil
            rw [if_pos (by rfl)]
            go_simp
            go_at_call 18
            refine (HSY.out _).mono ?_
            rintro _ W' ⟨rfl, hw'⟩
            obtain rfl : wd = W' := hw'.symm
            refine hK.out _ _ hHeld (fun hHeld => ?_)
            clear hK K
            try simp only [Act.put, List.setIfInBounds_toArray, List.set_cons_zero, List.set_cons_succ]
            refine wpAnyH_take (i := 10) (oi := ({ dst := some 97, op := Op.build 44 #[(0, Operand.tmp 89), (1, Operand.tmp 91), (2, Operand.tmp 96)], type := 44, pos := "upper.go:487", after := #[{ on := 2, ground := Ground.data }, { on := 4, ground := Ground.data }, { on := 9, ground := Ground.data }], guard := none } : Oper)) (v := .agg (ctxC x0 s2 sy)) rfl (by kernel_rfl) (by kernel_rfl) (by kernel_rfl) (fun _ _ _ h => h) (yld_build (by rfl) 44 _ rfl (ctxC x0 s2 sy) (by simp [Act.eval]; exact bC)) hHeld ?_
            try simp only [Act.put, List.setIfInBounds_toArray, List.set_cons_zero, List.set_cons_succ]
            refine wpAnyH_ready (rs := [11]) (by kernel_rfl) (by simp) ?_
            refine AllReadyH.cons (o := ({ dst := some 98, op := Op.buildSlice 38 1 #[(0, Operand.tmp 97)], type := 38, pos := "upper.go:487", after := #[{ on := 10, ground := Ground.data }], guard := none } : Oper)) rfl (fun K hK => ?_) AllReadyH.nil
            rw [if_pos (by rfl)]
            refine op_bs38 (.tmp 97) x0 s2 sy rfl rfl ?_
            have hs9 : G + 3 ≤ wd.heap.size := HIw.out.size
            refine hK.out _ _ ⟨(Below.heap_alloc _ _ _ (by omega)).trans hHeld.1, (Below.heap_alloc _ _ _ (by omega)).trans hHeld.2.1, (Below.heap_alloc _ _ _ (by omega)).trans hHeld.2.2⟩ (fun hHeld => ?_)
            clear hK K
            try simp only [Act.put, List.setIfInBounds_toArray, List.set_cons_zero, List.set_cons_succ]
            obtain ⟨iX, hiX, hX0, hX1, hX2⟩ := info_parts infoCon
            refine wpAnyH_ready (rs := [12]) (by kernel_rfl) (by simp) ?_
            refine AllReadyH.cons (o := ({ dst := some 99, op := Op.call { callee := Callee.builtin Builtin.append, args := #[Operand.tmp 87, Operand.tmp 98], argTypes := #[38, 38] }, type := 38, pos := "upper.go:487", after := #[{ on := 0, ground := Ground.data }, { on := 11, ground := Ground.data }, { on := 9, ground := Ground.chain }], guard := none } : Oper)) rfl (fun K hK => ?_) AllReadyH.nil
            rw [if_pos (by rfl)]
            refine wp_append_lies _ (.tmp 87) (.tmp 98) 38 rfl (G + 3) 44 iX _ 3 32 Tryd.underlying38 hiX hX0 hX1 hX2 rfl (by decide) (.slice a8 k8 p8) k8 (agrV (agrs (D.cx.take j))) rfl (HAw.out.alloc _) ⟨wd.heap.size, 0, none⟩ 1 1 [.int .u8 x0, .string s2, .int .i64 sy] rfl rfl (World.news_of_block (alloc_new _ _)) (by intro u hu; simp at hu; rcases hu with rfl | rfl | rfl <;> rfl) (by decide) (by unfold maxLen; omega) (by omega) (by simp; omega) _ rfl ?_
            intro g9 cp9 w9 hown9 hgrow9 hat9 hlt9
            have hal : ∀ b, b < wd.heap.size → (wd.alloc (.cells (ctxC x0 s2 sy) 44)).heap[b]? = wd.heap[b]? := fun b hb => Below.heap_alloc _ _ _ hb
            have hlv : ∀ b, (Value.slice a8 k8 p8).ownBlock = some b → b < wo.heap.size := fun b e => (HAo.out.lt b e).2
            have hfar : ∀ b, wo.heap.size ≤ b → b < wd.heap.size → w9.heap[b]? = wd.heap[b]? := fun b h1 h2 => (hgrow9.block b (by simp; omega) (fun e => by have := hlv b e.symm; omega)).trans (hal b h2)
            have hty : ∀ (b : Nat) (cur : Array Value) (e : TypeId) (fr : Nat × Nat), e ≠ 44 → wd.heap[b]? = some (.cells cur e fr) → w9.heap[b]? = wd.heap[b]? := fun b cur e fr he hb => by
              have h3 := hal b (Array.getElem?_eq_some_iff.1 hb).1
              exact (grown_far (HAw.out.alloc _) hgrow9 b cur e fr he (h3.trans hb)).trans h3
            have hb9 : Below (G + 3) wd w9 := ((Below.refl _ _).alloc hs9 _).grown hgrow9 (by simp; omega) (fun j hj => (HAw.out.lt j hj).1)
            have HIx : Hid (RgI w G AQ r (.slice a7 j p7) w9) := HIw.out.on hb9
            have HOx : Hid (w9.ownsRow (G + 3) 51 4 (.slice a7 j p7) j xs) := owns_same HOw.out (fun b e => by
              obtain ⟨_, _, cur, fr, hc⟩ := own_ty HOw.out e
              exact hty b cur 51 fr (by decide) hc)
            have HGx : Hid (GE (G + 3) w9 (.slice a7 j p7) xs ((D.cx.take j).map ansEl) 4 ∧ ((D.cx.take j).map ansEl).length = j ∧ InnO (G + 3) w9 (.slice a7 j p7) (.tx (ansT s2 T)) [.slice (some ⟨gs, 0, none⟩) 1 p6] ∧ (∀ p ∈ (D.cx.take j).map ansEl, ShC p)) := by
              have hf : ∀ (b : Nat) (cur : Array Value) (e : TypeId) (fr : Nat × Nat), e = 9 ∨ e = 5 → wd.heap[b]? = some (.cells cur e fr) → w9.heap[b]? = wd.heap[b]? := fun b cur e fr he hb => hty b cur e fr (by rcases he with rfl | rfl <;> decide) hb
              exact ⟨fun i hi => by obtain ⟨vs, k1, k2⟩ := HGw.out.1 i hi; exact ⟨vs, k1, k2.far hf⟩, HGw.out.2.1, HGw.out.2.2.1.far hf, HGw.out.2.2.2⟩
            have HRx : Hid (w9.heap[wo.heap.size + 1]? = some (.cells (pcC x0 0 ⟨#[]⟩ (.slice (some ⟨gs, 0, none⟩) 1 p6)) 51)) := (hfar _ (by omega) (by omega)).trans ((hwd1).trans HRW.out.2.1)
            have HAx : Hid (w9.ownsRow (G + 3) 44 3 (.slice (some ⟨g9, 0, none⟩) (k8 + 1) cp9) (agrs (D.cx.take (j + 1))).length (agrV (agrs (D.cx.take (j + 1))))) := by
              show w9.ownsRow _ _ _ _ _ _
              rw [HAG.out, agrV_snoc, List.length_append, HK8.out]
              exact hown9
            refine hK.out _ _ ⟨(hfar _ (by omega) (by omega)).trans hwd0, (hfar _ (by omega) (by omega)).trans hwd1, (hfar _ (by omega) (by omega)).trans hwds⟩ (fun hHeld => ?_)
            clear hK K
            try simp only [Act.put, List.setIfInBounds_toArray, List.set_cons_zero, List.set_cons_succ]
            refine wpAnyH_take (i := 13) (oi := ({ dst := some 14, op := Op.assign (Operand.tmp 99), type := 38, pos := "upper.go:487", after := #[{ on := 12, ground := Ground.data }, { on := 12, ground := Ground.chain }, { on := 0, ground := Ground.phase }, { on := 1, ground := Ground.phase }, { on := 2, ground := Ground.phase }, { on := 3, ground := Ground.phase }, { on := 4, ground := Ground.phase }, { on := 5, ground := Ground.phase }, { on := 6, ground := Ground.phase }, { on := 7, ground := Ground.phase }, { on := 8, ground := Ground.phase }, { on := 9, ground := Ground.phase }, { on := 10, ground := Ground.phase }, { on := 11, ground := Ground.phase }, { on := 12, ground := Ground.phase }], guard := none } : Oper)) (v := .slice (some ⟨g9, 0, none⟩) (k8 + 1) cp9) rfl (by kernel_rfl) (by kernel_rfl) (by kernel_rfl) (fun _ _ _ h => h) (Or.inl ⟨by rfl, fun w _ => by go_simp⟩) hHeld ?_
            try simp only [Act.put, List.setIfInBounds_toArray, List.set_cons_zero, List.set_cons_succ]
            refine wpAnyH_done (by kernel_rfl) ?_ _
            clear hown9 hgrow9 hat9 hlt9 hal hlv hfar hty hb9 hHeld hwd0 hwd1 hwds HIc HOc HGc HAc HSV HIw HOw HAw HGw
            have t0 : w9.cell? ⟨wo.heap.size + 1, 0, none⟩ = some (.int .u8 x0) := by rw [cell_of_row w9 _ _ _ _ _ HRx.out]; rfl
            have t1 : w9.cell? ⟨wo.heap.size + 1, 1, none⟩ = some (.int .u8 0) := by rw [cell_of_row w9 _ _ _ _ _ HRx.out]; rfl
            have t2 : w9.cell? ⟨wo.heap.size + 1, 2, none⟩ = some (.string ⟨#[]⟩) := by rw [cell_of_row w9 _ _ _ _ _ HRx.out]; rfl
            have t3 : w9.cell? ⟨wo.heap.size + 1, 3, none⟩ = some (.slice (some ⟨gs, 0, none⟩) 1 p6) := by rw [cell_of_row w9 _ _ _ _ _ HRx.out]; rfl
            have q5 : w9.cell? ⟨G + 1 + 1, 5, none⟩ = some (.slice a7 j p7) := HIx.out.cellq
            have hs4 : G + 3 ≤ w9.heap.size := HIx.out.size
            obtain ⟨iC, hiC, hC0, hC1, hC2⟩ := info_parts infoCtx
            go_wp2_with (at_builtin; refine wpList_append_lies _ rfl (.tmp 102) (.tmp 104) 23 rfl (G + 3) 51 iC _ 4 48 Tryd.underlying23 hiC hC0 hC1 hC2 rfl (by decide) (.slice a7 j p7) j xs rfl (HOx.out.alloc _) ⟨w9.heap.size, 0, none⟩ 1 1 [.int .u8 x0, .int .u8 0, .string ⟨#[]⟩, .slice (some ⟨gs, 0, none⟩) 1 p6] rfl rfl ?_ ?_ (by decide) ?_ ?_ ?_ _ rfl ?_)
            · exact ⟨rfl, rfl, rfl, rfl⟩
            · unfold maxLen; omega
            · omega
            · omega
            · intro g cp w2 hown' hgrow hat hlt
              have hb6 : Below (G + 3) w9 w2 := ((Below.refl _ _).alloc hs4 _).grown hgrow (by simp; omega) (fun j hj => (HOx.out.lt j hj).1)
              have HI6 : Hid (RgI w G AQ r (.slice a7 j p7) w2) := HIx.out.on hb6
              have q5b : w2.cell? ⟨G + 1 + 1, 5, none⟩ = some (.slice a7 j p7) := HI6.out.cellq
              have q5f := HI6.out.froz
              have HA6 : Hid (w2.ownsRow (G + 3) 44 3 (.slice (some ⟨g9, 0, none⟩) (k8 + 1) cp9) (agrs (D.cx.take (j + 1))).length (agrV (agrs (D.cx.take (j + 1))))) := owns_same HAx.out (fun b e => by
                obtain ⟨_, h2, cur, fr, hc⟩ := own_ty HAx.out e
                have h3 := Below.heap_alloc w9 (.cells #[.int .u8 x0, .int .u8 0, .string ⟨#[]⟩, .slice (some ⟨gs, 0, none⟩) 1 p6] 51) b h2
                exact (grown_far (HOx.out.alloc _) hgrow b cur 44 fr (by decide) (h3.trans hc)).trans h3)
              have HO6 : Hid (w2.ownsRow (G + 3) 51 4 (.slice (some ⟨g, 0, none⟩) (j + 1) cp) (j + 1) (xs ++ [.int .u8 x0, .int .u8 0, .string ⟨#[]⟩, .slice (some ⟨gs, 0, none⟩) 1 p6])) := hown'
              have HG6 : Hid (GE (G + 3) w2 (.slice (some ⟨g, 0, none⟩) (j + 1) cp) (xs ++ [.int .u8 x0, .int .u8 0, .string ⟨#[]⟩, .slice (some ⟨gs, 0, none⟩) 1 p6]) ((D.cx.take j).map ansEl ++ [⟨[.int .u8 x0, .int .u8 0, .string ⟨#[]⟩], .tx (ansT s2 T)⟩]) 4) :=
                GE.app (el := ⟨[.int .u8 x0, .int .u8 0, .string ⟨#[]⟩], .tx (ansT s2 T)⟩) (vs := [.slice (some ⟨gs, 0, none⟩) 1 p6]) HGx.out.1 HGx.out.2.1 HOx.out HGx.out.2.2.1 (fun b hb => Below.heap_alloc w9 _ b hb) (by simp) hgrow (hat.imp_right (fun h => by omega))
              obtain ⟨W7, hW7⟩ : ∃ W7, w2.setCell ⟨G + 1 + 1, 5, none⟩ (.slice (some ⟨g, 0, none⟩) (j + 1) cp) = W7 := ⟨_, rfl⟩
              have HI7 : Hid (RgI w G AQ r (.slice (some ⟨g, 0, none⟩) (j + 1) cp) W7) := hW7 ▸ HI6.out.set _
              have HK7 : Hid (∀ b, G + 3 ≤ b → W7.heap[b]? = w2.heap[b]?) := fun b hb => hW7 ▸ Below.heap_setCell _ _ _ _ (show b ≠ G + 1 + 1 by omega)
              have HO7 : Hid (OE (G + 3) W7 (.slice (some ⟨g, 0, none⟩) (j + 1) cp) ((D.cx.take (j + 1)).map ansEl) 4 51 ShC) := by
                have h1 : (D.cx.take (j + 1)).map ansEl = (D.cx.take j).map ansEl ++ [⟨[.int .u8 x0, .int .u8 0, .string ⟨#[]⟩], .tx (ansT s2 T)⟩] := by
                  rw [HEe.out, List.map_append, ← HEy.out]; rfl
                rw [h1]
                refine OE.keep (W := w2) ⟨xs ++ [.int .u8 x0, .int .u8 0, .string ⟨#[]⟩, .slice (some ⟨gs, 0, none⟩) 1 p6], ?_, HG6.out, fun p hp => ?_⟩ (fun b hb _ => HK7.out b hb)
                · rw [List.length_append, HGx.out.2.1]; exact HO6.out
                · rcases List.mem_append.1 hp with h | h
                  · exact HGx.out.2.2.2 p h
                  · rw [List.mem_singleton.1 h]; exact ⟨_, _, _, _, rfl⟩
              have HA7 : Hid (W7.ownsRow (G + 3) 44 3 (.slice (some ⟨g9, 0, none⟩) (k8 + 1) cp9) (agrs (D.cx.take (j + 1))).length (agrV (agrs (D.cx.take (j + 1))))) := owns_same HA6.out (fun b e => HK7.out b (HA6.out.lt b e).1)
              clear hgrow hown' hat hlt t0 t1 t2 t3 q5 HO6 HG6 HA6 hb6
              go_wp2_with (rw [hW7])
              go_roundg (n - (j + 1))
              case rel => exact ⟨j + 1, _, by go_num, by omega, HI7.out, HO7.out, HA7.out⟩
              case measure => omega
          · have HIx := HIc
            have HOx := HOc
            have HGx := HGc
            have HRx : Hid (wc.heap[wo.heap.size + 1]? = some (.cells (pcC x0 y ⟨#[]⟩ (.slice a6 m6 p6)) 51)) := HRW.out.2.1
            have HAx : Hid (wc.ownsRow (G + 3) 44 3 (.slice a8 k8 p8) (agrs (D.cx.take (j + 1))).length (agrV (agrs (D.cx.take (j + 1))))) := by
              show wc.ownsRow _ _ _ _ _ _
              rw [HAE.out, hag, List.append_nil, HK8.out]
              exact HAc.out
            clear hag HAE HIc HOc HGc HAc HSV
            have t0 : wc.cell? ⟨wo.heap.size + 1, 0, none⟩ = some (.int .u8 x0) := by rw [cell_of_row wc _ _ _ _ _ HRx.out]; rfl
            have t1 : wc.cell? ⟨wo.heap.size + 1, 1, none⟩ = some (.int .u8 y) := by rw [cell_of_row wc _ _ _ _ _ HRx.out]; rfl
            have t2 : wc.cell? ⟨wo.heap.size + 1, 2, none⟩ = some (.string ⟨#[]⟩) := by rw [cell_of_row wc _ _ _ _ _ HRx.out]; rfl
            have t3 : wc.cell? ⟨wo.heap.size + 1, 3, none⟩ = some (.slice a6 m6 p6) := by rw [cell_of_row wc _ _ _ _ _ HRx.out]; rfl
            have q5 : wc.cell? ⟨G + 1 + 1, 5, none⟩ = some (.slice a7 j p7) := HIx.out.cellq
            have hs4 : G + 3 ≤ wc.heap.size := HIx.out.size
            obtain ⟨iC, hiC, hC0, hC1, hC2⟩ := info_parts infoCtx
            go_wp2_with (at_builtin; refine wpList_append_lies _ rfl (.tmp 102) (.tmp 104) 23 rfl (G + 3) 51 iC _ 4 48 Tryd.underlying23 hiC hC0 hC1 hC2 rfl (by decide) (.slice a7 j p7) j xs rfl (HOx.out.alloc _) ⟨wc.heap.size, 0, none⟩ 1 1 [.int .u8 x0, .int .u8 y, .string ⟨#[]⟩, .slice a6 m6 p6] rfl rfl ?_ ?_ (by decide) ?_ ?_ ?_ _ rfl ?_)
            · exact World.news_of_block (alloc_new _ _)
            · intro u hu; simp at hu; rcases hu with rfl | rfl | rfl | rfl <;> rfl
            · unfold maxLen; omega
            · omega
            · simp; omega
            · intro g cp w2 hown' hgrow hat hlt
              have hb6 : Below (G + 3) wc w2 := ((Below.refl _ _).alloc hs4 _).grown hgrow (by simp; omega) (fun j hj => (HOx.out.lt j hj).1)
              have HI6 : Hid (RgI w G AQ r (.slice a7 j p7) w2) := HIx.out.on hb6
              have q5b : w2.cell? ⟨G + 1 + 1, 5, none⟩ = some (.slice a7 j p7) := HI6.out.cellq
              have q5f := HI6.out.froz
              have HA6 : Hid (w2.ownsRow (G + 3) 44 3 (.slice a8 k8 p8) (agrs (D.cx.take (j + 1))).length (agrV (agrs (D.cx.take (j + 1))))) := owns_same HAx.out (fun b e => by
                obtain ⟨_, h2, cur, fr, hc⟩ := own_ty HAx.out e
                have h3 := Below.heap_alloc wc (.cells #[.int .u8 x0, .int .u8 y, .string ⟨#[]⟩, .slice a6 m6 p6] 51) b h2
                exact (grown_far (HOx.out.alloc _) hgrow b cur 44 fr (by decide) (h3.trans hc)).trans h3)
              have HO6 : Hid (w2.ownsRow (G + 3) 51 4 (.slice (some ⟨g, 0, none⟩) (j + 1) cp) (j + 1) (xs ++ [.int .u8 x0, .int .u8 y, .string ⟨#[]⟩, .slice a6 m6 p6])) := hown'
              have HG6 : Hid (GE (G + 3) w2 (.slice (some ⟨g, 0, none⟩) (j + 1) cp) (xs ++ [.int .u8 x0, .int .u8 y, .string ⟨#[]⟩, .slice a6 m6 p6]) ((D.cx.take j).map ansEl ++ [⟨[.int .u8 x0, .int .u8 y, .string ⟨#[]⟩], .tx (ansT s2 T)⟩]) 4) :=
                GE.app (el := ⟨[.int .u8 x0, .int .u8 y, .string ⟨#[]⟩], .tx (ansT s2 T)⟩) (vs := [.slice a6 m6 p6]) HGx.out.1 HGx.out.2.1 HOx.out HGx.out.2.2.1 (fun b hb => Below.heap_alloc wc _ b hb) (by simp) hgrow (hat.imp_right (fun h => by omega))
              obtain ⟨W7, hW7⟩ : ∃ W7, w2.setCell ⟨G + 1 + 1, 5, none⟩ (.slice (some ⟨g, 0, none⟩) (j + 1) cp) = W7 := ⟨_, rfl⟩
              have HI7 : Hid (RgI w G AQ r (.slice (some ⟨g, 0, none⟩) (j + 1) cp) W7) := hW7 ▸ HI6.out.set _
              have HK7 : Hid (∀ b, G + 3 ≤ b → W7.heap[b]? = w2.heap[b]?) := fun b hb => hW7 ▸ Below.heap_setCell _ _ _ _ (show b ≠ G + 1 + 1 by omega)
              have HO7 : Hid (OE (G + 3) W7 (.slice (some ⟨g, 0, none⟩) (j + 1) cp) ((D.cx.take (j + 1)).map ansEl) 4 51 ShC) := by
                have h1 : (D.cx.take (j + 1)).map ansEl = (D.cx.take j).map ansEl ++ [⟨[.int .u8 x0, .int .u8 y, .string ⟨#[]⟩], .tx (ansT s2 T)⟩] := by
                  rw [HEe.out, List.map_append, ← HEy.out]; rfl
                rw [h1]
                refine OE.keep (W := w2) ⟨xs ++ [.int .u8 x0, .int .u8 y, .string ⟨#[]⟩, .slice a6 m6 p6], ?_, HG6.out, fun p hp => ?_⟩ (fun b hb _ => HK7.out b hb)
                · rw [List.length_append, HGx.out.2.1]; exact HO6.out
                · rcases List.mem_append.1 hp with h | h
                  · exact HGx.out.2.2.2 p h
                  · rw [List.mem_singleton.1 h]; exact ⟨_, _, _, _, rfl⟩
              have HA7 : Hid (W7.ownsRow (G + 3) 44 3 (.slice a8 k8 p8) (agrs (D.cx.take (j + 1))).length (agrV (agrs (D.cx.take (j + 1))))) := owns_same HA6.out (fun b e => HK7.out b (HA6.out.lt b e).1)
              clear hgrow hown' hat hlt t0 t1 t2 t3 q5 HO6 HG6 HA6 hb6
              go_wp2_with (rw [hW7])
              go_roundg (n - (j + 1))
              case rel => exact ⟨j + 1, _, by go_num, by omega, HI7.out, HO7.out, HA7.out⟩
              case measure => omega
      · have hjn2 : ¬ (j : Int) < (n : Int) := by omega
        have hjD : D.cx.take j = D.cx := List.take_of_length_le (by rw [HN.out.1]; omega)
        rw [hjD] at HO HA
        have hl1 := HO.out.one
        obtain ⟨a8, p8, h8⟩ := owns_slice HA.out
        obtain ⟨k8, hk8⟩ : ∃ k, (agrs D.cx).length = k := ⟨_, rfl⟩
        rw [hk8] at h8 HA
        subst h8
        have sA := size40' 2 (acC r.called r.calling l)
        have oA := pd_one 2 (acC r.called r.calling l) (ac_one _ _ _ hl1)
        have lA := z33 2 (acC r.called r.calling l)
        have hlo := HI.out.lo
        have hszI := HI.out.size
        obtain ⟨hbI, h6I, h9I, haI, hqI, -⟩ := HI.out
        have HFF : Hid (∀ (e : Ending) (W' : World), e = .returned (.tuple #[.agg (Pd 2 (acC r.called r.calling l)), .slice a8 k8 p8, .int .i64 (mostN r.h r.m), .agg P0, .bool true]) → Below w.heap.size w W' → (∀ b, G + 3 ≤ b → b < wr.heap.size → W'.heap[b]? = wr.heap[b]?) → NegP w r s busy D.cx e W') := fun e W' he hb hk => by
          refine HF.out e W' l _ he ((HO.out.keep hk).low (by omega)) ?_ hb
          rw [hk8]
          exact own_low (owns_same HA.out (fun b e => hk b (HA.out.lt b e).1 (HA.out.lt b e).2)) (by omega)
        have hM := HRV.out.2
        have Y5 : wr.cell? ⟨G + 1, 5, none⟩ = some (.bool r.h) := by rw [cell_of_row wr _ _ _ _ _ haI]; exact HQ.out.2.2.1
        have Y6 : wr.cell? ⟨G + 1, 6, none⟩ = some (.int .u32 r.m) := by rw [cell_of_row wr _ _ _ _ _ haI]; exact HQ.out.2.2.2.1
        clear HF HO HA HI hl1 hjD hk8 HEl HN
        have sL := size40 2 (acC r.called r.calling l)
        generalize Pd 2 (acC r.called r.calling l) = AC at *
        have v6 := setRow_heap wr (w.heap.size + 1 + 1) _ AC 33 _ h6I
        have v9 : (wr.setRow (w.heap.size + 1 + 1) AC).heap[w.heap.size + 1 + 1 + 1]? = some (.cells Z33 33) := (setRow_other _ _ _ _ (by omega)).trans h9I
        have hb5 : Below w.heap.size w (wr.setRow (w.heap.size + 1 + 1) AC) := below_setRow hbI (by omega) _
        have hk5 : ∀ b, G + 3 ≤ b → b < wr.heap.size → (wr.setRow (w.heap.size + 1 + 1) AC).heap[b]? = wr.heap[b]? := fun b h1 h2 => setRow_other _ _ _ _ (by omega)
        obtain ⟨WX, hWX⟩ : ∃ WX, wr.setRow (w.heap.size + 1 + 1) AC = WX := ⟨_, rfl⟩
        rw [hWX] at v6 v9 hb5 hk5
        have x9 := setRow_heap WX (w.heap.size + 1 + 1 + 1) _ P0 33 _ v9
        have x6 : (WX.setRow (w.heap.size + 1 + 1 + 1) P0).heap[w.heap.size + 1 + 1]? = some (.cells AC 33) := (setRow_other _ _ _ _ (by omega)).trans v6
        have hb6 : Below w.heap.size w (WX.setRow (w.heap.size + 1 + 1 + 1) P0) := below_setRow hb5 (by omega) _
        have hk6 : ∀ b, G + 3 ≤ b → b < wr.heap.size → (WX.setRow (w.heap.size + 1 + 1 + 1) P0).heap[b]? = wr.heap[b]? := fun b h1 h2 => (setRow_other _ _ _ _ (by omega)).trans (hk5 b h1 h2)
        obtain ⟨WY, hWY⟩ : ∃ WY, WX.setRow (w.heap.size + 1 + 1 + 1) P0 = WY := ⟨_, rfl⟩
        rw [hWY] at x9 x6 hb6 hk6
        have ld1 := run_loadVar_row (P := Tryd.prog) _ _ _ 33 _ _ _ x6 hu rfl sA
        have ld2 := run_loadVar_row (P := Tryd.prog) _ _ _ 33 _ _ _ x9 hu rfl sz
        have HFG : Hid (∀ mo, mostN r.h r.m = mo → NegP w r s busy D.cx (.returned (.tuple #[.agg AC, .slice a8 k8 p8, .int .i64 mo, .agg P0, .bool true])) WY) := fun mo hmo => HFF.out _ _ (by rw [hmo]) hb6 hk6
        clear HFF x9 x6 hb6 hk6 hb5 hk5 v6 haI hbI
        unfold mostN toldN at HFG
        cases hh : r.h
        · rw [hh] at Y5 HFG
          go_wp2_with (first | (refine wpList_load_row rfl 33 (.tmp 13) rfl (G + 1 + 1) rfl 33 AC (0, 0) _ hqI hu rfl sA ?_) | (refine step_build rfl 33 _ rfl P0 (by simp [Act.eval]; exact hz0) ?_) | (refine wpList_store_row rfl 33 (.tmp 6) (.tmp 127) rfl (w.heap.size + 1 + 1) AC rfl rfl 33 _ h6I sA lA oA ?_; rw [hWX]) | (refine wpList_store_row rfl 33 (.tmp 9) (.tmp 130) rfl (w.heap.size + 1 + 1 + 1) P0 rfl rfl 33 _ v9 sz lz oz ?_; rw [hWY]))
          refine bodyPost_ret (v := .tuple #[.agg AC, .slice a8 k8 p8, .int .i64 16384, .agg P0, .bool true]) (res_five Tryd.results6 (by kernel_rfl) ld1 (by kernel_rfl) (by kernel_rfl) (by kernel_rfl) ld2 (by kernel_rfl)) rfl (HFG.out _ (by simp))
        · rw [hh] at Y5 HFG
          have d0 : r.m = 0 ∨ (0 < r.m ∧ r.m < 16384) ∨ 16384 ≤ r.m := by omega
          rcases d0 with d0 | ⟨d0, d1⟩ | d0
          · rw [d0] at Y6 HFG
            go_wp2_with (first | (refine wpList_load_row rfl 33 (.tmp 13) rfl (G + 1 + 1) rfl 33 AC (0, 0) _ hqI hu rfl sA ?_) | (refine step_build rfl 33 _ rfl P0 (by simp [Act.eval]; exact hz0) ?_) | (refine wpList_store_row rfl 33 (.tmp 6) (.tmp 127) rfl (w.heap.size + 1 + 1) AC rfl rfl 33 _ h6I sA lA oA ?_; rw [hWX]) | (refine wpList_store_row rfl 33 (.tmp 9) (.tmp 130) rfl (w.heap.size + 1 + 1 + 1) P0 rfl rfl 33 _ v9 sz lz oz ?_; rw [hWY]))
            refine bodyPost_ret (v := .tuple #[.agg AC, .slice a8 k8 p8, .int .i64 16384, .agg P0, .bool true]) (res_five Tryd.results6 (by kernel_rfl) ld1 (by kernel_rfl) (by kernel_rfl) (by kernel_rfl) ld2 (by kernel_rfl)) rfl (HFG.out _ (by simp))
          · have e0 : ¬ r.m = 0 := by omega
            have e1 : ¬ 16384 < r.m := by omega
            go_wp2_with (first | (refine wpList_load_row rfl 33 (.tmp 13) rfl (G + 1 + 1) rfl 33 AC (0, 0) _ hqI hu rfl sA ?_) | (refine step_build rfl 33 _ rfl P0 (by simp [Act.eval]; exact hz0) ?_) | (refine wpList_store_row rfl 33 (.tmp 6) (.tmp 127) rfl (w.heap.size + 1 + 1) AC rfl rfl 33 _ h6I sA lA oA ?_; rw [hWX]) | (refine wpList_store_row rfl 33 (.tmp 9) (.tmp 130) rfl (w.heap.size + 1 + 1 + 1) P0 rfl rfl 33 _ v9 sz lz oz ?_; rw [hWY]))
            refine bodyPost_ret (v := .tuple #[.agg AC, .slice a8 k8 p8, .int .i64 r.m, .agg P0, .bool true]) (res_five Tryd.results6 (by kernel_rfl) ld1 (by kernel_rfl) (by kernel_rfl) (by kernel_rfl) ld2 (by kernel_rfl)) rfl (HFG.out _ (by simp [e0]; (try intro hx); omega))
          · have e0 : ¬ r.m = 0 := by omega
            have e1 : ¬ r.m < 16384 := by omega
            go_wp2_with (first | (refine wpList_load_row rfl 33 (.tmp 13) rfl (G + 1 + 1) rfl 33 AC (0, 0) _ hqI hu rfl sA ?_) | (refine step_build rfl 33 _ rfl P0 (by simp [Act.eval]; exact hz0) ?_) | (refine wpList_store_row rfl 33 (.tmp 6) (.tmp 127) rfl (w.heap.size + 1 + 1) AC rfl rfl 33 _ h6I sA lA oA ?_; rw [hWX]) | (refine wpList_store_row rfl 33 (.tmp 9) (.tmp 130) rfl (w.heap.size + 1 + 1 + 1) P0 rfl rfl 33 _ v9 sz lz oz ?_; rw [hWY]))
            refine bodyPost_ret (v := .tuple #[.agg AC, .slice a8 k8 p8, .int .i64 16384, .agg P0, .bool true]) (res_five Tryd.results6 (by kernel_rfl) ld1 (by kernel_rfl) (by kernel_rfl) (by kernel_rfl) ld2 (by kernel_rfl)) rfl (HFG.out _ (by simp [e0]; (try intro hx); omega))

end Go.Proofs.YtnamkcfmbefkfaaDoor
