import Derived.Test.YtnamkcfmbefkfaaDoorNj
/-
  DERIVED. What the program answers a request with.
-/
namespace Go.Proofs.YtnamkcfmbefkfaaDoor
open Go Go.Proofs Go.RowKit

theorem range_row {W : World} {g : Nat} {cs : Array Value} {t : TypeId} {fr : Nat × Nat} (h : W.heap[g]? = some (.cells cs t fr)) : W.rangeAt g 0 cs.toList := fun j v hv => by
  rw [Nat.zero_add, cell_of_row W _ _ _ _ _ h]
  simpa using hv
/-- What stands while contexts are answered. -/
structure NgI (w : World) (PQ : Array Value) (r : RqD) (Y : Array Value) (l : Value) (W : World) : Prop where
  b : Below w.heap.size w W
  e : W.heap[w.heap.size]? = some (.cells PQ 33)
  q : W.heap[w.heap.size + 1 + 1]? = some (.cells (Pd 2 (acC r.called r.calling l)) 33)
  z : W.heap[w.heap.size + 1 + 1 + 1]? = some (.cells Y 33)
theorem NgI.size {w W : World} {PQ Y : Array Value} {r : RqD} {l : Value} (h : NgI w PQ r Y l W) : w.heap.size + 4 ≤ W.heap.size := (Array.getElem?_eq_some_iff.1 h.z).1
theorem NgI.on {w W W' : World} {PQ Y : Array Value} {r : RqD} {l : Value} (h : NgI w PQ r Y l W) (hb : Below (w.heap.size + 4) W W') : NgI w PQ r Y l W' :=
  ⟨h.b.trans (hb.mono (by omega)), (hb.block _ (by omega)).trans h.e, (hb.block _ (by omega)).trans h.q, (hb.block _ (by omega)).trans h.z⟩
theorem NgI.cellq {w W : World} {PQ Y : Array Value} {r : RqD} {l : Value} (h : NgI w PQ r Y l W) : W.cell? ⟨w.heap.size + 1 + 1, 5, none⟩ = some l := by rw [cell_of_row W _ _ _ _ _ h.q]; rfl
theorem NgI.froz {w W : World} {PQ Y : Array Value} {r : RqD} {l : Value} (h : NgI w PQ r Y l W) (i : Nat) : W.frozen? ⟨w.heap.size + 1 + 1, i, none⟩ = false := by simp [World.frozen?, h.q]
theorem NgI.set {w W : World} {PQ Y : Array Value} {r : RqD} {l : Value} (h : NgI w PQ r Y l W) (l' : Value) : NgI w PQ r Y l' (W.setCell ⟨w.heap.size + 1 + 1, 5, none⟩ l') := by
  refine ⟨h.b.setCell (p := ⟨w.heap.size + 1 + 1, 5, none⟩) (by show w.heap.size ≤ w.heap.size + 1 + 1; omega) _, (Below.heap_setCell _ _ _ _ (show w.heap.size ≠ w.heap.size + 1 + 1 by omega)).trans h.e, ?_, (Below.heap_setCell _ _ _ _ (show w.heap.size + 1 + 1 + 1 ≠ w.heap.size + 1 + 1 by omega)).trans h.z⟩
  have h1 : (Pd 2 (acC r.called r.calling l)).setIfInBounds 5 l' = Pd 2 (acC r.called r.calling l') := by rw [pd_up4, ac_up]
  rw [setCell_eq_setRow W _ _ _ _ _ l' h.q, h1]
  exact setRow_heap W _ _ _ _ _ h.q
set_option maxRecDepth 100000 in
set_option maxHeartbeats 8000000 in
theorem negotiate_any (w : World) (k : Int) (c : Fin 18 → Value) (D : PdD) (cv : Value) (a1 a2 : Value) (r : RqD) (s : SvD) (busy : Int) (hR : RqV k c r) (hX : RX w c D) (hT : TR w cv s.T) (hsm : RqSm r s) (hm : 0 ≤ r.m ∧ r.m ≤ 4294967295) :
    Calls Tryd.prog 5 #[.agg (Pd k c), .agg #[.string s.title, cv, .int .i64 s.lines, a1, a2], .int .i64 busy] w (NegP w r s busy D.cx) := by
  obtain ⟨fs, hu⟩ := hu33
  obtain ⟨CF, hCF⟩ : ∃ CF, #[.string s.title, cv, .int .i64 s.lines, a1, a2] = CF := ⟨_, rfl⟩
  obtain ⟨W1, hW1⟩ : ∃ W1, (((w.alloc (.cells (Pd k c) 33)).alloc (.cells CF 36)).alloc (.cells Z33 33)).alloc (.cells Z33 33) = W1 := ⟨_, rfl⟩
  have hb1 : Below w.heap.size w W1 := hW1 ▸ ((((Below.refl _ _).alloc (Nat.le_refl _) _).alloc (by simp) _).alloc (by simp; omega) _).alloc (by simp; omega) _
  have hs1 : W1.heap.size = w.heap.size + 4 := by rw [← hW1]; simp
  have g0 : W1.heap[w.heap.size]? = some (.cells (Pd k c) 33) := by
    rw [← hW1]
    exact (Below.heap_alloc _ _ _ (by simp; omega)).trans ((Below.heap_alloc _ _ _ (by simp; omega)).trans ((Below.heap_alloc _ _ _ (by simp)).trans (alloc_new w _)))
  have g1 : W1.heap[w.heap.size + 1]? = some (.cells CF 36) := by
    rw [← hW1]
    refine (Below.heap_alloc _ _ _ (by simp)).trans ((Below.heap_alloc _ _ _ (by simp)).trans ?_)
    have := alloc_new (w.alloc (.cells (Pd k c) 33)) (.cells CF 36)
    simpa using this
  have g2 : W1.heap[w.heap.size + 1 + 1]? = some (.cells Z33 33) := by
    rw [← hW1]
    refine (Below.heap_alloc _ _ _ (by simp)).trans ?_
    have := alloc_new ((w.alloc (.cells (Pd k c) 33)).alloc (.cells CF 36)) (.cells Z33 33)
    simpa using this
  have g3 : W1.heap[w.heap.size + 1 + 1 + 1]? = some (.cells Z33 33) := by
    rw [← hW1]
    have := alloc_new (((w.alloc (.cells (Pd k c) 33)).alloc (.cells CF 36)).alloc (.cells Z33 33)) (.cells Z33 33)
    simpa using this
  have hrq : RqAt W1 w.heap.size k c r := ⟨g0, hR.vl, hR.k, hR.c0, hR.c1, hR.c2, hR.c3, hR.c5, hR.c6⟩
  have hsv : SvAt W1 (w.heap.size + 1) cv s := ⟨⟨a1, a2, by rw [hCF]; exact g1⟩, hT.on hb1⟩
  have hrj := rejection_any W1 w.heap.size (w.heap.size + 1) k c cv r s busy hrq hsv hsm
  have HRV : Hid (RqV k c r ∧ (0 ≤ r.m ∧ r.m ≤ 4294967295)) := ⟨hR, hm⟩
  have HX : Hid (RX w c D) := hX
  have HG : Hid (Below w.heap.size w W1 ∧ W1.heap.size = w.heap.size + 4 ∧ W1.heap[w.heap.size]? = some (.cells (Pd k c) 33) ∧ W1.heap[w.heap.size + 1 + 1]? = some (.cells Z33 33) ∧ W1.heap[w.heap.size + 1 + 1 + 1]? = some (.cells Z33 33)) := ⟨hb1, hs1, g0, g2, g3⟩
  rw [hCF]
  clear hrq hsv hR hX hT hsm hm hb1 hs1 g0 g1 g2 g3 hCF
  obtain ⟨q5, hq5⟩ : ∃ v, c 4 = v := ⟨_, rfl⟩
  have HQ : Hid ((Pd k c)[5]? = some q5 ∧ (Pd k c)[6]? = some (.bool r.h) ∧ (Pd k c)[7]? = some (.int .u32 r.m) ∧ (Pd k c)[2]? = some (.string r.called) ∧ (Pd k c)[3]? = some (.string r.calling)) := by
    have h := HRV.out.1
    refine ⟨by rw [← hq5]; exact pd_get k c 4, by rw [← h.c5]; exact pd_get k c 5, by rw [← h.c6]; exact pd_get k c 6, by rw [← h.c1]; exact pd_get k c 1, by rw [← h.c2]; exact pd_get k c 2⟩
  have HQ5 : Hid (c 4 = q5) := hq5
  clear hq5
  generalize Pd k c = PQ at *
  have hz33 : Z33.size = 19 := rfl
  cases ho : rejO r s busy with
  | some abc =>
    obtain ⟨ra, rb, rc⟩ := abc
    rw [ho] at hrj
    have hR0 := size40' 3 (rjC ra rb rc)
    have o0 := pd_one 3 (rjC ra rb rc) (rj_one ra rb rc)
    have l0 := z33 3 (rjC ra rb rc)
    have sz := size40' 0 zc
    have oz := pd_one 0 zc (by decide)
    have lz := z33 0 zc
    have hz0 := pd_zero0
    have hszL := size40 3 (rjC ra rb rc)
    have hrj' : Calls Tryd.prog 12 #[.pointer (some ⟨w.heap.size, 0, none⟩), .pointer (some ⟨w.heap.size + 1, 0, none⟩), .int .i64 busy] W1 fun x w' => x = .returned (.tuple #[.agg (Pd 3 (rjC ra rb rc)), .bool true]) ∧ Below W1.heap.size W1 w' := hrj
    have HF : Hid (∀ (e : Ending) (W' : World), e = .returned (.tuple #[.agg (Pd 0 zc), .slice none 0 0, .int .i64 0, .agg (Pd 3 (rjC ra rb rc)), .bool false]) → Below w.heap.size w W' → NegP w r s busy D.cx e W') := fun e W' he hb => by
      refine ⟨.slice none 0 0, .slice none 0 0, ?_, ?_, ?_, hb⟩
      · rw [he, ho]; rfl
      · rw [ho]; exact OE.nil _ _ _ _ _
      · rw [ho]; exact World.ownsRow_nil _ _ _ _
    clear hrj
    generalize Pd 3 (rjC ra rb rc) = RQ at *
    generalize Pd 0 zc = P0 at *
    go_enter Tryd.func5, Tryd.ntmps5
    unfold Z33 at hW1
    go_wp2_with (first | (rw [hW1]) | (go_at_call 12; refine hrj'.mono ?_; refine Fr.Stop.mk ?_))
    rintro xr W2 ⟨rfl, hb2⟩
    have hk2 : ∀ b, b < W1.heap.size → W2.heap[b]? = W1.heap[b]? := fun b hb => hb2.block b hb
    have g2 := (hk2 (w.heap.size + 1 + 1) (by have := HG.out.2.1; omega)).trans HG.out.2.2.2.1
    have g3 := (hk2 (w.heap.size + 1 + 1 + 1) (by have := HG.out.2.1; omega)).trans HG.out.2.2.2.2
    have hbw : Below w.heap.size w W2 := HG.out.1.trans (hb2.mono HG.out.1.size)
    obtain ⟨W3, hW3⟩ : ∃ W3, W2.setRow (w.heap.size + 1 + 1 + 1) RQ = W3 := ⟨_, rfl⟩
    have r3 : W3.heap[w.heap.size + 1 + 1 + 1]? = some (.cells RQ 33) := hW3 ▸ setRow_heap _ _ _ _ _ _ g3
    have r2 : W3.heap[w.heap.size + 1 + 1]? = some (.cells Z33 33) := hW3 ▸ (setRow_other _ _ _ _ (by omega)).trans g2
    have hb3 : Below w.heap.size w W3 := hW3 ▸ below_setRow hbw (by omega) _
    clear hb2 hk2
    go_wp2_with (refine wpList_store_row rfl 33 (.tmp 9) (.tmp 18) rfl (w.heap.size + 1 + 1 + 1) RQ rfl rfl 33 _ g3 hR0 l0 o0 ?_; rw [hW3])
    clear hW3 g2 g3 hbw
    refine wp_region_held_drew (S := fun w' => w'.heap[w.heap.size + 1 + 1 + 1]? = some (.cells RQ 33)) (by kernel_rfl) r3 (fun hHeld => ?_)
    have hb4 : Below w.heap.size w W3.drew := hb3.trans ((Below.refl _ _).drew.mono hb3.size)
    have r2' : W3.drew.heap[w.heap.size + 1 + 1]? = some (.cells Z33 33) := r2
    generalize W3.drew = w1 at hb4 r2' hHeld ⊢
    refine wpAnyH_take (i := 0) (oi := ({ dst := some 21, op := Op.build 33 #[], type := 33, pos := "negotiate.go:42", after := #[], guard := none } : Oper)) (v := .agg P0) rfl (by kernel_rfl) (by kernel_rfl) (by kernel_rfl) (fun _ _ _ h => h) (yld_build (by rfl) 33 _ rfl P0 (by simp [Act.eval]; exact hz0)) hHeld ?_
    try simp only [Act.put, List.setIfInBounds_toArray, List.set_cons_zero, List.set_cons_succ]
    refine wpAnyH_take (i := 1) (oi := ({ dst := some 22, op := Op.load 33 (Operand.tmp 9), type := 33, pos := "negotiate.go:42", after := #[{ on := 4, ground := Ground.gcOnly Departure.lateStores }], guard := none } : Oper)) (v := .agg RQ) rfl (by kernel_rfl) (by kernel_rfl) (by kernel_rfl) (fun _ _ _ h => h) (yieldsIf_load_mid (by rfl) 33 (.tmp 9) rfl (w.heap.size + 1 + 1 + 1) 0 rfl RQ.toList _ (fun w h => range_row h) hu rfl hszL) hHeld ?_
    try simp only [Act.put, List.setIfInBounds_toArray, List.set_cons_zero, List.set_cons_succ]
    refine wpAnyH_ready (rs := [2]) (by kernel_rfl) (by simp) ?_
    refine AllReadyH.cons (o := ({ dst := none, op := Op.store 33 (Operand.tmp 6) (Operand.tmp 21), type := 0, pos := "negotiate.go:42", after := #[{ on := 0, ground := Ground.data }, { on := 0, ground := Ground.phase }, { on := 1, ground := Ground.textOnly Departure.lateStores }], guard := none } : Oper)) rfl (fun K hK => ?_) AllReadyH.nil
    rw [if_pos (by rfl)]
    refine wp_store_row 33 (.tmp 6) (.tmp 21) rfl (w.heap.size + 1 + 1) P0 rfl rfl 33 _ r2' sz lz oz ?_
    have k3 : (w1.setRow (w.heap.size + 1 + 1) P0).heap[w.heap.size + 1 + 1 + 1]? = some (.cells RQ 33) := (setRow_other _ _ _ _ (by omega)).trans hHeld
    have k2 := setRow_heap w1 (w.heap.size + 1 + 1) _ P0 33 _ r2'
    have hb5 : Below w.heap.size w (w1.setRow (w.heap.size + 1 + 1) P0) := below_setRow hb4 (by omega) _
    refine hK.out _ _ k3 (fun hHeld => ?_)
    clear hK K
    try simp only [Act.put]
    generalize w1.setRow (w.heap.size + 1 + 1) P0 = w2 at k3 k2 hb5 hHeld ⊢
    refine wpAnyH_take (i := 3) (oi := ({ dst := some 7, op := Op.assign (Operand.const (Value.slice none 0 0)), type := 38, pos := "negotiate.go:42", after := #[{ on := 2, ground := Ground.chain }, { on := 0, ground := Ground.phase }, { on := 1, ground := Ground.textOnly Departure.lateStores }, { on := 2, ground := Ground.phase }], guard := none } : Oper)) (v := .slice none 0 0) rfl (by kernel_rfl) (by kernel_rfl) (by kernel_rfl) (fun _ _ _ h => h) (Or.inl ⟨by rfl, fun w _ => by go_simp⟩) hHeld ?_
    try simp only [Act.put, List.setIfInBounds_toArray, List.set_cons_zero, List.set_cons_succ]
    refine wpAnyH_take (i := 4) (oi := ({ dst := some 8, op := Op.assign (Operand.const (Value.int IntKind.i64 0)), type := 3, pos := "negotiate.go:42", after := #[{ on := 3, ground := Ground.chain }, { on := 0, ground := Ground.phase }, { on := 1, ground := Ground.textOnly Departure.lateStores }, { on := 2, ground := Ground.phase }, { on := 3, ground := Ground.phase }], guard := none } : Oper)) (v := .int .i64 0) rfl (by kernel_rfl) (by kernel_rfl) (by kernel_rfl) (fun _ _ _ h => h) (Or.inl ⟨by rfl, fun w _ => by go_simp⟩) hHeld ?_
    try simp only [Act.put, List.setIfInBounds_toArray, List.set_cons_zero, List.set_cons_succ]
    refine wpAnyH_ready (rs := [5]) (by kernel_rfl) (by simp) ?_
    refine AllReadyH.cons (o := ({ dst := none, op := Op.store 33 (Operand.tmp 9) (Operand.tmp 22), type := 0, pos := "negotiate.go:42", after := #[{ on := 1, ground := Ground.data }, { on := 4, ground := Ground.chain }, { on := 0, ground := Ground.phase }, { on := 1, ground := Ground.phase }, { on := 2, ground := Ground.phase }, { on := 3, ground := Ground.phase }, { on := 4, ground := Ground.phase }], guard := none } : Oper)) rfl (fun K hK => ?_) AllReadyH.nil
    rw [if_pos (by rfl)]
    refine wp_store_row 33 (.tmp 9) (.tmp 22) rfl (w.heap.size + 1 + 1 + 1) RQ rfl rfl 33 _ k3 hR0 rfl o0 ?_
    have m3 := setRow_heap w2 (w.heap.size + 1 + 1 + 1) _ RQ 33 _ k3
    have m2 : (w2.setRow (w.heap.size + 1 + 1 + 1) RQ).heap[w.heap.size + 1 + 1]? = some (.cells P0 33) := (setRow_other _ _ _ _ (by omega)).trans k2
    have hb6 : Below w.heap.size w (w2.setRow (w.heap.size + 1 + 1 + 1) RQ) := below_setRow hb5 (by omega) _
    refine hK.out _ _ m3 (fun hHeld => ?_)
    clear hK K
    try simp only [Act.put]
    generalize w2.setRow (w.heap.size + 1 + 1 + 1) RQ = w3 at m3 m2 hb6 hHeld ⊢
    refine wpAnyH_take (i := 6) (oi := ({ dst := some 10, op := Op.assign (Operand.const (Value.bool false)), type := 4, pos := "negotiate.go:42", after := #[{ on := 5, ground := Ground.chain }, { on := 0, ground := Ground.phase }, { on := 1, ground := Ground.phase }, { on := 2, ground := Ground.phase }, { on := 3, ground := Ground.phase }, { on := 4, ground := Ground.phase }, { on := 5, ground := Ground.phase }], guard := none } : Oper)) (v := .bool false) rfl (by kernel_rfl) (by kernel_rfl) (by kernel_rfl) (fun _ _ _ h => h) (Or.inl ⟨by rfl, fun w _ => by go_simp⟩) hHeld ?_
    try simp only [Act.put, List.setIfInBounds_toArray, List.set_cons_zero, List.set_cons_succ]
    refine wpAnyH_done (by kernel_rfl) ?_ _
    have ld1 := run_loadVar_row (P := Tryd.prog) _ _ _ 33 _ _ _ m2 hu rfl sz
    have ld2 := run_loadVar_row (P := Tryd.prog) _ _ _ 33 _ _ _ m3 hu rfl hR0
    go_wp2
    refine bodyPost_ret (v := .tuple #[.agg P0, .slice none 0 0, .int .i64 0, .agg RQ, .bool false]) (res_five Tryd.results5 (by kernel_rfl) ld1 (by kernel_rfl) (by kernel_rfl) (by kernel_rfl) ld2 (by kernel_rfl)) rfl (HF.out _ _ rfl hb6)
  | none =>
    have hrj' : Calls Tryd.prog 12 #[.pointer (some ⟨w.heap.size, 0, none⟩), .pointer (some ⟨w.heap.size + 1, 0, none⟩), .int .i64 busy] W1 fun x w' => x = .returned (.tuple #[.agg (Pd 0 zc), .bool false]) ∧ Below W1.heap.size W1 w' := by
      rw [ho] at hrj
      exact hrj
    have sz := size40' 0 zc
    have oz := pd_one 0 zc (by decide)
    have lz := z33 0 zc
    have hz0 := pd_zero0
    have HF : Hid (∀ (e : Ending) (W' : World) (l lv : Value), e = .returned (.tuple #[.agg (Pd 2 (acC r.called r.calling l)), lv, .int .i64 (mostN r.h r.m), .agg (Pd 0 zc), .bool true]) → OE w.heap.size W' l (D.cx.map ansEl) 4 51 ShC → W'.ownsRow w.heap.size 44 3 lv (agrs D.cx).length (agrV (agrs D.cx)) → Below w.heap.size w W' → NegP w r s busy D.cx e W') := fun e W' l lv he h1 h2 hb => by
      refine ⟨l, lv, ?_, ?_, ?_, hb⟩
      · rw [he, ho]; rfl
      · rw [ho]; exact h1
      · rw [ho]; exact h2
    clear hrj ho
    generalize Pd 0 zc = P0 at *
    obtain ⟨⟨-, ao, cap, hc4, hsh, hel⟩, hfit⟩ := HX.out.ctx
    obtain ⟨n, hnl⟩ : ∃ n, D.cx.length = n := ⟨_, rfl⟩
    have HN : Hid (D.cx.length = n ∧ (∀ p ∈ D.cx, ShC p)) := ⟨hnl, hsh⟩
    have HEl : Hid (0 < D.cx.length → ∃ b off, ao = some ⟨b, off, none⟩ ∧ ∀ k (h : k < D.cx.length), ∃ vs, (∀ j u, (D.cx[k].fl ++ vs)[j]? = some u → w.cell? ⟨b, off + k * 4 + j, none⟩ = some u) ∧ InnR w D.cx[k].inn vs) := hel
    rw [hnl] at hc4 hfit
    have hn : n ≤ 2932031007384 := by unfold Fits at hfit; omega
    obtain rfl : q5 = .slice ao n cap := HQ5.out.symm.trans hc4
    clear hel hfit hsh hnl hc4 HQ5
    go_enter Tryd.func5, Tryd.ntmps5
    unfold Z33 at hW1
    go_wp2_with (first | (rw [hW1]) | (go_at_call 12; refine hrj'.mono ?_; refine Fr.Stop.mk ?_))
    rintro xr W2 ⟨rfl, hb2⟩
    have hk2 : ∀ b, b < W1.heap.size → W2.heap[b]? = W1.heap[b]? := fun b hb => hb2.block b hb
    have g0 := (hk2 w.heap.size (by have := HG.out.2.1; omega)).trans HG.out.2.2.1
    have g2 := (hk2 (w.heap.size + 1 + 1) (by have := HG.out.2.1; omega)).trans HG.out.2.2.2.1
    have g3 := (hk2 (w.heap.size + 1 + 1 + 1) (by have := HG.out.2.1; omega)).trans HG.out.2.2.2.2
    have hbw : Below w.heap.size w W2 := HG.out.1.trans (hb2.mono HG.out.1.size)
    obtain ⟨W3, hW3⟩ : ∃ W3, W2.setRow (w.heap.size + 1 + 1 + 1) P0 = W3 := ⟨_, rfl⟩
    have r3 : W3.heap[w.heap.size + 1 + 1 + 1]? = some (.cells P0 33) := hW3 ▸ setRow_heap _ _ _ _ _ _ g3
    have r2 : W3.heap[w.heap.size + 1 + 1]? = some (.cells Z33 33) := hW3 ▸ (setRow_other _ _ _ _ (by omega)).trans g2
    have r0 : W3.heap[w.heap.size]? = some (.cells PQ 33) := hW3 ▸ (setRow_other _ _ _ _ (by omega)).trans g0
    have hb3 : Below w.heap.size w W3 := hW3 ▸ below_setRow hbw (by omega) _
    have hac := accept_any W3 w.heap.size 1 r.called r.calling (by rw [cell_of_row W3 _ _ _ _ _ r0]; exact HQ.out.2.2.2.1) (by rw [cell_of_row W3 _ _ _ _ _ r0]; exact HQ.out.2.2.2.2)
    clear hb2 hk2 g0 g2 hbw
    go_wp2_with (first | (refine wpList_store_row rfl 33 (.tmp 9) (.tmp 18) rfl (w.heap.size + 1 + 1 + 1) P0 rfl rfl 33 _ g3 sz lz oz ?_; rw [hW3]) | (go_at_call 13; refine hac.mono ?_; refine Fr.Stop.mk ?_))
    rintro xa W4 ⟨rfl, hb4⟩
    clear hW3 g3 hac
    have s3 := (hb4.block (w.heap.size + 1 + 1 + 1) (Array.getElem?_eq_some_iff.1 r3).1).trans r3
    have s2 := (hb4.block (w.heap.size + 1 + 1) (Array.getElem?_eq_some_iff.1 r2).1).trans r2
    have s0 := (hb4.block w.heap.size (Array.getElem?_eq_some_iff.1 r0).1).trans r0
    have hbw4 : Below w.heap.size w W4 := hb3.trans (hb4.mono hb3.size)
    have sA := size40' 2 (acC r.called r.calling (.slice none 0 0))
    have oA := pd_one 2 (acC r.called r.calling (.slice none 0 0)) (ac_one _ _ _ rfl)
    have lA := z33 2 (acC r.called r.calling (.slice none 0 0))
    obtain ⟨W5, hW5⟩ : ∃ W5, W4.setRow (w.heap.size + 1 + 1) (Pd 2 (acC r.called r.calling (.slice none 0 0))) = W5 := ⟨_, rfl⟩
    have HI0 : Hid (NgI w PQ r P0 (.slice none 0 0) W5) := ⟨hW5 ▸ below_setRow hbw4 (by omega) _, hW5 ▸ (setRow_other _ _ _ _ (by omega)).trans s0, hW5 ▸ setRow_heap _ _ _ _ _ _ s2, hW5 ▸ (setRow_other _ _ _ _ (by omega)).trans s3⟩
    have y5 : W5.cell? ⟨w.heap.size, 5, none⟩ = some (.slice ao n cap) := by rw [cell_of_row W5 _ _ _ _ _ HI0.out.e]; exact HQ.out.1
    clear r0 r2 r3 s0 s3 hb3 hb4 hbw4
    generalize Pd 2 (acC r.called r.calling (.slice none 0 0)) = A0 at hW5 sA oA lA ⊢
    go_wp2_with (refine wpList_store_row rfl 33 (.tmp 6) (.tmp 25) rfl (w.heap.size + 1 + 1) A0 rfl rfl 33 _ s2 sA lA oA ?_; rw [hW5])
    clear hW5 s2 sA oA lA y5 hW1 hrj' HG
    go_loopg [7, 31] n (fun g s7 s31 wx => ∃ (j : Nat) (l : Value), s31 = .int .i64 (j : Int) ∧ g + j = n ∧ Hid (NgI w PQ r P0 l wx) ∧ Hid (OE (w.heap.size + 4) wx l ((D.cx.take j).map ansEl) 4 51 ShC) ∧ Hid (wx.ownsRow (w.heap.size + 4) 44 3 s7 (agrs (D.cx.take j)).length (agrV (agrs (D.cx.take j)))))
    case atStart => exact ⟨0, .slice none 0 0, rfl, by omega, HI0.out, OE.nil _ _ _ _ _, World.ownsRow_nil _ _ _ _⟩
    case round =>
      clear HI0
      obtain ⟨j, l, rfl, hgj, HI, HO, HA⟩ := hrel
      have y5 : wr.cell? ⟨w.heap.size, 5, none⟩ = some (.slice ao n cap) := by rw [cell_of_row wr _ _ _ _ _ HI.out.e]; exact HQ.out.1
      by_cases hjn : j < n
      · have hjn2 : (j : Int) < (n : Int) := by omega
        have hjx : j < D.cx.length := by rw [HN.out.1]; exact hjn
        obtain ⟨b, off, rfl, hE⟩ := HEl.out (by omega)
        obtain ⟨vs, hE1, hE2⟩ := hE j hjx
        obtain ⟨x0, x1, s2, T, he⟩ := HN.out.2 D.cx[j] (List.getElem_mem hjx)
        rw [he] at hE1 hE2
        obtain ⟨v3, rfl, hTR⟩ := hE2
        have HEe : Hid (D.cx.take (j + 1) = D.cx.take j ++ [⟨[.int .u8 x0, .int .u8 x1, .string s2], .tx T⟩]) := by
          show D.cx.take (j + 1) = _
          rw [List.take_succ_eq_append_getElem hjx, he]
        have hbw := HI.out.b
        have E0 : wr.cell? ⟨b, off + j * 4, none⟩ = some (.int .u8 x0) := (hbw.cell (cell_lt (hE1 0 _ rfl))).trans (hE1 0 _ rfl)
        have E2 : wr.cell? ⟨b, off + j * 4 + 2, none⟩ = some (.string s2) := (hbw.cell (cell_lt (hE1 2 _ rfl))).trans (hE1 2 _ rfl)
        have E3 : wr.cell? ⟨b, off + j * 4 + 3, none⟩ = some v3 := (hbw.cell (cell_lt (hE1 3 _ rfl))).trans (hE1 3 _ rfl)
        have hca := answer_any wr b (off + j * 4) x0 s2 v3 T E0 E2 E3 (hTR.on hbw)
        have HLj : Hid ((D.cx.take j).length = j) := by show _ = _; rw [List.length_take]; omega
        clear hE hE1 hTR hbw he hjx E0 E2 E3
        go_wp2_with (go_at_call 14; refine hca.mono ?_; refine Fr.Stop.mk ?_)
        rintro xa W2 ⟨sv, rfl, hsv, hb2⟩
        clear hca
        obtain ⟨a6, p6, hsve⟩ := owns_slice hsv
        obtain ⟨cx, cs, cn, hC, hcase⟩ := ans_form x0 (.int .u8 x1) s2 T
        obtain ⟨y, hy⟩ : ∃ y, ansR s2 T = y := ⟨_, rfl⟩
        obtain ⟨m6, hm6⟩ : ∃ m, (ansT s2 T).length = m := ⟨_, rfl⟩
        have HEn : Hid (ansEl ⟨[.int .u8 x0, .int .u8 x1, .string s2], .tx T⟩ = ⟨[.int .u8 x0, .int .u8 y, .string ⟨#[]⟩], .tx (ansT s2 T)⟩) := by
          rw [← hy]; rfl
        rw [hm6] at hsve
        have HSV : Hid (W2.ownsRow wr.heap.size 9 1 sv (ansT s2 T).length (txs (ansT s2 T))) := hsv
        rw [hC, hy]
        rw [hy] at hcase
        clear hC hy hsv
        subst hsve
        have hwz := HI.out.size
        have sA := sz51 x0 y ⟨#[]⟩ (.slice a6 m6 p6)
        have sC := sz44 cx cs cn
        have oA := pc_one x0 y ⟨#[]⟩ (.slice a6 m6 p6) rfl
        have oC := ctx_one cx cs cn
        have lA : (pcC 0 0 ⟨#[]⟩ (.slice none 0 0)).size = (pcC x0 y ⟨#[]⟩ (.slice a6 m6 p6)).size := rfl
        have lC : (ctxC 0 ⟨#[]⟩ 0).size = (ctxC cx cs cn).size := rfl
        obtain ⟨W3, hW3⟩ : ∃ W3, (W2.alloc (.cells #[.int .u8 0, .int .u8 0, .string ⟨#[]⟩, .slice none 0 0] 51)).alloc (.cells #[.int .u8 0, .string ⟨#[]⟩, .int .i64 0] 44) = W3 := ⟨_, rfl⟩
        obtain ⟨-, n1, n2, ns⟩ := two_new W2 (.cells #[.int .u8 0, .int .u8 0, .string ⟨#[]⟩, .slice none 0 0] 51) (.cells #[.int .u8 0, .string ⟨#[]⟩, .int .i64 0] 44)
        have hb3 : Below wr.heap.size wr W3 := hW3 ▸ (hb2.alloc hb2.size _).alloc (by have := hb2.size; simp; omega) _
        have HK3 : Hid (∀ b, b < W2.heap.size → W3.heap[b]? = W2.heap[b]?) := fun b hb => by
          rw [← hW3]
          exact (Below.heap_alloc _ _ _ (by simp; omega)).trans (Below.heap_alloc _ _ _ hb)
        rw [hW3] at n1 n2 ns
        obtain ⟨g5, hg5⟩ : ∃ g, W2.heap.size = g := ⟨_, rfl⟩
        have hg5w : wr.heap.size ≤ g5 := hg5 ▸ hb2.size
        have n1' : W3.heap[g5]? = some (.cells (pcC 0 0 ⟨#[]⟩ (.slice none 0 0)) 51) := hg5 ▸ n1
        have n2' : W3.heap[g5 + 1]? = some (.cells (ctxC 0 ⟨#[]⟩ 0) 44) := hg5 ▸ n2
        obtain ⟨k2, -, -⟩ := two_rows W3 g5 _ (pcC x0 y ⟨#[]⟩ (.slice a6 m6 p6)) _ (ctxC cx cs cn) n1' n2' sA sC
        obtain ⟨W4, hW4⟩ : ∃ W4, (W3.setRow g5 (pcC x0 y ⟨#[]⟩ (.slice a6 m6 p6))).setRow (g5 + 1) (ctxC cx cs cn) = W4 := ⟨_, rfl⟩
        have v1 : W4.heap[g5]? = some (.cells (pcC x0 y ⟨#[]⟩ (.slice a6 m6 p6)) 51) := hW4 ▸ (setRow_other _ _ _ _ (by omega)).trans (setRow_heap _ _ _ _ _ _ n1')
        have v2 : W4.heap[g5 + 1]? = some (.cells (ctxC cx cs cn) 44) := hW4 ▸ setRow_heap _ _ _ _ _ _ k2
        have hb4 : Below wr.heap.size wr W4 := hW4 ▸ below_setRow (below_setRow hb3 hg5w _) (by omega) _
        have hs4 : W4.heap.size = g5 + 2 := by rw [← hW4]; unfold World.setRow; simp [ns, hg5]
        have HK4 : Hid (∀ b, b < g5 → W4.heap[b]? = W2.heap[b]?) := fun b hb => by
          rw [← hW4]
          exact (setRow_other _ _ _ _ (by omega)).trans ((setRow_other _ _ _ _ (by omega)).trans (HK3.out b (by omega)))
        have H4 : Hid (Below wr.heap.size wr W4 ∧ W4.heap.size = g5 + 2 ∧ wr.heap.size ≤ g5 ∧ W2.heap.size = g5 ∧ W4.heap[g5]? = some (.cells (pcC x0 y ⟨#[]⟩ (.slice a6 m6 p6)) 51) ∧ W4.heap[g5 + 1]? = some (.cells (ctxC cx cs cn) 44)) := ⟨hb4, hs4, hg5w, hg5, v1, v2⟩
        clear n1 n2 hb3 HK3 ns hb4 hs4 hg5w v1 v2 hb2
        generalize hAA : pcC x0 y ⟨#[]⟩ (.slice a6 m6 p6) = AA at sA oA lA k2 hW4 ⊢
        generalize hCC : ctxC cx cs cn = CC at sC oC lC hW4 ⊢
        have HAC : Hid (pcC x0 y ⟨#[]⟩ (.slice a6 m6 p6) = AA ∧ ctxC cx cs cn = CC) := ⟨hAA, hCC⟩
        clear hAA hCC y5
        go_wp2_with (first | (rw [hW3]; rw [hg5]) | (refine wpList_store_row rfl 51 (.tmp 13) (.tmp 42) rfl g5 AA rfl rfl 51 _ n1' sA lA oA ?_) | (refine wpList_store_row rfl 44 (.tmp 14) (.tmp 43) rfl (g5 + 1) CC rfl rfl 44 _ k2 sC lC oC ?_; rw [hW4]; refine Fr.Stop.mk ?_))
        refine Fr.Stop.out ?_
        obtain ⟨hAA, hCC⟩ := HAC.out
        subst hAA hCC
        clear HAC sA oA lA k2 sC oC lC hW4 hW3 n1' n2' hg5
        obtain ⟨xs, hO1, hO2, hO3⟩ := HO.out
        have hlen : ((D.cx.take j).map ansEl).length = j := by rw [List.length_map]; exact HLj.out
        rw [hlen] at hO1
        have HI4 : Hid (NgI w PQ r P0 l W4) := HI.out.on (H4.out.1.mono hwz)
        have q5 : W4.cell? ⟨w.heap.size + 1 + 1, 5, none⟩ = some l := HI4.out.cellq
        have t0 : W4.cell? ⟨g5, 0, none⟩ = some (.int .u8 x0) := by rw [cell_of_row W4 _ _ _ _ _ H4.out.2.2.2.2.1]; rfl
        have t1 : W4.cell? ⟨g5, 1, none⟩ = some (.int .u8 y) := by rw [cell_of_row W4 _ _ _ _ _ H4.out.2.2.2.2.1]; rfl
        have t2 : W4.cell? ⟨g5, 2, none⟩ = some (.string ⟨#[]⟩) := by rw [cell_of_row W4 _ _ _ _ _ H4.out.2.2.2.2.1]; rfl
        have t3 : W4.cell? ⟨g5, 3, none⟩ = some (.slice a6 m6 p6) := by rw [cell_of_row W4 _ _ _ _ _ H4.out.2.2.2.2.1]; rfl
        have HA4 : Hid (W4.ownsRow (w.heap.size + 4) 44 3 _ (agrs (D.cx.take j)).length (agrV (agrs (D.cx.take j)))) := owns_next HA.out H4.out.1
        obtain ⟨k8, hk8⟩ : ∃ k, (agrs (D.cx.take j)).length = k := ⟨_, rfl⟩
        have hk8j : k8 ≤ j := by
          have h1 := agrs_len (D.cx.take j)
          have h2 := HLj.out
          omega
        rw [hk8] at HA4
        have HK8 : Hid ((agrs (D.cx.take j)).length = k8) := hk8
        obtain ⟨a8, p8, h8⟩ := owns_slice HA4.out
        subst h8
        obtain ⟨a7, p7, h7⟩ := owns_slice hO1
        subst h7
        have HO1 : Hid (wr.ownsRow (w.heap.size + 4) 51 4 (.slice a7 j p7) j xs) := hO1
        have HO4 : Hid (W4.ownsRow (w.heap.size + 4) 51 4 (.slice a7 j p7) j xs) := owns_next hO1 H4.out.1
        have HG4 : Hid (GE (w.heap.size + 4) W4 (.slice a7 j p7) xs ((D.cx.take j).map ansEl) 4 ∧ ((D.cx.take j).map ansEl).length = j ∧ InnO (w.heap.size + 4) W4 (.slice a7 j p7) (.tx (ansT s2 T)) [.slice a6 m6 p6] ∧ (∀ p ∈ (D.cx.take j).map ansEl, ShC p)) := by
          refine ⟨hO2.move (fun b hb1 hb2 hb3 => ⟨H4.out.1.block b hb2, hb3⟩), hlen, ?_, hO3⟩
          refine inno_tx (base := wr.heap.size) (owns_same HSV.out (fun b e => HK4.out b ?_)) ?_ (fun b e => (hO1.lt b e).2) hwz
          · have := (HSV.out.lt b e).2
            have := H4.out.2.2.2.1
            omega
          · have := ansT_len s2 T
            omega
        have hs4 : w.heap.size + 4 ≤ W4.heap.size := HI4.out.size
        obtain ⟨iC, hiC, hC0, hC1, hC2⟩ := info_parts infoCtx
        clear hk8 hlen hO1 hO2 hO3 HO HA HI
        go_wp2_with (at_builtin; refine wpList_append_lies _ rfl (.tmp 46) (.tmp 48) 23 rfl (w.heap.size + 4) 51 iC _ 4 48 Tryd.underlying23 hiC hC0 hC1 hC2 rfl (by decide) (.slice a7 j p7) j xs rfl (HO4.out.alloc _) ⟨W4.heap.size, 0, none⟩ 1 1 [.int .u8 x0, .int .u8 y, .string ⟨#[]⟩, .slice a6 m6 p6] rfl rfl ?_ ?_ (by decide) ?_ ?_ ?_ _ rfl ?_)
        · exact World.news_of_block (alloc_new _ _)
        · intro u hu; simp at hu; rcases hu with rfl | rfl | rfl | rfl <;> rfl
        · unfold maxLen; omega
        · omega
        · simp; omega
        · intro g cp w2 hown' hgrow hat hlt
          have hb6 : Below (w.heap.size + 4) W4 w2 := ((Below.refl _ _).alloc hs4 _).grown hgrow (by simp; omega) (fun j hj => (HO4.out.lt j hj).1)
          have HI6 : Hid (NgI w PQ r P0 (.slice a7 j p7) w2) := HI4.out.on hb6
          have q5b : w2.cell? ⟨w.heap.size + 1 + 1, 5, none⟩ = some (.slice a7 j p7) := HI6.out.cellq
          have q5f := HI6.out.froz
          have HK6 : Hid (∀ b, wr.heap.size ≤ b → b < W4.heap.size → w2.heap[b]? = W4.heap[b]?) := fun b h1 h2 => (hgrow.block b (by simp; omega) (fun h => by have := (HO1.out.lt b h.symm).2; omega)).trans (Below.heap_alloc W4 _ b h2)
          have HA6 : Hid (w2.ownsRow (w.heap.size + 4) 44 3 (.slice a8 k8 p8) k8 (agrV (agrs (D.cx.take j)))) := owns_same HA4.out (fun b e => by
            obtain ⟨_, h2, cur, fr, hc⟩ := own_ty HA4.out e
            have h3 := Below.heap_alloc W4 (.cells #[.int .u8 x0, .int .u8 y, .string ⟨#[]⟩, .slice a6 m6 p6] 51) b h2
            exact (grown_far (HO4.out.alloc _) hgrow b cur 44 fr (by decide) (h3.trans hc)).trans h3)
          have HO6 : Hid (w2.ownsRow (w.heap.size + 4) 51 4 (.slice (some ⟨g, 0, none⟩) (j + 1) cp) (j + 1) (xs ++ [.int .u8 x0, .int .u8 y, .string ⟨#[]⟩, .slice a6 m6 p6])) := hown'
          have HG6 : Hid (GE (w.heap.size + 4) w2 (.slice (some ⟨g, 0, none⟩) (j + 1) cp) (xs ++ [.int .u8 x0, .int .u8 y, .string ⟨#[]⟩, .slice a6 m6 p6]) ((D.cx.take j).map ansEl ++ [⟨[.int .u8 x0, .int .u8 y, .string ⟨#[]⟩], .tx (ansT s2 T)⟩]) 4) :=
            GE.app (el := ⟨[.int .u8 x0, .int .u8 y, .string ⟨#[]⟩], .tx (ansT s2 T)⟩) (vs := [.slice a6 m6 p6]) HG4.out.1 HG4.out.2.1 HO4.out HG4.out.2.2.1 (fun b hb => Below.heap_alloc W4 _ b hb) (by simp) hgrow (hat.imp_right (fun h => by omega))
          obtain ⟨W7, hW7⟩ : ∃ W7, w2.setCell ⟨w.heap.size + 1 + 1, 5, none⟩ (.slice (some ⟨g, 0, none⟩) (j + 1) cp) = W7 := ⟨_, rfl⟩
          have HI7 : Hid (NgI w PQ r P0 (.slice (some ⟨g, 0, none⟩) (j + 1) cp) W7) := hW7 ▸ HI6.out.set _
          have HK7 : Hid (∀ b, w.heap.size + 4 ≤ b → W7.heap[b]? = w2.heap[b]?) := fun b hb => hW7 ▸ Below.heap_setCell _ _ _ _ (show b ≠ w.heap.size + 1 + 1 by omega)
          have hz4 := H4.out.2.1
          have hz5 := H4.out.2.2.1
          have r1 : W7.heap[g5]? = some (.cells (pcC x0 y ⟨#[]⟩ (.slice a6 m6 p6)) 51) := (HK7.out _ (by omega)).trans ((HK6.out _ (by omega) (by omega)).trans H4.out.2.2.2.2.1)
          have r2 : W7.heap[g5 + 1]? = some (.cells (ctxC cx cs cn) 44) := (HK7.out _ (by omega)).trans ((HK6.out _ (by omega) (by omega)).trans H4.out.2.2.2.2.2)
          have T1 : W7.cell? ⟨g5, 1, none⟩ = some (.int .u8 y) := by rw [cell_of_row W7 _ _ _ _ _ r1]; rfl
          have U0 : W7.cell? ⟨g5 + 1, 0, none⟩ = some (.int .u8 cx) := by rw [cell_of_row W7 _ _ _ _ _ r2]; rfl
          have U1 : W7.cell? ⟨g5 + 1, 1, none⟩ = some (.string cs) := by rw [cell_of_row W7 _ _ _ _ _ r2]; rfl
          have U2 : W7.cell? ⟨g5 + 1, 2, none⟩ = some (.int .i64 cn) := by rw [cell_of_row W7 _ _ _ _ _ r2]; rfl
          have HO7 : Hid (OE (w.heap.size + 4) W7 (.slice (some ⟨g, 0, none⟩) (j + 1) cp) ((D.cx.take (j + 1)).map ansEl) 4 51 ShC) := by
            have h1 : (D.cx.take (j + 1)).map ansEl = (D.cx.take j).map ansEl ++ [⟨[.int .u8 x0, .int .u8 y, .string ⟨#[]⟩], .tx (ansT s2 T)⟩] := by
              rw [HEe.out, List.map_append, ← HEn.out]; rfl
            rw [h1]
            refine OE.keep (W := w2) ⟨xs ++ [.int .u8 x0, .int .u8 y, .string ⟨#[]⟩, .slice a6 m6 p6], ?_, HG6.out, fun p hp => ?_⟩ (fun b hb _ => HK7.out b hb)
            · rw [List.length_append, HG4.out.2.1]; exact HO6.out
            · rcases List.mem_append.1 hp with h | h
              · exact HG4.out.2.2.2 p h
              · rw [List.mem_singleton.1 h]; exact ⟨_, _, _, _, rfl⟩
          have HA7 : Hid (W7.ownsRow (w.heap.size + 4) 44 3 (.slice a8 k8 p8) k8 (agrV (agrs (D.cx.take j)))) := owns_same HA6.out (fun b e => HK7.out b (HA6.out.lt b e).1)
          have HAE : Hid (agrs (D.cx.take (j + 1)) = agrs (D.cx.take j) ++ agrEl ⟨[.int .u8 x0, .int .u8 x1, .string s2], .tx T⟩) := by
            show _ = _
            rw [HEe.out, agrs_snoc]
          clear hgrow hown' hat hlt t0 t1 t2 t3 q5 HO6 HG6 HA6 r1 r2 HA4 HO4 HO1 hb6
          rcases hcase with ⟨rfl, hag⟩ | ⟨hy0, hag⟩
          · have HAG : Hid (agrs (D.cx.take (j + 1)) = agrs (D.cx.take j) ++ [(cx, cs, cn)]) := by rw [hag] at HAE; exact HAE
            clear HAE hag
            obtain ⟨iX, hiX, hX0, hX1, hX2⟩ := info_parts infoCon
            have hs7 : w.heap.size + 4 ≤ W7.heap.size := HI7.out.size
            go_wp2_with (first | (rw [hW7]) | (at_builtin; refine wpList_append_lies _ rfl (.tmp 55) (.tmp 57) 38 rfl (w.heap.size + 4) 44 iX _ 3 32 Tryd.underlying38 hiX hX0 hX1 hX2 rfl (by decide) (.slice a8 k8 p8) k8 (agrV (agrs (D.cx.take j))) rfl (HA7.out.alloc _) ⟨W7.heap.size, 0, none⟩ 1 1 [.int .u8 cx, .string cs, .int .i64 cn] rfl rfl ?_ ?_ (by decide) ?_ ?_ ?_ _ rfl ?_))
            · exact World.news_of_block (alloc_new _ _)
            · intro u hu; simp at hu; rcases hu with rfl | rfl | rfl <;> rfl
            · unfold maxLen; omega
            · omega
            · simp; omega
            · intro g9 cp9 w9 hown9 hgrow9 hat9 hlt9
              have hb9 : Below (w.heap.size + 4) W7 w9 := ((Below.refl _ _).alloc hs7 _).grown hgrow9 (by simp; omega) (fun j hj => (HA7.out.lt j hj).1)
              have HI9 : Hid (NgI w PQ r P0 (.slice (some ⟨g, 0, none⟩) (j + 1) cp) w9) := HI7.out.on hb9
              have HO9 : Hid (OE (w.heap.size + 4) w9 (.slice (some ⟨g, 0, none⟩) (j + 1) cp) ((D.cx.take (j + 1)).map ansEl) 4 51 ShC) := HO7.out.far (fun b cur e fr he hb => by
                have h3 := Below.heap_alloc W7 (.cells #[.int .u8 cx, .string cs, .int .i64 cn] 44) b (Array.getElem?_eq_some_iff.1 hb).1
                exact (grown_far (HA7.out.alloc _) hgrow9 b cur e fr (by rcases he with rfl | rfl | rfl <;> decide) (h3.trans hb)).trans h3)
              have HA9 : Hid (w9.ownsRow (w.heap.size + 4) 44 3 (.slice (some ⟨g9, 0, none⟩) (k8 + 1) cp9) (agrs (D.cx.take (j + 1))).length (agrV (agrs (D.cx.take (j + 1))))) := by
                rw [HAG.out, agrV_snoc, List.length_append, HK8.out]
                exact hown9
              clear hgrow9 hown9 hat9 hlt9
              go_wp2
              go_roundg (n - (j + 1))
              case rel => exact ⟨j + 1, _, by go_num, by omega, HI9.out, HO9.out, HA9.out⟩
              case measure => omega
          · have HA9 : Hid (W7.ownsRow (w.heap.size + 4) 44 3 (.slice a8 k8 p8) (agrs (D.cx.take (j + 1))).length (agrV (agrs (D.cx.take (j + 1))))) := by
              rw [HAE.out, hag, List.append_nil, HK8.out]
              exact HA7.out
            clear HAE hag
            go_wp2_with (rw [hW7])
            go_roundg (n - (j + 1))
            case rel => exact ⟨j + 1, _, by go_num, by omega, HI7.out, HO7.out, HA9.out⟩
            case measure => omega
      · have hjn2 : ¬ (j : Int) < (n : Int) := by omega
        have hjD : D.cx.take j = D.cx := List.take_of_length_le (by rw [HN.out.1]; omega)
        rw [hjD] at HO HA
        have hl1 := HO.out.one
        obtain ⟨a8, p8, h8⟩ := owns_slice HA.out
        obtain ⟨k8, hk8⟩ : ∃ k, (agrs D.cx).length = k := ⟨_, rfl⟩
        rw [hk8] at h8 HA
        subst h8
        have sA := size40' 2 (acC r.called r.calling l)
        have sL := size40 2 (acC r.called r.calling l)
        have oA := pd_one 2 (acC r.called r.calling l) (ac_one _ _ _ hl1)
        have hmm : ∀ w1 : World, w1.heap[w.heap.size]? = some (.cells PQ 33) → Calls Tryd.prog 15 #[.pointer (some ⟨w.heap.size, 6, none⟩)] w1 fun e w' => e = .returned (.int .i64 (mostN r.h r.m)) ∧ w' = w1 := fun w1 h1 => most_any w1 w.heap.size 6 r.h r.m HRV.out.2 (by rw [cell_of_row w1 _ _ _ _ _ h1]; exact HQ.out.2.1) (by rw [cell_of_row w1 _ _ _ _ _ h1]; exact HQ.out.2.2.1)
        have HFF : Hid (∀ (e : Ending) (W' : World), e = .returned (.tuple #[.agg (Pd 2 (acC r.called r.calling l)), .slice a8 k8 p8, .int .i64 (mostN r.h r.m), .agg P0, .bool true]) → Below w.heap.size w W' → (∀ b, w.heap.size + 4 ≤ b → b < wr.heap.size → W'.heap[b]? = wr.heap[b]?) → NegP w r s busy D.cx e W') := fun e W' he hb hk => by
          refine HF.out e W' l _ he ((HO.out.keep hk).low (by omega)) ?_ hb
          rw [hk8]
          exact own_low (owns_same HA.out (fun b e => hk b (HA.out.lt b e).1 (HA.out.lt b e).2)) (by omega)
        obtain ⟨hbI, heI, hqI, hzI⟩ := HI.out
        have hszI := HI.out.size
        clear HF HO HA HI hl1 hjD hk8 y5 HEl HN
        generalize mostN r.h r.m = mo at *
        generalize Pd 2 (acC r.called r.calling l) = AQ at *
        go_wp2
        refine wp_region_held_drew (S := fun w' => w'.heap[w.heap.size + 1 + 1]? = some (.cells AQ 33)) (by kernel_rfl) hqI (fun hHeld => ?_)
        have hb4 : Below w.heap.size w wr.drew := hbI.trans ((Below.refl _ _).drew.mono hbI.size)
        have he4 : wr.drew.heap[w.heap.size]? = some (.cells PQ 33) := heI
        have hz4 : wr.drew.heap[w.heap.size + 1 + 1 + 1]? = some (.cells P0 33) := hzI
        have hk4 : ∀ b, w.heap.size + 4 ≤ b → b < wr.heap.size → wr.drew.heap[b]? = wr.heap[b]? := fun _ _ _ => rfl
        generalize wr.drew = w1 at hb4 he4 hz4 hk4 hHeld ⊢
        have hmo := hmm w1 he4
        refine wpAnyH_take (i := 0) (oi := ({ dst := some 60, op := Op.load 33 (Operand.tmp 6), type := 33, pos := "negotiate.go:53", after := #[], guard := none } : Oper)) (v := .agg AQ) rfl (by kernel_rfl) (by kernel_rfl) (by kernel_rfl) (fun _ _ _ h => h) (yieldsIf_load_mid (by rfl) 33 (.tmp 6) rfl (w.heap.size + 1 + 1) 0 rfl AQ.toList _ (fun w h => range_row h) hu rfl sL) hHeld ?_
        try simp only [Act.put, List.setIfInBounds_toArray, List.set_cons_zero, List.set_cons_succ]
        refine wpAnyH_take (i := 1) (oi := ({ dst := some 61, op := Op.move (Operand.tmp 7), type := 38, pos := "negotiate.go:53", after := #[{ on := 7, ground := Ground.gcOnly Departure.lateStores }], guard := none } : Oper)) (v := .slice a8 k8 p8) rfl (by kernel_rfl) (by kernel_rfl) (by kernel_rfl) (fun _ _ _ h => h) (Or.inl ⟨by rfl, fun w _ => by go_simp⟩) hHeld ?_
        try simp only [Act.put, List.setIfInBounds_toArray, List.set_cons_zero, List.set_cons_succ]
        refine wpAnyH_take (i := 2) (oi := ({ dst := some 62, op := Op.move (Operand.tmp 11), type := 65, pos := "negotiate.go:53", after := #[], guard := none } : Oper)) (v := .pointer (some ⟨w.heap.size, 1, none⟩)) rfl (by kernel_rfl) (by kernel_rfl) (by kernel_rfl) (fun _ _ _ h => h) (Or.inl ⟨by rfl, fun w _ => by go_simp⟩) hHeld ?_
        try simp only [Act.put, List.setIfInBounds_toArray, List.set_cons_zero, List.set_cons_succ]
        refine wpAnyH_take (i := 3) (oi := ({ dst := some 63, op := Op.nilCheck (Operand.tmp 62), type := 0, pos := "negotiate.go:53", after := #[{ on := 2, ground := Ground.data }], guard := none } : Oper)) (v := .pointer (some ⟨w.heap.size, 1, none⟩)) rfl (by kernel_rfl) (by kernel_rfl) (by kernel_rfl) (fun _ _ _ h => h) (Or.inl ⟨by rfl, fun w _ => by go_simp⟩) hHeld ?_
        try simp only [Act.put, List.setIfInBounds_toArray, List.set_cons_zero, List.set_cons_succ]
        refine wpAnyH_take (i := 4) (oi := ({ dst := some 64, op := Op.fieldAddr 30 (Operand.tmp 63) 5, type := 0, pos := "negotiate.go:53", after := #[{ on := 3, ground := Ground.data }], guard := none } : Oper)) (v := .pointer (some ⟨w.heap.size, 6, none⟩)) rfl (by kernel_rfl) (by kernel_rfl) (by kernel_rfl) (fun _ _ _ h => h) (Or.inl ⟨by rfl, fun w _ => by go_simp⟩) hHeld ?_
        try simp only [Act.put, List.setIfInBounds_toArray, List.set_cons_zero, List.set_cons_succ]
        refine wpAnyH_take (i := 6) (oi := ({ dst := some 66, op := Op.build 33 #[], type := 33, pos := "negotiate.go:53", after := #[{ on := 9, ground := Ground.gcOnly Departure.lateStores }], guard := none } : Oper)) (v := .agg P0) rfl (by kernel_rfl) (by kernel_rfl) (by kernel_rfl) (fun _ _ _ h => h) (yld_build (by rfl) 33 _ rfl P0 (by simp [Act.eval]; exact hz0)) hHeld ?_
        try simp only [Act.put, List.setIfInBounds_toArray, List.set_cons_zero, List.set_cons_succ]
        refine wpAnyH_ready (rs := [5]) (by kernel_rfl) (by simp) ?_
        refine AllReadyH.cons (o := ({ dst := some 65, op := Op.call { callee := Callee.value (Operand.func 15), args := #[Operand.tmp 64], argTypes := #[70] }, type := 3, pos := "negotiate.go:53", after := #[{ on := 4, ground := Ground.data }], guard := none } : Oper)) rfl (fun K hK => ?_) AllReadyH.nil
        rw [if_pos (by rfl)]
        go_simp
        go_at_call 15
        refine hmo.mono ?_
        rintro _ w2 ⟨rfl, hw2⟩
        obtain rfl : w1 = w2 := hw2.symm
        refine hK.out _ _ hHeld (fun hHeld => ?_)
        clear hK K
        try simp only [Act.put, List.setIfInBounds_toArray, List.set_cons_zero, List.set_cons_succ]
        refine wpAnyH_ready (rs := [7]) (by kernel_rfl) (by simp) ?_
        refine AllReadyH.cons (o := ({ dst := none, op := Op.store 33 (Operand.tmp 6) (Operand.tmp 60), type := 0, pos := "negotiate.go:53", after := #[{ on := 0, ground := Ground.data }, { on := 5, ground := Ground.chain }, { on := 0, ground := Ground.phase }, { on := 1, ground := Ground.textOnly Departure.lateStores }, { on := 2, ground := Ground.textOnly Departure.lateStores }, { on := 3, ground := Ground.textOnly Departure.lateStores }, { on := 4, ground := Ground.textOnly Departure.lateStores }, { on := 5, ground := Ground.textOnly Departure.lateStoresUnsure }, { on := 6, ground := Ground.textOnly Departure.lateStores }], guard := none } : Oper)) rfl (fun K hK => ?_) AllReadyH.nil
        rw [if_pos (by rfl)]
        refine wp_store_row 33 (.tmp 6) (.tmp 60) rfl (w.heap.size + 1 + 1) AQ rfl rfl 33 _ hHeld sA rfl oA ?_
        have k2 := setRow_heap w1 (w.heap.size + 1 + 1) _ AQ 33 _ hHeld
        have k3 : (w1.setRow (w.heap.size + 1 + 1) AQ).heap[w.heap.size + 1 + 1 + 1]? = some (.cells P0 33) := (setRow_other _ _ _ _ (by omega)).trans hz4
        have hb5 : Below w.heap.size w (w1.setRow (w.heap.size + 1 + 1) AQ) := below_setRow hb4 (by omega) _
        have hk5 : ∀ b, w.heap.size + 4 ≤ b → b < wr.heap.size → (w1.setRow (w.heap.size + 1 + 1) AQ).heap[b]? = wr.heap[b]? := fun b h1 h2 => (setRow_other _ _ _ _ (by omega)).trans (hk4 b h1 h2)
        refine hK.out _ _ k2 (fun hHeld => ?_)
        clear hK K
        try simp only [Act.put]
        generalize w1.setRow (w.heap.size + 1 + 1) AQ = w2 at k2 k3 hb5 hk5 hHeld ⊢
        refine wpAnyH_take (i := 8) (oi := ({ dst := some 7, op := Op.assign (Operand.tmp 61), type := 38, pos := "negotiate.go:53", after := #[{ on := 1, ground := Ground.data }, { on := 7, ground := Ground.chain }, { on := 0, ground := Ground.phase }, { on := 1, ground := Ground.phase }, { on := 2, ground := Ground.textOnly Departure.lateStores }, { on := 3, ground := Ground.textOnly Departure.lateStores }, { on := 4, ground := Ground.textOnly Departure.lateStores }, { on := 5, ground := Ground.textOnly Departure.lateStoresUnsure }, { on := 6, ground := Ground.textOnly Departure.lateStores }, { on := 7, ground := Ground.phase }], guard := none } : Oper)) (v := .slice a8 k8 p8) rfl (by kernel_rfl) (by kernel_rfl) (by kernel_rfl) (fun _ _ _ h => h) (Or.inl ⟨by rfl, fun w _ => by go_simp⟩) hHeld ?_
        try simp only [Act.put, List.setIfInBounds_toArray, List.set_cons_zero, List.set_cons_succ]
        refine wpAnyH_take (i := 9) (oi := ({ dst := some 8, op := Op.assign (Operand.tmp 65), type := 3, pos := "negotiate.go:53", after := #[{ on := 5, ground := Ground.data }, { on := 8, ground := Ground.chain }, { on := 0, ground := Ground.phase }, { on := 1, ground := Ground.phase }, { on := 2, ground := Ground.phase }, { on := 3, ground := Ground.phase }, { on := 4, ground := Ground.phase }, { on := 5, ground := Ground.phase }, { on := 6, ground := Ground.textOnly Departure.lateStores }, { on := 7, ground := Ground.phase }, { on := 8, ground := Ground.phase }], guard := none } : Oper)) (v := .int .i64 mo) rfl (by kernel_rfl) (by kernel_rfl) (by kernel_rfl) (fun _ _ _ h => h) (Or.inl ⟨by rfl, fun w _ => by go_simp⟩) hHeld ?_
        try simp only [Act.put, List.setIfInBounds_toArray, List.set_cons_zero, List.set_cons_succ]
        refine wpAnyH_ready (rs := [10]) (by kernel_rfl) (by simp) ?_
        refine AllReadyH.cons (o := ({ dst := none, op := Op.store 33 (Operand.tmp 9) (Operand.tmp 66), type := 0, pos := "negotiate.go:53", after := #[{ on := 6, ground := Ground.data }, { on := 9, ground := Ground.chain }, { on := 0, ground := Ground.phase }, { on := 1, ground := Ground.phase }, { on := 2, ground := Ground.phase }, { on := 3, ground := Ground.phase }, { on := 4, ground := Ground.phase }, { on := 5, ground := Ground.phase }, { on := 6, ground := Ground.phase }, { on := 7, ground := Ground.phase }, { on := 8, ground := Ground.phase }, { on := 9, ground := Ground.phase }], guard := none } : Oper)) rfl (fun K hK => ?_) AllReadyH.nil
        rw [if_pos (by rfl)]
        refine wp_store_row 33 (.tmp 9) (.tmp 66) rfl (w.heap.size + 1 + 1 + 1) P0 rfl rfl 33 _ k3 sz rfl oz ?_
        have m3 := setRow_heap w2 (w.heap.size + 1 + 1 + 1) _ P0 33 _ k3
        have m2 : (w2.setRow (w.heap.size + 1 + 1 + 1) P0).heap[w.heap.size + 1 + 1]? = some (.cells AQ 33) := (setRow_other _ _ _ _ (by omega)).trans k2
        have hb6 : Below w.heap.size w (w2.setRow (w.heap.size + 1 + 1 + 1) P0) := below_setRow hb5 (by omega) _
        have hk6 : ∀ b, w.heap.size + 4 ≤ b → b < wr.heap.size → (w2.setRow (w.heap.size + 1 + 1 + 1) P0).heap[b]? = wr.heap[b]? := fun b h1 h2 => (setRow_other _ _ _ _ (by omega)).trans (hk5 b h1 h2)
        refine hK.out _ _ m2 (fun hHeld => ?_)
        clear hK K
        try simp only [Act.put]
        generalize w2.setRow (w.heap.size + 1 + 1 + 1) P0 = w3 at m3 m2 hb6 hk6 hHeld ⊢
        refine wpAnyH_take (i := 11) (oi := ({ dst := some 10, op := Op.assign (Operand.const (Value.bool true)), type := 4, pos := "negotiate.go:53", after := #[{ on := 10, ground := Ground.chain }, { on := 0, ground := Ground.phase }, { on := 1, ground := Ground.phase }, { on := 2, ground := Ground.phase }, { on := 3, ground := Ground.phase }, { on := 4, ground := Ground.phase }, { on := 5, ground := Ground.phase }, { on := 6, ground := Ground.phase }, { on := 7, ground := Ground.phase }, { on := 8, ground := Ground.phase }, { on := 9, ground := Ground.phase }, { on := 10, ground := Ground.phase }], guard := none } : Oper)) (v := .bool true) rfl (by kernel_rfl) (by kernel_rfl) (by kernel_rfl) (fun _ _ _ h => h) (Or.inl ⟨by rfl, fun w _ => by go_simp⟩) hHeld ?_
        try simp only [Act.put, List.setIfInBounds_toArray, List.set_cons_zero, List.set_cons_succ]
        refine wpAnyH_done (by kernel_rfl) ?_ _
        have ld1 := run_loadVar_row (P := Tryd.prog) _ _ _ 33 _ _ _ m2 hu rfl sA
        have ld2 := run_loadVar_row (P := Tryd.prog) _ _ _ 33 _ _ _ m3 hu rfl sz
        go_wp2
        refine bodyPost_ret (v := .tuple #[.agg AQ, .slice a8 k8 p8, .int .i64 mo, .agg P0, .bool true]) (res_five Tryd.results5 (by kernel_rfl) ld1 (by kernel_rfl) (by kernel_rfl) (by kernel_rfl) ld2 (by kernel_rfl)) rfl (HFF.out _ _ rfl hb6 hk6)
end Go.Proofs.YtnamkcfmbefkfaaDoor
