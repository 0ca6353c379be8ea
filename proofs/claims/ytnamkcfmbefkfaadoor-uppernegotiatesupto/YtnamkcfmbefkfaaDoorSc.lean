import Derived.Test.YtnamkcfmbefkfaaDoorSb
namespace Go.Proofs.YtnamkcfmbefkfaaDoor
open Go Go.Proofs Go.RowKit
def As (c : Fin 18 → Value) : Array Value := #[c 0, c 1, c 2, c 3, c 4, c 5, c 6, c 7, c 8, c 9, c 10, c 11, c 12, c 13]
def Z14 : Array Value := #[.int .u16 0, .string ⟨#[]⟩, .string ⟨#[]⟩, .string ⟨#[]⟩, .slice none 0 0, .bool false, .int .u32 0, .string ⟨#[]⟩, .string ⟨#[]⟩, .bool false, .int .u16 0, .int .u16 0, .slice none 0 0, .slice none 0 0]
theorem as_size (c : Fin 18 → Value) : (As c).size = 14 := rfl
theorem hu43 : ∃ fs, Tryd.prog.underlying 30 = some (.struct fs) := ⟨_, Tryd.underlying30⟩
structure Bx (W wx : World) (PA PB A B : Array Value) (g5 g6 : Nat) : Prop where
  b : Below W.heap.size W wx
  pa : wx.heap[W.heap.size]? = some (.cells PA 33)
  pb : wx.heap[W.heap.size + 1]? = some (.cells PB 33)
  a : wx.heap[g5]? = some (.cells A 30)
  b' : wx.heap[g6]? = some (.cells B 30)
theorem two_new (W : World) (o1 o2 : Obj) : (W.alloc o1).alloc o2 = (W.alloc o1).alloc o2 ∧ ((W.alloc o1).alloc o2).heap[W.heap.size]? = some o1 ∧ ((W.alloc o1).alloc o2).heap[W.heap.size + 1]? = some o2 ∧ ((W.alloc o1).alloc o2).heap.size = W.heap.size + 2 := by
  refine ⟨rfl, (Below.heap_alloc _ _ _ (by simp)).trans (alloc_new W _), ?_, by simp⟩
  have := alloc_new (W.alloc o1) o2
  simpa using this
theorem op_alloc43 {o : Oper} {a : Act} {w : World} {K : Act → World → Prop} {Q : Exit → Act → World → Prop} (ho : o.op = .alloc 30) (h : K (a.put o.dst (.pointer (some ⟨w.heap.size, 0, none⟩))) (w.alloc (.cells Z14 30))) : o.wp Tryd.prog a w K Q := by
  obtain ⟨d, op, ty, pos, af, gd⟩ := o
  simp only at ho
  subst ho
  go_simp
  exact h
theorem as_pd (k : Int) (c : Fin 18 → Value) : ∀ j v, (As c).toList[j]? = some v → (Pd k c)[1 + j]? = some v := by
  intro j v hv
  have hj : j < 14 := (List.getElem?_eq_some_iff.1 hv).1
  have : ∀ j : Fin 14, (Pd k c)[1 + j.val]? = (As c).toList[j.val]? := fun j => by
    match j with
    | ⟨0, _⟩ => rfl
    | ⟨1, _⟩ => rfl
    | ⟨2, _⟩ => rfl
    | ⟨3, _⟩ => rfl
    | ⟨4, _⟩ => rfl
    | ⟨5, _⟩ => rfl
    | ⟨6, _⟩ => rfl
    | ⟨7, _⟩ => rfl
    | ⟨8, _⟩ => rfl
    | ⟨9, _⟩ => rfl
    | ⟨10, _⟩ => rfl
    | ⟨11, _⟩ => rfl
    | ⟨12, _⟩ => rfl
    | ⟨13, _⟩ => rfl
    | ⟨m + 14, h⟩ => exact absurd h (by omega)
  exact (this ⟨j, hj⟩).trans hv
set_option maxRecDepth 100000 in
set_option maxHeartbeats 8000000 in
theorem pdu_same (W : World) (k : Int) (c c' : Fin 18 → Value) (D : PdD) (hs : SameC c c') (ht : TyC c) (h1 : RX W c D) (h2 : RX W c' D) :
    Calls Tryd.prog 7 #[.agg (Pd k c), .agg (Pd k c')] W fun e w' => e = .returned (.bool true) ∧ Below W.heap.size W w' := by
  have huser := fun (w' : World) (hb : Below W.heap.size W w') => user_same w' c c' D hs ht (h1.on hb) (h2.on hb)
  obtain ⟨x0, e0⟩ := ht.t0
  obtain ⟨x1, e1⟩ := ht.t1
  obtain ⟨x2, e2⟩ := ht.t2
  obtain ⟨x3, e3⟩ := ht.t3
  obtain ⟨x5, e5⟩ := ht.t5
  obtain ⟨x6, e6⟩ := ht.t6
  obtain ⟨x7, e7⟩ := ht.t7
  obtain ⟨x8, e8⟩ := ht.t8
  obtain ⟨x9, e9⟩ := ht.t9
  obtain ⟨x10, e10⟩ := ht.t10
  obtain ⟨x11, e11⟩ := ht.t11
  obtain ⟨x14, e14⟩ := ht.t14
  obtain ⟨x15, e15⟩ := ht.t15
  obtain ⟨x16, e16⟩ := ht.t16
  have f0 := (hs 0 (by decide) (by decide) (by decide) (by decide)).trans e0
  have f1 := (hs 1 (by decide) (by decide) (by decide) (by decide)).trans e1
  have f2 := (hs 2 (by decide) (by decide) (by decide) (by decide)).trans e2
  have f3 := (hs 3 (by decide) (by decide) (by decide) (by decide)).trans e3
  have f5 := (hs 5 (by decide) (by decide) (by decide) (by decide)).trans e5
  have f6 := (hs 6 (by decide) (by decide) (by decide) (by decide)).trans e6
  have f7 := (hs 7 (by decide) (by decide) (by decide) (by decide)).trans e7
  have f8 := (hs 8 (by decide) (by decide) (by decide) (by decide)).trans e8
  have f9 := (hs 9 (by decide) (by decide) (by decide) (by decide)).trans e9
  have f10 := (hs 10 (by decide) (by decide) (by decide) (by decide)).trans e10
  have f11 := (hs 11 (by decide) (by decide) (by decide) (by decide)).trans e11
  have f14 := (hs 14 (by decide) (by decide) (by decide) (by decide)).trans e14
  have f15 := (hs 15 (by decide) (by decide) (by decide) (by decide)).trans e15
  have f16 := (hs 16 (by decide) (by decide) (by decide) (by decide)).trans e16
  obtain ⟨⟨_, aC, cC, e4, hshC, hC⟩, hfC⟩ := h1.ctx
  obtain ⟨⟨_, aC', cC', f4, _, hC'⟩, _⟩ := h2.ctx
  obtain ⟨⟨_, aR, cR, e12, hshR, hR⟩, hfR⟩ := h1.role
  obtain ⟨⟨_, aR', cR', f12, _, hR'⟩, _⟩ := h2.role
  obtain ⟨⟨_, aO, cO, e13, hshO, hO⟩, hfO⟩ := h1.oth
  obtain ⟨⟨_, aO', cO', f13, _, hO'⟩, _⟩ := h2.oth
  obtain ⟨⟨_, aV, cV, e17, hshV, hV⟩, hfV⟩ := h1.val
  obtain ⟨⟨_, aV', cV', f17, _, hV'⟩, _⟩ := h2.val
  obtain ⟨nC, hnC⟩ : ∃ n, D.cx.length = n := ⟨_, rfl⟩
  rw [hnC] at e4 f4
  obtain ⟨nR, hnR⟩ : ∃ n, D.rl.length = n := ⟨_, rfl⟩
  rw [hnR] at e12 f12
  obtain ⟨nO, hnO⟩ : ∃ n, D.ot.length = n := ⟨_, rfl⟩
  rw [hnO] at e13 f13
  obtain ⟨nV, hnV⟩ : ∃ n, D.vl.length = n := ⟨_, rfl⟩
  rw [hnV] at e17 f17
  have bC : nC ≤ 140737488351232 := by rw [← hnC]; have := hfC; unfold Fits at this; omega
  have bV : nV ≤ 140737488351232 := by rw [← hnV]; have := hfV; unfold Fits at this; omega
  have HC : Hid ((∀ p ∈ D.cx, ShC p) ∧ D.cx.length = nC) := ⟨hshC, hnC⟩
  have HV : Hid ((∀ p ∈ D.vl, ShV p) ∧ D.vl.length = nV) := ⟨hshV, hnV⟩
  have HCa : Hid _ := hC
  have HCb : Hid _ := hC'
  have HVa : Hid _ := hV
  have HVb : Hid _ := hV'
  have hUA : Us c = #[.bool x5, .int .u32 x6, .string x7, .string x8, .bool x9, .int .u16 x10, .int .u16 x11, .slice aR nR cR, .slice aO nO cO] := by unfold Us; rw [e5, e6, e7, e8, e9, e10, e11, e12, e13]
  have hUB : Us c' = #[.bool x5, .int .u32 x6, .string x7, .string x8, .bool x9, .int .u16 x10, .int .u16 x11, .slice aR' nR cR', .slice aO' nO cO'] := by unfold Us; rw [f5, f6, f7, f8, f9, f10, f11, f12, f13]
  rw [hUA, hUB] at huser
  have HU : Hid _ := huser
  have p0 : (As c)[0]? = some (.int .u16 x0) := by rw [← e0]; rfl
  have q0 : (As c')[0]? = some (.int .u16 x0) := by rw [← f0]; rfl
  have p1 : (As c)[1]? = some (.string x1) := by rw [← e1]; rfl
  have q1 : (As c')[1]? = some (.string x1) := by rw [← f1]; rfl
  have p2 : (As c)[2]? = some (.string x2) := by rw [← e2]; rfl
  have q2 : (As c')[2]? = some (.string x2) := by rw [← f2]; rfl
  have p3 : (As c)[3]? = some (.string x3) := by rw [← e3]; rfl
  have q3 : (As c')[3]? = some (.string x3) := by rw [← f3]; rfl
  have p4 : (As c)[4]? = some (.slice aC nC cC) := by rw [← e4]; rfl
  have q4 : (As c')[4]? = some (.slice aC' nC cC') := by rw [← f4]; rfl
  have p5 : (As c)[5]? = some (.bool x5) := by rw [← e5]; rfl
  have q5 : (As c')[5]? = some (.bool x5) := by rw [← f5]; rfl
  have p6 : (As c)[6]? = some (.int .u32 x6) := by rw [← e6]; rfl
  have q6 : (As c')[6]? = some (.int .u32 x6) := by rw [← f6]; rfl
  have p7 : (As c)[7]? = some (.string x7) := by rw [← e7]; rfl
  have q7 : (As c')[7]? = some (.string x7) := by rw [← f7]; rfl
  have p8 : (As c)[8]? = some (.string x8) := by rw [← e8]; rfl
  have q8 : (As c')[8]? = some (.string x8) := by rw [← f8]; rfl
  have p9 : (As c)[9]? = some (.bool x9) := by rw [← e9]; rfl
  have q9 : (As c')[9]? = some (.bool x9) := by rw [← f9]; rfl
  have p10 : (As c)[10]? = some (.int .u16 x10) := by rw [← e10]; rfl
  have q10 : (As c')[10]? = some (.int .u16 x10) := by rw [← f10]; rfl
  have p11 : (As c)[11]? = some (.int .u16 x11) := by rw [← e11]; rfl
  have q11 : (As c')[11]? = some (.int .u16 x11) := by rw [← f11]; rfl
  have p12 : (As c)[12]? = some (.slice aR nR cR) := by rw [← e12]; rfl
  have q12 : (As c')[12]? = some (.slice aR' nR cR') := by rw [← f12]; rfl
  have p13 : (As c)[13]? = some (.slice aO nO cO) := by rw [← e13]; rfl
  have q13 : (As c')[13]? = some (.slice aO' nO cO') := by rw [← f13]; rfl
  have pu0 : (Pd k c)[0]? = some (.int .i64 k) := rfl
  have pv0 : (Pd k c')[0]? = some (.int .i64 k) := rfl
  have pu15 : (Pd k c)[15]? = some (.int .u8 x14) := by rw [← e14]; rfl
  have pv15 : (Pd k c')[15]? = some (.int .u8 x14) := by rw [← f14]; rfl
  have pu16 : (Pd k c)[16]? = some (.int .u8 x15) := by rw [← e15]; rfl
  have pv16 : (Pd k c')[16]? = some (.int .u8 x15) := by rw [← f15]; rfl
  have pu17 : (Pd k c)[17]? = some (.int .u8 x16) := by rw [← e16]; rfl
  have pv17 : (Pd k c')[17]? = some (.int .u8 x16) := by rw [← f16]; rfl
  have pu18 : (Pd k c)[18]? = some (.slice aV nV cV) := by rw [← e17]; rfl
  have pv18 : (Pd k c')[18]? = some (.slice aV' nV cV') := by rw [← f17]; rfl
  have hA := as_size c
  have hB := as_size c'
  have h1A : (As c).all (·.oneCell') = true := by
    have := pd_one k c h1.one
    rw [Array.all_eq_true_iff_forall_mem] at this ⊢
    intro x hx
    refine this x ?_
    simp only [As, Pd, List.mem_toArray, List.mem_cons, List.not_mem_nil, or_false] at hx ⊢
    rcases hx with h | h | h | h | h | h | h | h | h | h | h | h | h | h <;> simp [h]
  have h1B : (As c').all (·.oneCell') = true := by
    have := pd_one k c' h2.one
    rw [Array.all_eq_true_iff_forall_mem] at this ⊢
    intro x hx
    refine this x ?_
    simp only [As, Pd, List.mem_toArray, List.mem_cons, List.not_mem_nil, or_false] at hx ⊢
    rcases hx with h | h | h | h | h | h | h | h | h | h | h | h | h | h <;> simp [h]
  have hrA : ∀ j v, (As c).toList[j]? = some v → (Pd k c)[1 + j]? = some v := as_pd k c
  have hrB : ∀ j v, (As c').toList[j]? = some v → (Pd k c')[1 + j]? = some v := as_pd k c'
  clear huser hs ht h1 h2 hshC hshR hshO hshV hC hC' hR hR' hO hO' hV hV' hfC hfR hfO hfV hnC hnR hnO hnV hUA hUB e0 f0 e1 f1 e2 f2 e3 f3 e5 f5 e6 f6 e7 f7 e8 f8 e9 f9 e10 f10 e11 f11 e14 f14 e15 f15 e16 f16 e4 f4 e12 f12 e13 f13 e17 f17
  generalize Pd k c = PA at *
  generalize Pd k c' = PB at *
  generalize As c = A at *
  generalize As c' = B at *
  obtain ⟨_, n1, n2, n3⟩ := two_new W (.cells PA 33) (.cells PB 33)
  obtain ⟨W2, hW2⟩ : ∃ W2, (W.alloc (.cells PA 33)).alloc (.cells PB 33) = W2 := ⟨_, rfl⟩
  rw [hW2] at n1 n2 n3
  have hb2 : Below W.heap.size W W2 := by rw [← hW2]; exact ((Below.refl _ _).alloc (Nat.le_refl _) _).alloc (by simp) _
  obtain ⟨fs, hu⟩ := hu43
  have hiA : (Tryd.prog.info? 30).map (·.size) = some A.toList.length := by rw [Array.length_toList, hA]; kernel_rfl
  have hiB : (Tryd.prog.info? 30).map (·.size) = some B.toList.length := by rw [Array.length_toList, hB]; kernel_rfl
  have HG : Hid (Below W.heap.size W W2 ∧ W2.heap[W.heap.size]? = some (.cells PA 33) ∧ W2.heap[W.heap.size + 1]? = some (.cells PB 33) ∧ W2.heap.size = W.heap.size + 2) := ⟨hb2, n1, n2, n3⟩
  have hSA : ∀ w' : World, w'.heap[W.heap.size]? = some (.cells PA 33) → w'.rangeAt W.heap.size 1 A.toList := fun w' h j v hv => by rw [cell_of_row _ _ _ _ _ _ h]; exact hrA j v hv
  have hSB : ∀ w' : World, w'.heap[W.heap.size + 1]? = some (.cells PB 33) → w'.rangeAt (W.heap.size + 1) 1 B.toList := fun w' h j v hv => by rw [cell_of_row _ _ _ _ _ _ h]; exact hrB j v hv
  have HSA : Hid (∀ w' : World, w'.heap[W.heap.size]? = some (.cells PA 33) → w'.rangeAt W.heap.size 1 A.toList) := hSA
  have HSB : Hid (∀ w' : World, w'.heap[W.heap.size + 1]? = some (.cells PB 33) → w'.rangeAt (W.heap.size + 1) 1 B.toList) := hSB
  clear n1 n2 n3 hb2 hSA hSB hrA hrB
  go_enter Tryd.func7, Tryd.ntmps7
  go_wp2
  go_cut [5, 6] from 9 (fun s5 s6 wx => ∃ g5 g6, s5 = .pointer (some ⟨g5, 0, none⟩) ∧ s6 = .pointer (some ⟨g6, 0, none⟩) ∧ Hid (Bx W wx PA PB A B g5 g6))
  case first => as_aux_lemma =>
    refine wp_region_held_drew (S := fun w' => w'.heap[W.heap.size]? = some (.cells PA 33) ∧ w'.heap[W.heap.size + 1]? = some (.cells PB 33)) (by kernel_rfl) ⟨HG.out.2.1, HG.out.2.2.1⟩ (fun hHeld => ?_)
    have HD : Hid (Below W.heap.size W W2.drew ∧ W2.drew.heap[W.heap.size]? = some (.cells PA 33) ∧ W2.drew.heap[W.heap.size + 1]? = some (.cells PB 33) ∧ W2.drew.heap.size = W.heap.size + 2) := ⟨HG.out.1.trans ((Below.refl _ _).drew.mono HG.out.1.size), HG.out.2.1, HG.out.2.2.1, HG.out.2.2.2⟩
    generalize W2.drew = w1 at HD hHeld ⊢
    refine wpAnyH_take (i := 0) (oi := ({ dst := some 9, op := Op.fieldAddr 33 (Operand.tmp 2) 1, type := 0, pos := "help.go:71", after := #[], guard := none } : Oper)) (v := .pointer (some ⟨W.heap.size, 1, none⟩)) rfl (by kernel_rfl) (by kernel_rfl) (by kernel_rfl) (fun _ _ _ h => h) (Or.inl ⟨by rfl, fun w _ => by go_simp⟩) hHeld ?_
    try simp only [Act.put, List.setIfInBounds_toArray, List.set_cons_zero, List.set_cons_succ]
    refine wpAnyH_take (i := 1) (oi := ({ dst := some 10, op := Op.load 30 (Operand.tmp 9), type := 30, pos := "help.go:71", after := #[{ on := 0, ground := Ground.data }], guard := none } : Oper)) (v := .agg A) rfl (by kernel_rfl) (by kernel_rfl) (by kernel_rfl) (fun _ _ _ h => h) (yieldsIf_load_mid (by rfl) 30 (.tmp 9) rfl W.heap.size 1 rfl A.toList _ (fun w h => HSA.out w h.1) hu rfl hiA) hHeld ?_
    try simp only [Act.put, List.setIfInBounds_toArray, List.set_cons_zero, List.set_cons_succ]
    refine wpAnyH_take (i := 2) (oi := ({ dst := some 11, op := Op.fieldAddr 33 (Operand.tmp 3) 1, type := 0, pos := "help.go:71", after := #[{ on := 6, ground := Ground.gcOnly Departure.lateStores }], guard := none } : Oper)) (v := .pointer (some ⟨W.heap.size + 1, 1, none⟩)) rfl (by kernel_rfl) (by kernel_rfl) (by kernel_rfl) (fun _ _ _ h => h) (Or.inl ⟨by rfl, fun w _ => by go_simp⟩) hHeld ?_
    try simp only [Act.put, List.setIfInBounds_toArray, List.set_cons_zero, List.set_cons_succ]
    refine wpAnyH_take (i := 3) (oi := ({ dst := some 12, op := Op.load 30 (Operand.tmp 11), type := 30, pos := "help.go:71", after := #[{ on := 2, ground := Ground.data }, { on := 6, ground := Ground.gcOnly Departure.lateStores }], guard := none } : Oper)) (v := .agg B) rfl (by kernel_rfl) (by kernel_rfl) (by kernel_rfl) (fun _ _ _ h => h) (yieldsIf_load_mid (by rfl) 30 (.tmp 11) rfl (W.heap.size + 1) 1 rfl B.toList _ (fun w h => HSB.out w h.2) hu rfl hiB) hHeld ?_
    try simp only [Act.put, List.setIfInBounds_toArray, List.set_cons_zero, List.set_cons_succ]
    have hiA' : (Tryd.prog.info? 30).map (·.size) = some A.size := by rw [hA]; kernel_rfl
    have hiB' : (Tryd.prog.info? 30).map (·.size) = some B.size := by rw [hB]; kernel_rfl
    have hzA : Z14.size = A.size := by rw [hA]; rfl
    have hzB : Z14.size = B.size := by rw [hB]; rfl
    obtain ⟨hbw1, x0, x1, hs1⟩ := HD.out
    obtain ⟨_, y2, y3, hs3⟩ := two_new w1 (.cells Z14 30) (.cells Z14 30)
    have hs1' : (w1.alloc (.cells Z14 30)).heap.size = w1.heap.size + 1 := by simp
    have k0 : (w1.alloc (.cells Z14 30)).heap[W.heap.size]? = some (.cells PA 33) := (Below.heap_alloc _ _ _ (by omega)).trans x0
    have k1 : (w1.alloc (.cells Z14 30)).heap[W.heap.size + 1]? = some (.cells PB 33) := (Below.heap_alloc _ _ _ (by omega)).trans x1
    have m0' : ((w1.alloc (.cells Z14 30)).alloc (.cells Z14 30)).heap[W.heap.size]? = some (.cells PA 33) := (Below.heap_alloc _ _ _ (by simp; omega)).trans k0
    have m1' : ((w1.alloc (.cells Z14 30)).alloc (.cells Z14 30)).heap[W.heap.size + 1]? = some (.cells PB 33) := (Below.heap_alloc _ _ _ (by simp; omega)).trans k1
    have hbw : Below W.heap.size W ((w1.alloc (.cells Z14 30)).alloc (.cells Z14 30)) := (hbw1.alloc hbw1.size _).alloc (by simp; omega) _
    obtain ⟨w3, hw3⟩ : ∃ w3, (w1.alloc (.cells Z14 30)).alloc (.cells Z14 30) = w3 := ⟨_, rfl⟩
    have m0 := m0'
    have m1 := m1'
    have m2 := y2
    have m3 := y3
    rw [hw3] at m0 m1 m2 m3 hs3 hbw
    rw [hs1] at m2 m3 hs3
    refine wpAnyH_ready (rs := [4, 5]) (by kernel_rfl) (by simp) ?_
    refine AllReadyH.cons (o := ({ dst := some 5, op := Op.alloc 30, type := 0, pos := "help.go:71", after := #[], guard := none } : Oper)) rfl (fun K hK => ?_) ?_
    · skip
      rw [if_pos (by rfl)]
      refine op_alloc43 rfl ?_
      refine hK.out _ _ ⟨k0, k1⟩ (fun hHeld => ?_)
      clear hK K
      try simp only [Act.put, List.setIfInBounds_toArray, List.set_cons_zero, List.set_cons_succ]
      refine wpAnyH_ready (rs := [5]) (by kernel_rfl) (by simp) ?_
      refine AllReadyH.cons (o := ({ dst := some 6, op := Op.alloc 30, type := 0, pos := "help.go:71", after := #[], guard := none } : Oper)) rfl (fun K hK => ?_) AllReadyH.nil
      rw [if_pos (by rfl)]
      refine op_alloc43 rfl ?_
      refine hK.out _ _ ⟨m0', m1'⟩ (fun hHeld => ?_)
      clear hK K
      try simp only [Act.put, List.setIfInBounds_toArray, List.set_cons_zero, List.set_cons_succ]
      rw [hs1', hs1]
      rw [hw3]
      refine wpAnyH_ready (rs := [6]) (by kernel_rfl) (by simp) ?_
      refine AllReadyH.cons (o := ({ dst := none, op := Op.store 30 (Operand.tmp 5) (Operand.tmp 10), type := 0, pos := "help.go:71", after := #[{ on := 4, ground := Ground.data }, { on := 1, ground := Ground.data }, { on := 0, ground := Ground.phase }, { on := 1, ground := Ground.phase }, { on := 2, ground := Ground.textOnly Departure.lateStores }, { on := 3, ground := Ground.textOnly Departure.lateStores }, { on := 4, ground := Ground.phase }, { on := 5, ground := Ground.phase }], guard := none } : Oper)) rfl (fun K hK => ?_) AllReadyH.nil
      rw [if_pos (by rfl)]
      refine wp_store_row 30 (.tmp 5) (.tmp 10) rfl (W.heap.size + 2) A rfl rfl 30 Z14 (by first | exact m2 | exact m3) hiA' hzA h1A ?_
      refine hK.out _ _ ⟨(setRow_other _ _ _ _ (by omega)).trans m0, (setRow_other _ _ _ _ (by omega)).trans m1⟩ (fun hHeld => ?_)
      clear hK K
      try simp only [Act.put]
      refine wpAnyH_ready (rs := [7]) (by kernel_rfl) (by simp) ?_
      refine AllReadyH.cons (o := ({ dst := none, op := Op.store 30 (Operand.tmp 6) (Operand.tmp 12), type := 0, pos := "help.go:71", after := #[{ on := 5, ground := Ground.data }, { on := 3, ground := Ground.data }, { on := 6, ground := Ground.chain }, { on := 0, ground := Ground.phase }, { on := 1, ground := Ground.phase }, { on := 2, ground := Ground.phase }, { on := 3, ground := Ground.phase }, { on := 4, ground := Ground.phase }, { on := 5, ground := Ground.phase }, { on := 6, ground := Ground.phase }], guard := none } : Oper)) rfl (fun K hK => ?_) AllReadyH.nil
      rw [if_pos (by rfl)]
      refine wp_store_row 30 (.tmp 6) (.tmp 12) rfl (W.heap.size + 3) B rfl rfl 30 Z14 ((setRow_other _ _ _ _ (by omega)).trans (by first | exact m2 | exact m3)) hiB' hzB h1B ?_
      refine hK.out _ _ ⟨(setRow_other _ _ _ _ (by omega)).trans hHeld.1, (setRow_other _ _ _ _ (by omega)).trans hHeld.2⟩ (fun hHeld => ?_)
      clear hK K
      try simp only [Act.put]
      refine wpAnyH_done (by kernel_rfl) ?_ _
      go_wp2
      go_meet
      case rel => exact ⟨W.heap.size + 2, W.heap.size + 3, rfl, rfl, below_setRow (below_setRow hbw (by omega) _) (by omega) _, hHeld.1, hHeld.2, (setRow_other _ _ _ _ (by omega)).trans (setRow_heap _ _ _ _ _ _ (by first | exact m2 | exact m3)), setRow_heap _ _ _ _ _ _ ((setRow_other _ _ _ _ (by omega)).trans (by first | exact m2 | exact m3))⟩
    · refine AllReadyH.cons (o := ({ dst := some 6, op := Op.alloc 30, type := 0, pos := "help.go:71", after := #[], guard := none } : Oper)) rfl (fun K hK => ?_) AllReadyH.nil
      rw [if_pos (by rfl)]
      refine op_alloc43 rfl ?_
      refine hK.out _ _ ⟨k0, k1⟩ (fun hHeld => ?_)
      clear hK K
      try simp only [Act.put, List.setIfInBounds_toArray, List.set_cons_zero, List.set_cons_succ]
      refine wpAnyH_ready (rs := [4]) (by kernel_rfl) (by simp) ?_
      refine AllReadyH.cons (o := ({ dst := some 5, op := Op.alloc 30, type := 0, pos := "help.go:71", after := #[], guard := none } : Oper)) rfl (fun K hK => ?_) AllReadyH.nil
      rw [if_pos (by rfl)]
      refine op_alloc43 rfl ?_
      refine hK.out _ _ ⟨m0', m1'⟩ (fun hHeld => ?_)
      clear hK K
      try simp only [Act.put, List.setIfInBounds_toArray, List.set_cons_zero, List.set_cons_succ]
      rw [hs1', hs1]
      rw [hw3]
      refine wpAnyH_ready (rs := [6]) (by kernel_rfl) (by simp) ?_
      refine AllReadyH.cons (o := ({ dst := none, op := Op.store 30 (Operand.tmp 5) (Operand.tmp 10), type := 0, pos := "help.go:71", after := #[{ on := 4, ground := Ground.data }, { on := 1, ground := Ground.data }, { on := 0, ground := Ground.phase }, { on := 1, ground := Ground.phase }, { on := 2, ground := Ground.textOnly Departure.lateStores }, { on := 3, ground := Ground.textOnly Departure.lateStores }, { on := 4, ground := Ground.phase }, { on := 5, ground := Ground.phase }], guard := none } : Oper)) rfl (fun K hK => ?_) AllReadyH.nil
      rw [if_pos (by rfl)]
      refine wp_store_row 30 (.tmp 5) (.tmp 10) rfl (W.heap.size + 3) A rfl rfl 30 Z14 (by first | exact m2 | exact m3) hiA' hzA h1A ?_
      refine hK.out _ _ ⟨(setRow_other _ _ _ _ (by omega)).trans m0, (setRow_other _ _ _ _ (by omega)).trans m1⟩ (fun hHeld => ?_)
      clear hK K
      try simp only [Act.put]
      refine wpAnyH_ready (rs := [7]) (by kernel_rfl) (by simp) ?_
      refine AllReadyH.cons (o := ({ dst := none, op := Op.store 30 (Operand.tmp 6) (Operand.tmp 12), type := 0, pos := "help.go:71", after := #[{ on := 5, ground := Ground.data }, { on := 3, ground := Ground.data }, { on := 6, ground := Ground.chain }, { on := 0, ground := Ground.phase }, { on := 1, ground := Ground.phase }, { on := 2, ground := Ground.phase }, { on := 3, ground := Ground.phase }, { on := 4, ground := Ground.phase }, { on := 5, ground := Ground.phase }, { on := 6, ground := Ground.phase }], guard := none } : Oper)) rfl (fun K hK => ?_) AllReadyH.nil
      rw [if_pos (by rfl)]
      refine wp_store_row 30 (.tmp 6) (.tmp 12) rfl (W.heap.size + 2) B rfl rfl 30 Z14 ((setRow_other _ _ _ _ (by omega)).trans (by first | exact m2 | exact m3)) hiB' hzB h1B ?_
      refine hK.out _ _ ⟨(setRow_other _ _ _ _ (by omega)).trans hHeld.1, (setRow_other _ _ _ _ (by omega)).trans hHeld.2⟩ (fun hHeld => ?_)
      clear hK K
      try simp only [Act.put]
      refine wpAnyH_done (by kernel_rfl) ?_ _
      go_wp2
      go_meet
      case rel => exact ⟨W.heap.size + 3, W.heap.size + 2, rfl, rfl, below_setRow (below_setRow hbw (by omega) _) (by omega) _, hHeld.1, hHeld.2, (setRow_other _ _ _ _ (by omega)).trans (setRow_heap _ _ _ _ _ _ (by first | exact m2 | exact m3)), setRow_heap _ _ _ _ _ _ ((setRow_other _ _ _ _ (by omega)).trans (by first | exact m2 | exact m3))⟩
  case rest =>
    obtain ⟨g5, g6, rfl, rfl, HB⟩ := hcut
    have s0 : wc.cell? ⟨W.heap.size, 0, none⟩ = some (.int .i64 k) := by rw [cell_of_row _ _ _ _ _ _ HB.out.pa]; exact pu0
    have t0 : wc.cell? ⟨W.heap.size + 1, 0, none⟩ = some (.int .i64 k) := by rw [cell_of_row _ _ _ _ _ _ HB.out.pb]; exact pv0
    have s15 : wc.cell? ⟨W.heap.size, 15, none⟩ = some (.int .u8 x14) := by rw [cell_of_row _ _ _ _ _ _ HB.out.pa]; exact pu15
    have t15 : wc.cell? ⟨W.heap.size + 1, 15, none⟩ = some (.int .u8 x14) := by rw [cell_of_row _ _ _ _ _ _ HB.out.pb]; exact pv15
    have s16 : wc.cell? ⟨W.heap.size, 16, none⟩ = some (.int .u8 x15) := by rw [cell_of_row _ _ _ _ _ _ HB.out.pa]; exact pu16
    have t16 : wc.cell? ⟨W.heap.size + 1, 16, none⟩ = some (.int .u8 x15) := by rw [cell_of_row _ _ _ _ _ _ HB.out.pb]; exact pv16
    have s17 : wc.cell? ⟨W.heap.size, 17, none⟩ = some (.int .u8 x16) := by rw [cell_of_row _ _ _ _ _ _ HB.out.pa]; exact pu17
    have t17 : wc.cell? ⟨W.heap.size + 1, 17, none⟩ = some (.int .u8 x16) := by rw [cell_of_row _ _ _ _ _ _ HB.out.pb]; exact pv17
    have s18 : wc.cell? ⟨W.heap.size, 18, none⟩ = some (.slice aV nV cV) := by rw [cell_of_row _ _ _ _ _ _ HB.out.pa]; exact pu18
    have t18 : wc.cell? ⟨W.heap.size + 1, 18, none⟩ = some (.slice aV' nV cV') := by rw [cell_of_row _ _ _ _ _ _ HB.out.pb]; exact pv18
    have y0 : wc.cell? ⟨g5, 0, none⟩ = some (.int .u16 x0) := by rw [cell_of_row _ _ _ _ _ _ HB.out.a]; exact p0
    have w0 : wc.cell? ⟨g6, 0, none⟩ = some (.int .u16 x0) := by rw [cell_of_row _ _ _ _ _ _ HB.out.b']; exact q0
    have y1 : wc.cell? ⟨g5, 1, none⟩ = some (.string x1) := by rw [cell_of_row _ _ _ _ _ _ HB.out.a]; exact p1
    have w1 : wc.cell? ⟨g6, 1, none⟩ = some (.string x1) := by rw [cell_of_row _ _ _ _ _ _ HB.out.b']; exact q1
    have y2 : wc.cell? ⟨g5, 2, none⟩ = some (.string x2) := by rw [cell_of_row _ _ _ _ _ _ HB.out.a]; exact p2
    have w2 : wc.cell? ⟨g6, 2, none⟩ = some (.string x2) := by rw [cell_of_row _ _ _ _ _ _ HB.out.b']; exact q2
    have y3 : wc.cell? ⟨g5, 3, none⟩ = some (.string x3) := by rw [cell_of_row _ _ _ _ _ _ HB.out.a]; exact p3
    have w3 : wc.cell? ⟨g6, 3, none⟩ = some (.string x3) := by rw [cell_of_row _ _ _ _ _ _ HB.out.b']; exact q3
    have y4 : wc.cell? ⟨g5, 4, none⟩ = some (.slice aC nC cC) := by rw [cell_of_row _ _ _ _ _ _ HB.out.a]; exact p4
    have w4 : wc.cell? ⟨g6, 4, none⟩ = some (.slice aC' nC cC') := by rw [cell_of_row _ _ _ _ _ _ HB.out.b']; exact q4
    have y5 : wc.cell? ⟨g5, 5, none⟩ = some (.bool x5) := by rw [cell_of_row _ _ _ _ _ _ HB.out.a]; exact p5
    have w5 : wc.cell? ⟨g6, 5, none⟩ = some (.bool x5) := by rw [cell_of_row _ _ _ _ _ _ HB.out.b']; exact q5
    have y6 : wc.cell? ⟨g5, 6, none⟩ = some (.int .u32 x6) := by rw [cell_of_row _ _ _ _ _ _ HB.out.a]; exact p6
    have w6 : wc.cell? ⟨g6, 6, none⟩ = some (.int .u32 x6) := by rw [cell_of_row _ _ _ _ _ _ HB.out.b']; exact q6
    have y7 : wc.cell? ⟨g5, 7, none⟩ = some (.string x7) := by rw [cell_of_row _ _ _ _ _ _ HB.out.a]; exact p7
    have w7 : wc.cell? ⟨g6, 7, none⟩ = some (.string x7) := by rw [cell_of_row _ _ _ _ _ _ HB.out.b']; exact q7
    have y8 : wc.cell? ⟨g5, 8, none⟩ = some (.string x8) := by rw [cell_of_row _ _ _ _ _ _ HB.out.a]; exact p8
    have w8 : wc.cell? ⟨g6, 8, none⟩ = some (.string x8) := by rw [cell_of_row _ _ _ _ _ _ HB.out.b']; exact q8
    have y9 : wc.cell? ⟨g5, 9, none⟩ = some (.bool x9) := by rw [cell_of_row _ _ _ _ _ _ HB.out.a]; exact p9
    have w9 : wc.cell? ⟨g6, 9, none⟩ = some (.bool x9) := by rw [cell_of_row _ _ _ _ _ _ HB.out.b']; exact q9
    have y10 : wc.cell? ⟨g5, 10, none⟩ = some (.int .u16 x10) := by rw [cell_of_row _ _ _ _ _ _ HB.out.a]; exact p10
    have w10 : wc.cell? ⟨g6, 10, none⟩ = some (.int .u16 x10) := by rw [cell_of_row _ _ _ _ _ _ HB.out.b']; exact q10
    have y11 : wc.cell? ⟨g5, 11, none⟩ = some (.int .u16 x11) := by rw [cell_of_row _ _ _ _ _ _ HB.out.a]; exact p11
    have w11 : wc.cell? ⟨g6, 11, none⟩ = some (.int .u16 x11) := by rw [cell_of_row _ _ _ _ _ _ HB.out.b']; exact q11
    have y12 : wc.cell? ⟨g5, 12, none⟩ = some (.slice aR nR cR) := by rw [cell_of_row _ _ _ _ _ _ HB.out.a]; exact p12
    have w12 : wc.cell? ⟨g6, 12, none⟩ = some (.slice aR' nR cR') := by rw [cell_of_row _ _ _ _ _ _ HB.out.b']; exact q12
    have y13 : wc.cell? ⟨g5, 13, none⟩ = some (.slice aO nO cO) := by rw [cell_of_row _ _ _ _ _ _ HB.out.a]; exact p13
    have w13 : wc.cell? ⟨g6, 13, none⟩ = some (.slice aO' nO cO') := by rw [cell_of_row _ _ _ _ _ _ HB.out.b']; exact q13
    have hus := HU.out wc HB.out.b
    have HP : Hid (PA[18]? = some (.slice aV nV cV) ∧ PB[18]? = some (.slice aV' nV cV') ∧ A[4]? = some (.slice aC nC cC) ∧ B[4]? = some (.slice aC' nC cC')) := ⟨pu18, pv18, p4, q4⟩
    clear pu0 pv0 pu15 pv15 pu16 pv16 pu17 pv17 pu18 pv18 p0 q0 p1 q1 p2 q2 p3 q3 p4 q4 p5 q5 p6 q6 p7 q7 p8 q8 p9 q9 p10 q10 p11 q11 p12 q12 p13 q13
    go_wp2_with (go_at_call 19; refine hus.mono ?_; rintro x W5 ⟨rfl, hb5⟩)
    have H5 : Hid (Below wc.heap.size wc W5) := hb5
    clear hb5 hus s0 t0 s15 t15 s16 t16 s17 t17 s18 t18 y0 w0 y1 w1 y2 w2 y3 w3 y4 w4 y5 w5 y6 w6 y7 w7 y8 w8 y9 w9 y10 w10 y11 w11 y12 w12 y13 w13
    go_loopg [7] nC (fun g s7 wx => ∃ i : Nat, s7 = .int .i64 (i : Int) ∧ g + i = nC ∧ Hid (Below wc.heap.size wc wx))
    case atStart => exact ⟨0, rfl, by omega, H5.out⟩
    case round => as_aux_lemma =>
      obtain ⟨i, rfl, hgi, HW⟩ := hrel
      have z7 : wr.cell? ⟨g5, 4, none⟩ = some (.slice aC nC cC) := by
        rw [cell_of_row _ _ _ _ _ _ ((HW.out.block _ (Array.getElem?_eq_some_iff.1 HB.out.a).1).trans HB.out.a)]; exact HP.out.2.2.1
      have z7' : wr.cell? ⟨g6, 4, none⟩ = some (.slice aC' nC cC') := by
        rw [cell_of_row _ _ _ _ _ _ ((HW.out.block _ (Array.getElem?_eq_some_iff.1 HB.out.b').1).trans HB.out.b')]; exact HP.out.2.2.2
      by_cases hin : i < nC
      · have hI : (i : Int) < (nC : Int) := by omega
        have hil : i < D.cx.length := by rw [HC.out.2]; exact hin
        obtain ⟨ba, oa, rfl, ka⟩ := HCa.out (by omega)
        obtain ⟨bb, ob, rfl, kb⟩ := HCb.out (by omega)
        obtain ⟨va, ka, ka2⟩ := ka i hil
        obtain ⟨vb, kb, kb2⟩ := kb i hil
        obtain ⟨x, y, s, T, hp⟩ := HC.out.1 _ (List.getElem_mem hil)
        rw [hp] at ka ka2 kb kb2
        obtain ⟨ta, rfl, hTa⟩ := ka2
        obtain ⟨tb, rfl, hTb⟩ := kb2
        have a0 := ka 0 _ rfl
        have a1 := ka 1 _ rfl
        have a2 := ka 2 _ rfl
        have a3 := ka 3 _ rfl
        have b0 := kb 0 _ rfl
        have b1 := kb 1 _ rfl
        have b2 := kb 2 _ rfl
        have b3 := kb 3 _ rfl
        rw [Nat.add_zero] at a0 b0
        have hbw : Below W.heap.size W wr := HB.out.b.trans (HW.out.mono HB.out.b.size)
        replace a0 := (hbw.cell (cell_lt a0)).trans a0
        replace a1 := (hbw.cell (cell_lt a1)).trans a1
        replace a2 := (hbw.cell (cell_lt a2)).trans a2
        replace a3 := (hbw.cell (cell_lt a3)).trans a3
        replace b0 := (hbw.cell (cell_lt b0)).trans b0
        replace b1 := (hbw.cell (cell_lt b1)).trans b1
        replace b2 := (hbw.cell (cell_lt b2)).trans b2
        replace b3 := (hbw.cell (cell_lt b3)).trans b3
        have hq := fun m => texts_same (wr.drewN m) ta tb T ((hTa.on hbw).on ⟨rfl, rfl, rfl, Nat.le_refl _, fun _ _ => rfl⟩) ((hTb.on hbw).on ⟨rfl, rfl, rfl, Nat.le_refl _, fun _ _ => rfl⟩)
        clear hbw hTa hTb ka kb hp hil
        go_wp2
        go_quiet ((go_at_call 20; exact (hq _).mono fun _ _ h => ⟨h.1, drewN2 h.2⟩))
        go_wp2
        go_roundg (nC - (i + 1))
        case rel => exact ⟨i + 1, by go_num, by omega, HW.out.trans ⟨rfl, rfl, rfl, Nat.le_refl _, fun _ _ => rfl⟩⟩
        case measure => omega
      · have hI : ¬ (i : Int) < (nC : Int) := by omega
        obtain ⟨wo, hwo⟩ : ∃ wo : World, wo = wr := ⟨_, rfl⟩
        rw [← hwo] at HW z7 z7' ⊢
        have HWo : Hid (Below wc.heap.size wc wo) := HW
        clear HW hwo hgi hin
        go_wp2
        clear z7 z7'
        go_loopg [8] nV (fun g s8 wx => ∃ i : Nat, s8 = .int .i64 (i : Int) ∧ g + i = nV ∧ Hid (Below wc.heap.size wc wx))
        case atStart => exact ⟨0, rfl, by omega, HWo.out⟩
        case round => as_aux_lemma =>
          clear HWo
          obtain ⟨i, rfl, hgi, HW⟩ := hrel
          have z7 : wr.cell? ⟨W.heap.size, 18, none⟩ = some (.slice aV nV cV) := by
            rw [cell_of_row _ _ _ _ _ _ ((HW.out.block _ (Array.getElem?_eq_some_iff.1 HB.out.pa).1).trans HB.out.pa)]; exact HP.out.1
          have z7' : wr.cell? ⟨W.heap.size + 1, 18, none⟩ = some (.slice aV' nV cV') := by
            rw [cell_of_row _ _ _ _ _ _ ((HW.out.block _ (Array.getElem?_eq_some_iff.1 HB.out.pb).1).trans HB.out.pb)]; exact HP.out.2.1
          by_cases hin : i < nV
          · have hI : (i : Int) < (nV : Int) := by omega
            have hil : i < D.vl.length := by rw [HV.out.2]; exact hin
            obtain ⟨ba, oa, rfl, ka⟩ := HVa.out (by omega)
            obtain ⟨bb, ob, rfl, kb⟩ := HVb.out (by omega)
            obtain ⟨va, ka, ka2⟩ := ka i hil
            obtain ⟨vb, kb, kb2⟩ := kb i hil
            obtain ⟨x, y, z, bs, hp⟩ := HV.out.1 _ (List.getElem_mem hil)
            rw [hp] at ka ka2 kb kb2
            obtain ⟨ua, rfl, hVa, hla, _⟩ := ka2
            obtain ⟨ub, rfl, hVb, hlb, _⟩ := kb2
            have a0 := ka 0 _ rfl
            have a1 := ka 1 _ rfl
            have a2 := ka 2 _ rfl
            have a3 := ka 3 _ rfl
            have b0 := kb 0 _ rfl
            have b1 := kb 1 _ rfl
            have b2 := kb 2 _ rfl
            have b3 := kb 3 _ rfl
            rw [Nat.add_zero] at a0 b0
            have hbw : Below W.heap.size W wr := HB.out.b.trans (HW.out.mono HB.out.b.size)
            replace a0 := (hbw.cell (cell_lt a0)).trans a0
            replace a1 := (hbw.cell (cell_lt a1)).trans a1
            replace a2 := (hbw.cell (cell_lt a2)).trans a2
            replace a3 := (hbw.cell (cell_lt a3)).trans a3
            replace b0 := (hbw.cell (cell_lt b0)).trans b0
            replace b1 := (hbw.cell (cell_lt b1)).trans b1
            replace b2 := (hbw.cell (cell_lt b2)).trans b2
            replace b3 := (hbw.cell (cell_lt b3)).trans b3
            have hq := fun m => bytes_same (wr.drewN m) ua ub bs hla ((hVa.next hbw).next ⟨rfl, rfl, rfl, Nat.le_refl _, fun _ _ => rfl⟩) ((hVb.next hbw).next ⟨rfl, rfl, rfl, Nat.le_refl _, fun _ _ => rfl⟩)
            clear hbw hVa hVb ka kb hp hil
            go_wp2
            go_quiet ((go_at_call 21; exact (hq _).mono fun _ _ h => ⟨h.1, drewN2 h.2⟩))
            go_wp2
            go_roundg (nV - (i + 1))
            case rel => exact ⟨i + 1, by go_num, by omega, HW.out.trans ⟨rfl, rfl, rfl, Nat.le_refl _, fun _ _ => rfl⟩⟩
            case measure => omega
          · have hI : ¬ (i : Int) < (nV : Int) := by omega
            go_wp2
            go_ret
            exact ⟨rfl, HB.out.b.trans (HW.out.mono HB.out.b.size)⟩
end Go.Proofs.YtnamkcfmbefkfaaDoor
