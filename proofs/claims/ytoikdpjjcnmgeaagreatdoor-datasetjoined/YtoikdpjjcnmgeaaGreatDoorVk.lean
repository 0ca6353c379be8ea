import Derived.Test.YtoikdpjjcnmgeaaGreatDoorVj
/-
  DERIVED. A node put behind the others.
-/
namespace Go.Proofs.YtoikdpjjcnmgeaaGreatDoor
open Go Go.Proofs Go.RowKit
open Wk (Nd nds)
open Go.Sort

/-- A row's value has its length. -/
theorem own_form {W : World} {base : Nat} {e : TypeId} {z : Nat} {v : Value} {n : Nat} {xs : List Value} (h : W.ownsRow base e z v n xs) : ∃ a cap, v = .slice a n cap ∧ (0 < n → ∃ g, a = some ⟨g, 0, none⟩ ∧ n ≤ cap) := by
  rcases h.2 with ⟨rfl, rfl⟩ | ⟨g, cap, cur, rfl, _, _, hc, _⟩
  · exact ⟨none, 0, rfl, fun h => absurd h (by omega)⟩
  · exact ⟨_, cap, rfl, fun _ => ⟨g, rfl, hc⟩⟩
/-- Heads in memory stay. -/
def Kp (w w' : World) : Prop := ∀ (g : Nat) (cur : Array Value), w.heap[g]? = some (Obj.cells cur 159) → w'.heap[g]? = w.heap[g]?
theorem Kp.trans {w w' w'' : World} (h : Kp w w') (h2 : Kp w' w'') : Kp w w'' := fun g cur hg => (h2 g cur ((h g cur hg).trans hg)).trans (h g cur hg)
theorem Kp.of {w w' : World} (h : Below w.heap.size w w') : Kp w w' := fun g _ hg => h.block g (Array.getElem?_eq_some_iff.1 hg).1
theorem Kp.grown {base : Nat} {W W1 : World} {e : TypeId} {z : Nat} {v : Value} {n : Nat} {xs : List Value} (ho : W.ownsRow base e z v n xs) (hg : W.grownBy W1 v.ownBlock) (he : e ≠ 159) : Kp W W1 := fun _ _ hc => grown_other ho hg hc (fun h => he h.symm)
theorem Kp.set {W : World} {rb i : Nat} {v : Value} {t : TypeId} (h : ∃ cs, W.heap[rb]? = some (Obj.cells cs t)) (ht : t ≠ 159) : Kp W (W.setCell ⟨rb, i, none⟩ v) := fun g cur hg => heap_setCell_other W ⟨rb, i, none⟩ g v (fun hc => by
  have hc : g = rb := hc
  obtain ⟨cs, h⟩ := h
  rw [hc, h] at hg
  cases hg
  exact ht rfl)
/-- What is told of a node that is put behind. -/
def AddP (base rb : Nat) (bv : Value) (w : World) (k : Nat) (M : List Nd) (M' : List Nd) (st : List Sp) (sv : Value) (e : Ending) (w' : World) : Prop :=
  (if M.length = 4096 then Pan w' k 127 e else e = .returned (.tuple #[]) ∧ ∃ nv', PR base rb bv w' k M' st nv' sv) ∧ Below base w w' ∧ Kp w w'

set_option maxRecDepth 100000 in
set_option maxHeartbeats 4000000 in
theorem add_none (w : World) (base rb : Nat) (bv : Value) (n k : Nat) (M : List Nd) (sp : Sp) (r : List Sp) (nv : Value) (g sc : Nat) (t : Int) (v : Int) (s : ByteArray) (hP : PR base rb bv w k M (sp :: r) nv (.slice (some ⟨g, 0, none⟩) (r.length + 1) sc)) (hI : PI n k M (sp :: r)) (hn : n ≤ 1048576) (hm : M.length ≠ 4096) (hnode : sp.node = none) :
    Calls Tryz.prog 97 #[.pointer (some ⟨rb, 0, none⟩), .agg #[.int .u32 t, .int .i64 v, .int .i64 0, .string s]] w (AddP base rb bv w k M (bump M sp.node 1 ++ [⟨t, v, 0, s⟩]) (sp :: r) (.slice (some ⟨g, 0, none⟩) (r.length + 1) sc)) := by
  obtain ⟨W0, hW0⟩ : ∃ W0, w.alloc (.cells #[.int .u32 t, .int .i64 v, .int .i64 0, .string s] 54) = W0 := ⟨_, rfl⟩
  have hb0 : Below w.heap.size w W0 := by rw [← hW0]; exact (Below.refl _ _).alloc (Nat.le_refl _) _
  have hP0 := hP.on hb0
  have y : W0.cell? ⟨w.heap.size, 0, none⟩ = some (.int .u32 t) ∧ W0.cell? ⟨w.heap.size, 1, none⟩ = some (.int .i64 v) ∧ W0.cell? ⟨w.heap.size, 2, none⟩ = some (.int .i64 0) ∧ W0.cell? ⟨w.heap.size, 3, none⟩ = some (.string s) := by
    rw [← hW0]; exact ⟨by simp, by simp, by simp, by simp⟩
  obtain ⟨y0, y1, y2, y3⟩ := y
  have hl := hI.ln
  obtain ⟨hk, hf⟩ := hI.le
  simp only [List.length_cons] at hl
  obtain ⟨na, ncap, rfl, hna⟩ := own_form hP.nd
  have hml := hI.mo.l
  have c2 := hP0.c2
  have cI := inner_any W0 rb g r.length sc (by omega) hP0.c3
  obtain ⟨s0, -⟩ := hP0.sc
  have b1 : ((M.length : Int) == 4096) = false := beq_eq_false_iff_ne.2 (by omega)
  have HP0 : Hid _ := hP0
  have HB : Hid (base ≤ w.heap.size) := hP.lt
  have HM : Hid (M.length ≠ 4096 ∧ M.length ≤ 4096) := ⟨hm, hml⟩
  have HMS : Hid (M.length ≠ 4096) := hm
  rw [hnode] at s0 ⊢
  obtain ⟨L, hL⟩ : ∃ L, M.length = L := ⟨_, rfl⟩
  obtain ⟨m, hmm⟩ : ∃ m, r.length = m := ⟨_, rfl⟩
  have HL : Hid _ := hL
  rw [hL] at c2 b1 HM HP0
  rw [hmm] at cI s0
  obtain ⟨i0, hi, hz0, hz1, hz2⟩ := info_parts Wk.info34
  clear hP hP0 hI hm hn hk hf hl hml hmm
  go_enter Tryz.func97, Tryz.ntmps97
  go_wp2_with (go_at_call 57; refine StopV.out ?_)
  refine ⟨Calls.mono cI ?_⟩
  rintro e W1 ⟨rfl, hb1⟩
  have s01 : W1.cell? ⟨g, m * 6, none⟩ = some (.int .i64 (-1)) := (hb1.cell (Rp.cell_lt s0)).trans s0
  have c21 := (hb1.cell (Rp.cell_lt c2)).trans c2
  have HP1 : Hid _ := HP0.out.on hb1
  have z0 := (hb1.cell (Rp.cell_lt y0)).trans y0
  have z1 := (hb1.cell (Rp.cell_lt y1)).trans y1
  have z2 := (hb1.cell (Rp.cell_lt y2)).trans y2
  have z3 := (hb1.cell (Rp.cell_lt y3)).trans y3
  clear y0 y1 y2 y3 s0 c2 cI HP0
  clear hna
  go_wp2
  have HW4 : Hid (∀ (X W4 : World) (g4 c4 : Nat), Below W1.heap.size W1 X → X.grownBy W4 (Value.slice na L ncap).ownBlock → W4.ownsRow base 54 4 (.slice (some ⟨g4, 0, none⟩) (L + 1) c4) (L + 1) (nds M ++ [.int .u32 t, .int .i64 v, .int .i64 0, .string s]) →
      W4.cell? ⟨rb, 2, none⟩ = some (.slice na L ncap) ∧ W4.frozen? ⟨rb, 2, none⟩ = false ∧ PR base rb bv (W4.setCell ⟨rb, 2, none⟩ (.slice (some ⟨g4, 0, none⟩) (L + 1) c4)) k (M ++ [⟨t, v, 0, s⟩]) (sp :: r) (.slice (some ⟨g4, 0, none⟩) (L + 1) c4) (.slice (some ⟨g, 0, none⟩) (r.length + 1) sc) ∧ Below base w (W4.setCell ⟨rb, 2, none⟩ (.slice (some ⟨g4, 0, none⟩) (L + 1) c4)) ∧ Kp w (W4.setCell ⟨rb, 2, none⟩ (.slice (some ⟨g4, 0, none⟩) (L + 1) c4))) := by
    intro X W4 g4 c4 hX hg ho
    have hPX := HP1.out.on hX
    have hn' : W4.ownsRow base 54 4 (.slice (some ⟨g4, 0, none⟩) (L + 1) c4) (M ++ [(⟨t, v, 0, s⟩ : Nd)]).length (nds (M ++ [(⟨t, v, 0, s⟩ : Nd)])) := by
      rw [List.length_append, HL.out, Wk.nds_append]
      exact ho
    obtain ⟨a, b, c⟩ := hPX.grownN hg hn' (by rw [List.length_append]; simp)
    have hbx : Below base w X := ((hb0.mono HB.out).trans (hb1.mono (Nat.le_trans HB.out hb0.size))).trans (hX.mono HP1.out.lt)
    exact ⟨a, b, c, (hbx.trans (below_grown hPX.nd hg hPX.lt)).setCell (p := ⟨rb, 2, none⟩) hPX.hb _, ((((Kp.of hb0).trans (Kp.of hb1)).trans (Kp.of hX)).trans (Kp.grown hPX.nd hg (by decide))).trans (Kp.set (by obtain ⟨cs, ht⟩ := hPX.ty; exact ⟨cs, (grown_other hPX.nd hg ht (by decide)).trans ht⟩) (by decide))⟩
  have HO : Hid (∀ o, (W1.alloc o).ownsRow base 54 4 (.slice na L ncap) L (nds M)) := fun o => by
    have := HP1.out.nd
    rw [HL.out] at this
    exact World.ownsRow.alloc this o
  have HBS : Hid (∀ o, base ≤ (W1.alloc o).heap.size) := fun o => Nat.le_trans HP1.out.lt (by simp)
  have h63 : L + 1 ≤ maxLen := by have := HM.out.2; unfold maxLen; omega
  have hby : (L + 1) * 40 ≤ 140737488355328 := by have := HM.out.2; omega
  have c2a : ∀ o, (W1.alloc o).cell? ⟨rb, 2, none⟩ = some (.slice na L ncap) := fun o => (((Below.refl _ W1).alloc (Nat.le_refl _) o).cell (Rp.cell_lt c21)).trans c21
  clear hb1 s01 HP1
  go_region_law (go_loud (refine step_append_lies _ rfl (.tmp 35) (.tmp 37) 25 rfl base 54 i0 _ 4 40 Tryz.underlying25 hi hz0 hz1 hz2 rfl (by decide) (.slice na L ncap) L (nds M) (by simp [Act.eval]) (HO.out _) ⟨W1.heap.size, 0, none⟩ 1 1 [.int .u32 t, .int .i64 v, .int .i64 0, .string s] (by simp [Act.eval]) rfl (World.news_of_block (heap_alloc_new W1 _)) (by intro u hu; simp at hu; rcases hu with rfl | rfl | rfl | rfl <;> rfl) (by decide) h63 hby (HBS.out _) _ rfl ?_; intro g4 c4 W4 hown4 hgrow4 hat4 hlt4; obtain ⟨q2, f2, HPN, HBN, HKN⟩ := HW4.out _ W4 g4 c4 (((Below.refl _ W1).alloc (Nat.le_refl _) _).drew) hgrow4 hown4; clear hown4 hgrow4 hat4 hlt4))
  all_goals exact bodyPost_end (results_none rfl _ _ _) rfl ⟨by rw [if_neg HMS.out]; exact ⟨rfl, _, HPN⟩, HBN, HKN⟩
set_option maxRecDepth 100000 in
set_option maxHeartbeats 4000000 in
theorem add_some (w : World) (base rb : Nat) (bv : Value) (n k : Nat) (M : List Nd) (sp : Sp) (r : List Sp) (nv : Value) (g sc : Nat) (t : Int) (v : Int) (s : ByteArray) (hP : PR base rb bv w k M (sp :: r) nv (.slice (some ⟨g, 0, none⟩) (r.length + 1) sc)) (hI : PI n k M (sp :: r)) (hn : n ≤ 1048576) (hm : M.length ≠ 4096) (p : Nat) (hnode : sp.node = some p) :
    Calls Tryz.prog 97 #[.pointer (some ⟨rb, 0, none⟩), .agg #[.int .u32 t, .int .i64 v, .int .i64 0, .string s]] w (AddP base rb bv w k M (bump M sp.node 1 ++ [⟨t, v, 0, s⟩]) (sp :: r) (.slice (some ⟨g, 0, none⟩) (r.length + 1) sc)) := by
  obtain ⟨W0, hW0⟩ : ∃ W0, w.alloc (.cells #[.int .u32 t, .int .i64 v, .int .i64 0, .string s] 54) = W0 := ⟨_, rfl⟩
  have hb0 : Below w.heap.size w W0 := by rw [← hW0]; exact (Below.refl _ _).alloc (Nat.le_refl _) _
  have hP0 := hP.on hb0
  have y : W0.cell? ⟨w.heap.size, 0, none⟩ = some (.int .u32 t) ∧ W0.cell? ⟨w.heap.size, 1, none⟩ = some (.int .i64 v) ∧ W0.cell? ⟨w.heap.size, 2, none⟩ = some (.int .i64 0) ∧ W0.cell? ⟨w.heap.size, 3, none⟩ = some (.string s) := by
    rw [← hW0]; exact ⟨by simp, by simp, by simp, by simp⟩
  obtain ⟨y0, y1, y2, y3⟩ := y
  have hl := hI.ln
  obtain ⟨hk, hf⟩ := hI.le
  simp only [List.length_cons] at hl
  obtain ⟨na, ncap, rfl, hna⟩ := own_form hP.nd
  have hml := hI.mo.l
  have c2 := hP0.c2
  have cI := inner_any W0 rb g r.length sc (by omega) hP0.c3
  obtain ⟨s0, -⟩ := hP0.sc
  have b1 : ((M.length : Int) == 4096) = false := beq_eq_false_iff_ne.2 (by omega)
  have HP0 : Hid _ := hP0
  have HB : Hid (base ≤ w.heap.size) := hP.lt
  have HM : Hid (M.length ≠ 4096 ∧ M.length ≤ 4096) := ⟨hm, hml⟩
  have HMS : Hid (M.length ≠ 4096) := hm
  rw [hnode] at s0 ⊢
  have hp := hI.nd sp List.mem_cons_self p hnode
  obtain ⟨gn, rfl, hnc⟩ := hna (by omega)
  have hnp := hI.mo.a (M[p]'hp) (List.getElem_mem hp)
  have hn0 := hnp.n0
  have hn1 := hnp.n1
  obtain ⟨z, hz⟩ : ∃ z, (M[p]'hp).n = z := ⟨_, rfl⟩
  have d2 : W0.cell? ⟨gn, p * 4 + 2, none⟩ = some (.int .i64 z) := by
    have := (World.ownsRow.cellAt hP0.nd (p * 4 + 2) (by omega)).trans (Wk.nds_get M p hp 2 (by decide))
    rw [this, ← hz]
    rfl
  have fn := World.ownsRow.frozenAt hP0.nd (p * 4 + 2)
  have HBM : Hid (bump M (some p) 1 = M.set p { (M[p]'hp) with n := (M[p]'hp).n + 1 }) := bump_set hp
  have HNE : Hid (gn ≠ w.heap.size) := Nat.ne_of_lt (World.ownsRow.lt hP.nd gn rfl).2
  have HDN : Hid (∀ W, PR base rb bv W k M (sp :: r) (.slice (some ⟨gn, 0, none⟩) M.length ncap) (.slice (some ⟨g, 0, none⟩) (r.length + 1) sc) → PR base rb bv (W.setCell ⟨gn, p * 4 + 2, none⟩ (.int .i64 (z + 1))) k (bump M (some p) 1) (sp :: r) (.slice (some ⟨gn, 0, none⟩) M.length ncap) (.slice (some ⟨g, 0, none⟩) (r.length + 1) sc) ∧ Below base W (W.setCell ⟨gn, p * 4 + 2, none⟩ (.int .i64 (z + 1))) ∧ Kp W (W.setCell ⟨gn, p * 4 + 2, none⟩ (.int .i64 (z + 1)))) := fun W hW => by
    obtain ⟨a, b⟩ := World.ownsRow.stored hW.nd (p * 4 + 2) (.int .i64 (z + 1))
    rw [nds_setN' M p hp (z + 1), ← hz, ← HBM.out] at a
    refine ⟨hW.keepN (by rw [← hz] at b; exact hz ▸ b) (by rw [bump_len, ← hz]; exact a) (bump_len _ _ _), below_grown hW.nd b hW.lt, Kp.grown hW.nd b (by decide)⟩
  rw [hz] at hn0 hn1
  obtain ⟨L, hL⟩ : ∃ L, M.length = L := ⟨_, rfl⟩
  obtain ⟨m, hmm⟩ : ∃ m, r.length = m := ⟨_, rfl⟩
  have HL : Hid _ := hL
  rw [hL] at c2 b1 HM HP0 HDN hp hnc hn1
  rw [hmm] at cI s0
  obtain ⟨i0, hi, hz0, hz1, hz2⟩ := info_parts Wk.info34
  clear hP hP0 hI hm hn hk hf hl hml hmm
  go_enter Tryz.func97, Tryz.ntmps97
  go_wp2_with (go_at_call 57; refine StopV.out ?_)
  refine ⟨Calls.mono cI ?_⟩
  rintro e W1 ⟨rfl, hb1⟩
  have s01 : W1.cell? ⟨g, m * 6, none⟩ = some (.int .i64 (p : Int)) := (hb1.cell (Rp.cell_lt s0)).trans s0
  have c21 := (hb1.cell (Rp.cell_lt c2)).trans c2
  have HP1 : Hid _ := HP0.out.on hb1
  have z0 := (hb1.cell (Rp.cell_lt y0)).trans y0
  have z1 := (hb1.cell (Rp.cell_lt y1)).trans y1
  have z2 := (hb1.cell (Rp.cell_lt y2)).trans y2
  have z3 := (hb1.cell (Rp.cell_lt y3)).trans y3
  clear y0 y1 y2 y3 s0 c2 cI HP0
  have d21 := (hb1.cell (Rp.cell_lt d2)).trans d2
  have fn1 : W1.frozen? ⟨gn, p * 4 + 2, none⟩ = false := (hb1.frozen (p := ⟨gn, p * 4 + 2, none⟩) (Rp.cell_lt d2)).trans fn
  obtain ⟨W2, hW2⟩ : ∃ W2, W1.setCell ⟨gn, p * 4 + 2, none⟩ (.int .i64 (z + 1)) = W2 := ⟨_, rfl⟩
  have hwz : IntKind.i64.wrap (z + 1) = z + 1 := by rw [IntKind.wrap_i64]; have := HM.out.2; omega
  have hpL : (p : Int) < (L : Int) := by omega
  have hpi : ((p : Int) == -1) = false := beq_eq_false_iff_ne.2 (by omega)
  have hpi2 : ((p : Int) != -1) = true := bne_iff_ne.2 (by omega)
  have HP2 : Hid (PR base rb bv W2 k (bump M (some p) 1) (sp :: r) (.slice (some ⟨gn, 0, none⟩) L ncap) (.slice (some ⟨g, 0, none⟩) (r.length + 1) sc)) := by rw [← hW2]; exact (HDN.out W1 HP1.out).1
  have HB2 : Hid (Below base W1 W2) := by rw [← hW2]; exact (HDN.out W1 HP1.out).2.1
  have HK2 : Hid (Kp W1 W2) := by rw [← hW2]; exact (HDN.out W1 HP1.out).2.2
  have HL2 : Hid ((bump M (some p) 1).length = L) := by show _ = _; rw [bump_len, HL.out]
  have c22 := HP2.out.c2
  have x0 : W2.cell? ⟨w.heap.size, 0, none⟩ = some (.int .u32 t) := by rw [← hW2]; exact (Rp.cell_set_off HNE.out).trans z0
  have x1 : W2.cell? ⟨w.heap.size, 1, none⟩ = some (.int .i64 v) := by rw [← hW2]; exact (Rp.cell_set_off HNE.out).trans z1
  have x2 : W2.cell? ⟨w.heap.size, 2, none⟩ = some (.int .i64 0) := by rw [← hW2]; exact (Rp.cell_set_off HNE.out).trans z2
  have x3 : W2.cell? ⟨w.heap.size, 3, none⟩ = some (.string s) := by rw [← hW2]; exact (Rp.cell_set_off HNE.out).trans z3
  clear d2 fn HDN hp hnc hn1 hn0 hnode HBM
  obtain ⟨M1, hM1⟩ : ∃ M1, bump M (some p) 1 = M1 := ⟨_, rfl⟩
  have HM1 : Hid _ := hM1
  rw [hM1] at HP2 HL2
  clear hM1
  go_wp2
  have HW4 : Hid (∀ (X W4 : World) (g4 c4 : Nat), Below W2.heap.size W2 X → X.grownBy W4 (Value.slice (some ⟨gn, 0, none⟩) L ncap).ownBlock → W4.ownsRow base 54 4 (.slice (some ⟨g4, 0, none⟩) (L + 1) c4) (L + 1) (nds M1 ++ [.int .u32 t, .int .i64 v, .int .i64 0, .string s]) →
      W4.cell? ⟨rb, 2, none⟩ = some (.slice (some ⟨gn, 0, none⟩) L ncap) ∧ W4.frozen? ⟨rb, 2, none⟩ = false ∧ PR base rb bv (W4.setCell ⟨rb, 2, none⟩ (.slice (some ⟨g4, 0, none⟩) (L + 1) c4)) k (M1 ++ [⟨t, v, 0, s⟩]) (sp :: r) (.slice (some ⟨g4, 0, none⟩) (L + 1) c4) (.slice (some ⟨g, 0, none⟩) (r.length + 1) sc) ∧ Below base w (W4.setCell ⟨rb, 2, none⟩ (.slice (some ⟨g4, 0, none⟩) (L + 1) c4)) ∧ Kp w (W4.setCell ⟨rb, 2, none⟩ (.slice (some ⟨g4, 0, none⟩) (L + 1) c4))) := by
    intro X W4 g4 c4 hX hg ho
    have hPX := HP2.out.on hX
    have hn' : W4.ownsRow base 54 4 (.slice (some ⟨g4, 0, none⟩) (L + 1) c4) (M1 ++ [(⟨t, v, 0, s⟩ : Nd)]).length (nds (M1 ++ [(⟨t, v, 0, s⟩ : Nd)])) := by
      rw [List.length_append, HL2.out, Wk.nds_append]
      exact ho
    obtain ⟨a, b, c⟩ := hPX.grownN hg hn' (by rw [List.length_append]; simp)
    have hbx : Below base w X := (((hb0.mono HB.out).trans (hb1.mono (Nat.le_trans HB.out hb0.size))).trans HB2.out).trans (hX.mono HP2.out.lt)
    exact ⟨a, b, c, (hbx.trans (below_grown hPX.nd hg hPX.lt)).setCell (p := ⟨rb, 2, none⟩) hPX.hb _, (((((Kp.of hb0).trans (Kp.of hb1)).trans HK2.out).trans (Kp.of hX)).trans (Kp.grown hPX.nd hg (by decide))).trans (Kp.set (by obtain ⟨cs, ht⟩ := hPX.ty; exact ⟨cs, (grown_other hPX.nd hg ht (by decide)).trans ht⟩) (by decide))⟩
  have HO : Hid (∀ o, (W2.alloc o).ownsRow base 54 4 (.slice (some ⟨gn, 0, none⟩) L ncap) L (nds M1)) := fun o => by
    have := HP2.out.nd
    rw [HL2.out] at this
    exact World.ownsRow.alloc this o
  have HBS : Hid (∀ o, base ≤ (W2.alloc o).heap.size) := fun o => Nat.le_trans HP2.out.lt (by simp)
  have h63 : L + 1 ≤ maxLen := by have := HM.out.2; unfold maxLen; omega
  have hby : (L + 1) * 40 ≤ 140737488355328 := by have := HM.out.2; omega
  have c2a : ∀ o, (W2.alloc o).cell? ⟨rb, 2, none⟩ = some (.slice (some ⟨gn, 0, none⟩) L ncap) := fun o => (((Below.refl _ W2).alloc (Nat.le_refl _) o).cell (Rp.cell_lt c22)).trans c22
  clear hb1 s01 HP1 HP2 HB2 HK2 d21 fn1 z0 z1 z2 z3 hW2
  go_region_law (go_loud (refine step_append_lies _ rfl (.tmp 35) (.tmp 37) 25 rfl base 54 i0 _ 4 40 Tryz.underlying25 hi hz0 hz1 hz2 rfl (by decide) (.slice (some ⟨gn, 0, none⟩) L ncap) L (nds M1) (by simp [Act.eval]) (HO.out _) ⟨W2.heap.size, 0, none⟩ 1 1 [.int .u32 t, .int .i64 v, .int .i64 0, .string s] (by simp [Act.eval]) rfl (World.news_of_block (heap_alloc_new W2 _)) (by intro u hu; simp at hu; rcases hu with rfl | rfl | rfl | rfl <;> rfl) (by decide) h63 hby (HBS.out _) _ rfl ?_; intro g4 c4 W4 hown4 hgrow4 hat4 hlt4; obtain ⟨q2, f2, HPN, HBN, HKN⟩ := HW4.out _ W4 g4 c4 (((Below.refl _ W2).alloc (Nat.le_refl _) _).drew) hgrow4 hown4; clear hown4 hgrow4 hat4 hlt4))
  all_goals exact bodyPost_end (results_none rfl _ _ _) rfl ⟨by rw [if_neg HMS.out, HM1.out]; exact ⟨rfl, _, HPN⟩, HBN, HKN⟩
set_option maxRecDepth 100000 in
set_option maxHeartbeats 4000000 in
theorem add_full (w : World) (base rb : Nat) (bv : Value) (k : Nat) (M : List Nd) (sp : Sp) (r : List Sp) (nv : Value) (g sc : Nat) (t : Int) (v : Int) (s : ByteArray) (hP : PR base rb bv w k M (sp :: r) nv (.slice (some ⟨g, 0, none⟩) (r.length + 1) sc)) (hm : M.length = 4096) :
    Calls Tryz.prog 97 #[.pointer (some ⟨rb, 0, none⟩), .agg #[.int .u32 t, .int .i64 v, .int .i64 0, .string s]] w (AddP base rb bv w k M (bump M sp.node 1 ++ [⟨t, v, 0, s⟩]) (sp :: r) (.slice (some ⟨g, 0, none⟩) (r.length + 1) sc)) := by
  obtain ⟨W0, hW0⟩ : ∃ W0, w.alloc (.cells #[.int .u32 t, .int .i64 v, .int .i64 0, .string s] 54) = W0 := ⟨_, rfl⟩
  have hb0 : Below w.heap.size w W0 := by rw [← hW0]; exact (Below.refl _ _).alloc (Nat.le_refl _) _
  have hP0 := hP.on hb0
  obtain ⟨na, ncap, rfl, hna⟩ := own_form hP.nd
  have c2 := hP0.c2
  have cG := giveUp_any W0 rb k 127 hP0.c1
  have HB : Hid (base ≤ w.heap.size) := hP.lt
  have HMS : Hid (M.length = 4096) := hm
  rw [hm] at c2
  clear hP hP0 hm hna
  go_enter Tryz.func97, Tryz.ntmps97
  go_wp2_with (go_at_call 93; refine StopV.out ?_)
  refine ⟨Calls.mono cG ?_⟩
  rintro e W2 ⟨⟨q, rfl, hc⟩, HB2⟩
  exact ⟨rfl, by rw [if_pos HMS.out]; exact ⟨q, rfl, hc⟩, (hb0.mono HB.out).trans (HB2.out.mono (Nat.le_trans HB.out hb0.size)), (Kp.of hb0).trans (Kp.of HB2.out)⟩
theorem add_any (w : World) (base rb : Nat) (bv : Value) (n k : Nat) (M : List Nd) (sp : Sp) (r : List Sp) (nv : Value) (g sc : Nat) (t : Int) (v : Int) (s : ByteArray) (hP : PR base rb bv w k M (sp :: r) nv (.slice (some ⟨g, 0, none⟩) (r.length + 1) sc)) (hI : PI n k M (sp :: r)) (hn : n ≤ 1048576) :
    Calls Tryz.prog 97 #[.pointer (some ⟨rb, 0, none⟩), .agg #[.int .u32 t, .int .i64 v, .int .i64 0, .string s]] w (AddP base rb bv w k M (bump M sp.node 1 ++ [⟨t, v, 0, s⟩]) (sp :: r) (.slice (some ⟨g, 0, none⟩) (r.length + 1) sc)) := by
  by_cases hm : M.length = 4096
  · exact add_full w base rb bv k M sp r nv g sc t v s hP hm
  · rcases hnode : sp.node with _ | p
    · have := add_none w base rb bv n k M sp r nv g sc t v s hP hI hn hm hnode
      rw [hnode] at this
      exact this
    · have := add_some w base rb bv n k M sp r nv g sc t v s hP hI hn hm p hnode
      rw [hnode] at this
      exact this
end Go.Proofs.YtoikdpjjcnmgeaaGreatDoor
