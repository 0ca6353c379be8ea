import Derived.Test.YtiieikdbhpflgaaDoorXl
/-
  DERIVED. The action that sends the PDU that was kept.
-/
namespace Go.Proofs.YtiieikdbhpflgaaDoor
open Go Go.Proofs Go.RowKit

/-- What sendKept leaves. -/
def KeptP (w : World) (p : Nat) (PV : Array Value) (k : Int) (c : Fin 18 → Value) (D : PdD) (x : Ending) (w' : World) : Prop :=
  ∃ v PV' c', x = .returned v ∧ One w.heap.size w' v 3 0 k c' ∧ PvX w' p PV' 0 zc D0 ∧ (∀ j, j < 4 → PV'[j]? = PV[j]?) ∧ OX w.heap.size w' c' D ∧ (∀ i, i ≠ 4 → i ≠ 12 → i ≠ 13 → i ≠ 17 → c' i = c i) ∧ BelBut p w w'
set_option maxRecDepth 100000 in
set_option maxHeartbeats 2000000 in
theorem sendKept_any (w : World) (p : Nat) (ev word : Value) (PV : Array Value) (k : Int) (c : Fin 18 → Value) (D : PdD) (hP : PvX w p PV k c D) :
    Calls Tryd.prog 66 #[.pointer (some ⟨p, 0, none⟩), ev, word] w (KeptP w p PV k c D) := by
  have hpl := hP.lt
  have r3 : w.rangeAt p 4 (Pd k c).toList := fun j v hv => by rw [cell_of_row w _ _ _ _ _ hP.row]; exact hP.kept j v hv
  have r3' : (w.alloc (.cells #[.int .i64 0, .int .u16 0, .string ⟨#[]⟩, .string ⟨#[]⟩, .string ⟨#[]⟩, .slice none 0 0, .bool false, .int .u32 0, .string ⟨#[]⟩, .string ⟨#[]⟩, .bool false, .int .u16 0, .int .u16 0, .slice none 0 0, .slice none 0 0, .int .u8 0, .int .u8 0, .int .u8 0, .slice none 0 0] 40)).rangeAt p 4 (Pd k c).toList := fun j v hv => by
    rw [cell_of_row _ _ _ _ _ _ ((Below.heap_alloc _ _ _ hpl).trans hP.row)]; exact hP.kept j v hv
  obtain ⟨fs4, hu4⟩ := hu40
  have hpo := pd_one k c hP.ox.one
  have hzo := pd_one 0 zc zc_one
  have hs40 := size40' k c
  have hs0 := size40' 0 zc
  have hsL := size40 k c
  have hb0 := pd_zero0
  obtain ⟨W1, hW1⟩ : ∃ W1, w.alloc (.cells #[.int .i64 0, .int .u16 0, .string ⟨#[]⟩, .string ⟨#[]⟩, .string ⟨#[]⟩, .slice none 0 0, .bool false, .int .u32 0, .string ⟨#[]⟩, .string ⟨#[]⟩, .bool false, .int .u16 0, .int .u16 0, .slice none 0 0, .slice none 0 0, .int .u8 0, .int .u8 0, .int .u8 0, .slice none 0 0] 40) = W1 := ⟨_, rfl⟩
  have hg1 : W1.heap[w.heap.size]? = some (.cells #[.int .i64 0, .int .u16 0, .string ⟨#[]⟩, .string ⟨#[]⟩, .string ⟨#[]⟩, .slice none 0 0, .bool false, .int .u32 0, .string ⟨#[]⟩, .string ⟨#[]⟩, .bool false, .int .u16 0, .int .u16 0, .slice none 0 0, .slice none 0 0, .int .u8 0, .int .u8 0, .int .u8 0, .slice none 0 0] 40) := hW1 ▸ alloc_new w _
  have hb1 : Below w.heap.size w W1 := hW1 ▸ (Below.refl _ _).alloc (Nat.le_refl _) _
  have hPs : (#[.int .i64 0, .int .u16 0, .string ⟨#[]⟩, .string ⟨#[]⟩, .string ⟨#[]⟩, .slice none 0 0, .bool false, .int .u32 0, .string ⟨#[]⟩, .string ⟨#[]⟩, .bool false, .int .u16 0, .int .u16 0, .slice none 0 0, .slice none 0 0, .int .u8 0, .int .u8 0, .int .u8 0, .slice none 0 0] : Array Value).size = (Pd k c).size := rfl
  obtain ⟨W2, hW2⟩ : ∃ W2, W1.setRow w.heap.size (Pd k c) = W2 := ⟨_, rfl⟩
  have hg2 : W2.heap[w.heap.size]? = some (.cells (Pd k c) 40) := hW2 ▸ setRow_heap W1 _ _ _ _ _ hg1
  have hb2 : Below w.heap.size w W2 := hW2 ▸ below_setRow hb1 (Nat.le_refl _) _
  have hr2 : W2.heap[p]? = some (.cells PV 42) := (hb2.block p hpl).trans hP.row
  have hth := there_row hr2 4 19 (by rw [hP.sz]; omega)
  obtain ⟨Q6, q1, q2, q3, q4, q5, q6, q7⟩ := setCells_row (Pd 0 zc).toList 4 _ PV hr2 (fun v hv => Array.all_eq_true_iff_forall_mem.1 hzo v (by simpa using hv)) hP.one (by omega)
  have hq6 := setCells_rowx (Pd 0 zc).toList 4 _ PV hr2 (by rw [hP.sz]; show 4 + 19 ≤ 23; omega) Q6 q1
  have hth' : W2.there p 4 (Pd 0 zc).size := hth
  obtain ⟨W3, hW3⟩ : ∃ W3, W2.setCells p 4 (Pd 0 zc).toList = W3 := ⟨_, rfl⟩
  rw [hW3] at q1 q5 q6 q7
  have s2 := hb2.size
  have hbb : BelBut p w W3 := by
    have h6 := q6 p (Nat.le_refl _)
    exact ⟨h6.os.trans hb2.os, h6.tape.trans hb2.tape, h6.output.trans hb2.output, by rw [q7]; exact s2, fun b hb hp => (q5 b hp).trans (hb2.block b hb)⟩
  have hg3 : W3.heap[w.heap.size]? = some (.cells (Pd k c) 40) := (q5 _ (by omega)).trans hg2
  have hox3 : OX (p + 1) W3 c D := hP.ox.keep fun b h1 h2 => hbb.block b h2 (by omega)
  have hcp := copied_any W3 k c D hox3.rx
  have HF : Hid (PvX W3 p Q6 0 zc D0 ∧ (∀ j, j < 4 → Q6[j]? = PV[j]?) ∧ BelBut p w W3) := ⟨⟨q1, q2.trans hP.sz, q4, hq6.2, ox_zero _ _ _ zc_one rfl rfl rfl rfl⟩, fun j hj => hq6.1 j (.inl hj), hbb⟩
  clear hP hr2 hth q1 q2 q3 q4 q5 q6 q7 hq6 s2 hbb hox3 hb1 hb2 hg2
  generalize hPZ : Pd 0 zc = PZ at hb0 hs0 hzo hth' hW3
  rw [hW1] at r3'
  generalize hPQ : Pd k c = PQ at hpo hs40 hPs hW2 hg3 hcp r3 r3' hsL
  have HPQ : Hid (Pd k c = PQ) := hPQ
  have HG3 : Hid ((W2.setCells p 4 PZ.toList).heap[w.heap.size]? = some (.cells PQ 40)) := by rw [hW3]; exact hg3
  clear hPZ hPQ hg3
  go_enter Tryd.func66, Tryd.ntmps66
  go_wp2_with (first | (refine wpList_load_mid rfl 40 (.tmp 10) rfl p 4 rfl PQ.toList _ r3 hu4 rfl hsL ?_) | (refine wpList_store_row rfl 40 (.tmp 7) (.tmp 11) rfl w.heap.size PQ rfl rfl 40 _ hg1 hs40 hPs hpo ?_) | (refine step_build rfl 40 _ rfl PZ (by simp [Act.eval]; exact hb0) ?_) | (refine wpList_store_mid rfl 40 (.tmp 15) (.tmp 13) rfl p 4 PZ rfl rfl hth' hs0 hzo ?_) | (refine wpList_load_row rfl 40 (.tmp 7) rfl w.heap.size rfl 40 PQ (0, 0) _ HG3.out hu4 rfl hs40 ?_) | (go_at_call 83; refine hcp.mono ?_; refine Stop9.mk ?_))
  rintro x W4 ⟨c3, rfl, hox, hsc, hb4⟩
  have hst := sent_any W4 k c3 hox.one
  have HOX : Hid (OX W3.heap.size W4 c3 D ∧ (∀ i, i ≠ 4 → i ≠ 12 → i ≠ 13 → i ≠ 17 → c3 i = c i) ∧ Below W3.heap.size W3 W4) := ⟨hox, hsc, hb4⟩
  clear hox hsc hb4 hcp r3 r3' hsL hg1 hPs hb0 hs0 hzo hth' HG3 hpo hs40 hW1 hW2 hW3
  go_wp2_with (first | (go_at_call 84; refine hst.mono ?_; refine Stop9.mk ?_))
  rintro x W5 ⟨rfl, hb5⟩
  generalize hRQ : Ac 3 0 k c3 = RQ
  have HRQ : Hid (Ac 3 0 k c3 = RQ) := hRQ
  clear hRQ
  have HB5 : Hid (Below W4.heap.size W4 W5) := hb5
  clear hb5 hst
  go_wp2_with (first | (refine slice1 rfl (.tmp 18) rfl RQ 3 0 k c3 HRQ.out rfl ?_))
  go_ret
  obtain ⟨v, c', hv, ho1, ho2, ho3, ho4⟩ := act1_of HOX.out.1 HOX.out.2.1 HOX.out.2.2 HRQ.out HB5.out
  have hs3 := HF.out.2.2.size
  obtain ⟨g, hg1, hg2, hg3⟩ := ho1
  exact ⟨v, Q6, c', hv, ⟨g, hg1, by omega, hg3⟩, HF.out.1.on ho4, HF.out.2.1, ho2.low hs3, ho3, HF.out.2.2.trans (.of ho4)⟩
end Go.Proofs.YtiieikdbhpflgaaDoor
