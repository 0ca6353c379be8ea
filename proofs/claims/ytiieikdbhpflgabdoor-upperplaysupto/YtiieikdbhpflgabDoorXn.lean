import Derived.Test.YtiieikdbhpflgabDoorXk
/-
  DERIVED. The provider's row; the action that keeps a PDU.
-/
namespace Go.Proofs.YtiieikdbhpflgabDoor
open Go Go.Proofs Go.RowKit

/-- A provider; the PDU that it keeps says D. -/
structure PvX (W : World) (p : Nat) (PV : Array Value) (k : Int) (c : Fin 18 → Value) (D : PdD) (F : Nat → Prop) : Prop where
  row : W.heap[p]? = some (.cells PV 68)
  sz : PV.size = 23
  one : PV.all (·.oneCell') = true
  kept : ∀ j v, (Pd k c).toList[j]? = some v → PV[4 + j]? = some v
  ox : OXF F (p + 1) W c D
theorem PvX.lt {W : World} {p : Nat} {PV : Array Value} {k : Int} {c : Fin 18 → Value} {D : PdD} {F : Nat → Prop} (h : PvX W p PV k c D F) : p < W.heap.size := (Array.getElem?_eq_some_iff.1 h.row).1
theorem PvX.on {W W' : World} {p : Nat} {PV : Array Value} {k : Int} {c : Fin 18 → Value} {D : PdD} {F : Nat → Prop} (h : PvX W p PV k c D F) (hb : Below W.heap.size W W') : PvX W' p PV k c D F :=
  ⟨(hb.block p h.lt).trans h.row, h.sz, h.one, h.kept, h.ox.keep fun b _ hlt => hb.block b hlt⟩
/-- Only one block of the memory that was there has turned. -/
structure BelBut (p : Nat) (w w' : World) : Prop where
  os : w'.os = w.os
  tape : w'.tape = w.tape
  output : w'.output = w.output
  size : w.heap.size ≤ w'.heap.size
  block : ∀ b, b < w.heap.size → b ≠ p → w'.heap[b]? = w.heap[b]?
theorem BelBut.of {p : Nat} {w w' : World} (h : Below w.heap.size w w') : BelBut p w w' := ⟨h.os, h.tape, h.output, h.size, fun b hb _ => h.block b hb⟩
theorem BelBut.trans {p : Nat} {w w' w'' : World} (h : BelBut p w w') (h2 : BelBut p w' w'') : BelBut p w w'' :=
  ⟨h2.os.trans h.os, h2.tape.trans h.tape, h2.output.trans h.output, Nat.le_trans h.size h2.size, fun b hb hp => (h2.block b (Nat.lt_of_lt_of_le hb h.size) hp).trans (h.block b hb hp)⟩
/-- What connect leaves. -/
def ConP (w : World) (p : Nat) (PV : Array Value) (k1 : Int) (c1 : Fin 18 → Value) (D1 : PdD) (F1 : Nat → Prop) (x : Ending) (w' : World) : Prop :=
  ∃ v PV' c', x = .returned v ∧ One w.heap.size w' v 1 0 0 zc ∧ PvX w' p PV' k1 c' D1 F1 ∧ PV'[3]? = some (.bool true) ∧ (∀ j, j < 3 → PV'[j]? = PV[j]?) ∧ OX w.heap.size w' c' D1 ∧ (∀ i, i ≠ 4 → i ≠ 12 → i ≠ 13 → i ≠ 17 → c' i = c1 i) ∧ BelBut p w w'
set_option maxRecDepth 100000 in
set_option maxHeartbeats 2000000 in
theorem connect_any (w : World) (p e : Nat) (word : Value) (PV EV : Array Value) (kd k k1 k2 : Int) (c c1 c2 : Fin 18 → Value) (D D1 D2 : PdD) (F F1 : Nat → Prop) (hF1 : ∀ b, w.heap.size ≤ b → F1 b) (hP : PvX w p PV k c D F) (ha : ∃ b, PV[3]? = some (.bool b)) (he : w.heap[e]? = some (.cells EV 48)) (hE : EvX w EV kd k1 c1 D1 k2 c2 D2) :
    Calls Tryd.prog 51 #[.pointer (some ⟨p, 0, none⟩), .pointer (some ⟨e, 0, none⟩), word] w (ConP w p PV k1 c1 D1 F1) := by
  have r3 : w.rangeAt e 1 (Pd k1 c1).toList := fun j v hv => by rw [cell_of_row w _ _ _ _ _ he]; exact hE.pdu j v hv
  have hcp := copied_any w k1 c1 D1 hE.r1
  have hpl : p < w.heap.size := (Array.getElem?_eq_some_iff.1 hP.row).1
  obtain ⟨fs4, hu4⟩ := hu40
  obtain ⟨b0, hb0⟩ := ha
  clear he hE
  go_enter Tryd.func51, Tryd.ntmps51
  go_wp2_with (first | (refine wpList_load_mid rfl 46 (.tmp 11) rfl e 1 rfl (Pd k1 c1).toList _ r3 hu4 rfl (size40 k1 c1) ?_) | (go_at_call 68; refine hcp.mono ?_; refine Stop9.mk ?_))
  rintro x W3 ⟨c3, rfl, hox, hsc, hb3⟩
  have hr3 : W3.heap[p]? = some (.cells PV 68) := (hb3.block p hpl).trans hP.row
  have y3 : W3.cell? ⟨p, 3, none⟩ = some (.bool b0) := by rw [cell_of_row W3 _ _ _ _ _ hr3]; exact hb0
  have y3f : W3.frozen? ⟨p, 3, none⟩ = false := by simp [World.frozen?, hr3]
  have hset := setCell_eq_setRow W3 p 3 PV 68 (0, 0) (.bool true) hr3
  have hr4 : (W3.setCell ⟨p, 3, none⟩ (.bool true)).heap[p]? = some (.cells (PV.setIfInBounds 3 (.bool true)) 68) := by rw [hset]; exact setRow_heap W3 _ _ _ _ _ hr3
  have ho4 : ∀ b, b ≠ p → (W3.setCell ⟨p, 3, none⟩ (.bool true)).heap[b]? = W3.heap[b]? := fun b hb => Below.heap_setCell _ _ _ _ hb
  obtain ⟨P2, hP2⟩ : ∃ P2, PV.setIfInBounds 3 (.bool true) = P2 := ⟨_, rfl⟩
  rw [hP2] at hr4
  have hP2s : P2.size = 23 := by rw [← hP2]; simp [hP.sz]
  have hP23 : P2[3]? = some (.bool true) := by rw [← hP2, Array.getElem?_setIfInBounds]; simp [hP.sz]
  have hP2l : ∀ j, j < 3 → P2[j]? = PV[j]? := fun j hj => by rw [← hP2, Array.getElem?_setIfInBounds]; simp; omega
  have hP21 : P2.all (·.oneCell') = true := by
    rw [← hP2, Array.all_eq_true]
    intro i hi
    rw [Array.getElem_setIfInBounds]
    split
    · rfl
    · have := hP.one
      rw [Array.all_eq_true] at this
      exact this i (by simpa using hi)
  have hth := there_row hr4 4 19 (by rw [hP2s]; omega)
  have hpo := pd_one k1 c3 hox.one
  obtain ⟨Q6, q1, q2, q3, q4, q5, q6, q7⟩ := setCells_row (Pd k1 c3).toList 4 _ P2 hr4 (fun v hv => Array.all_eq_true_iff_forall_mem.1 hpo v (by simpa using hv)) hP21 (by omega)
  have hq6 := setCells_rowx (Pd k1 c3).toList 4 _ P2 hr4 (by rw [hP2s]; show 4 + 19 ≤ 23; omega) Q6 q1
  have hth' : (W3.setCell ⟨p, 3, none⟩ (.bool true)).there p 4 (Pd k1 c3).size := hth
  have hs40 := size40' k1 c3
  have hK : ∀ b, b < w.heap.size → b ≠ p → ((W3.setCell ⟨p, 3, none⟩ (.bool true)).setCells p 4 (Pd k1 c3).toList).heap[b]? = w.heap[b]? := fun b hb hp => (q5 b hp).trans ((ho4 b hp).trans (hb3.block b hb))
  have hsz : ((W3.setCell ⟨p, 3, none⟩ (.bool true)).setCells p 4 (Pd k1 c3).toList).heap.size = W3.heap.size := q7.trans (by simp)
  have hbp : Below p W3 ((W3.setCell ⟨p, 3, none⟩ (.bool true)).setCells p 4 (Pd k1 c3).toList) := ((Below.refl _ _).setCell (p := ⟨p, 3, none⟩) (Nat.le_refl _) _).trans (q6 p (Nat.le_refl _))
  have hox6 : OX w.heap.size ((W3.setCell ⟨p, 3, none⟩ (.bool true)).setCells p 4 (Pd k1 c3).toList) c3 D1 := hox.keep (fun b h1 h2 => (q5 b (by omega)).trans (ho4 b (by omega)))
  have HF : Hid (PvX ((W3.setCell ⟨p, 3, none⟩ (.bool true)).setCells p 4 (Pd k1 c3).toList) p Q6 k1 c3 D1 F1 ∧ Q6[3]? = some (.bool true) ∧ (∀ j, j < 3 → Q6[j]? = PV[j]?) ∧ OX w.heap.size ((W3.setCell ⟨p, 3, none⟩ (.bool true)).setCells p 4 (Pd k1 c3).toList) c3 D1 ∧ BelBut p w ((W3.setCell ⟨p, 3, none⟩ (.bool true)).setCells p 4 (Pd k1 c3).toList)) :=
    ⟨⟨q1, q2.trans hP2s, q4, hq6.2, hox6.low (by omega), PF.of hox6 (fun b hb _ _ => hF1 b hb)⟩, (hq6.1 3 (.inl (by omega))).trans hP23, fun j hj => (hq6.1 j (.inl (by omega))).trans (hP2l j hj), hox6,
      ⟨hbp.os.trans hb3.os, hbp.tape.trans hb3.tape, hbp.output.trans hb3.output, by rw [hsz]; exact hb3.size, hK⟩⟩
  have HS : Hid (∀ i, i ≠ 4 → i ≠ 12 → i ≠ 13 → i ≠ 17 → c3 i = c1 i) := hsc
  obtain ⟨W6, hW6⟩ : ∃ W6, (W3.setCell ⟨p, 3, none⟩ (.bool true)).setCells p 4 (Pd k1 c3).toList = W6 := ⟨_, rfl⟩
  rw [hW6] at HF
  have hb := ac_zero 1
  generalize hRQ : Ac 1 0 0 zc = RQ at hb
  have HRQ : Hid (Ac 1 0 0 zc = RQ) := hRQ
  clear hRQ q1 q2 q3 q4 q5 q6 q7 hq6 hK hsz hbp hox6 hox hsc hb3 hP2s hP23 hP2l hP21 hr4 ho4 hset hr3 hP hcp r3 hth hb0 hP2
  generalize Pd k1 c3 = P3 at hth' hs40 hpo hW6 ⊢
  go_wp2_with (first | (refine wpList_store_mid rfl 46 (.tmp 17) (.tmp 13) rfl p 4 P3 rfl rfl hth' hs40 hpo ?_) | (refine step_build rfl 61 _ rfl RQ (by simp [Act.eval]; exact hb) ?_) | (refine slice1 rfl (.tmp 18) rfl RQ 1 0 0 zc HRQ.out rfl ?_))
  go_ret
  have hA : Below W6.heap.size W6 (W6.alloc (.cells RQ 61)) := (Below.refl _ _).alloc (Nat.le_refl _) _
  refine ⟨_, Q6, c3, rfl, ⟨_, rfl, HF.out.2.2.2.2.size, ?_⟩, HF.out.1.on hA, HF.out.2.1, HF.out.2.2.1, HF.out.2.2.2.1.keep (fun b _ hlt => hA.block b hlt), HS.out, HF.out.2.2.2.2.trans (.of hA)⟩
  rw [HRQ.out]
  exact alloc_new _ _
end Go.Proofs.YtiieikdbhpflgabDoor

/-
  DERIVED. The action that sends the PDU that was kept.
-/
namespace Go.Proofs.YtiieikdbhpflgabDoor
open Go Go.Proofs Go.RowKit

/-- What sendKept leaves. -/
def KeptP (w : World) (p : Nat) (PV : Array Value) (k : Int) (c : Fin 18 → Value) (D : PdD) (x : Ending) (w' : World) : Prop :=
  ∃ v PV' c', x = .returned v ∧ One w.heap.size w' v 3 0 k c' ∧ PvX w' p PV' 0 zc D0 (fun _ => False) ∧ (∀ j, j < 4 → PV'[j]? = PV[j]?) ∧ OX w.heap.size w' c' D ∧ (∀ i, i ≠ 4 → i ≠ 12 → i ≠ 13 → i ≠ 17 → c' i = c i) ∧ BelBut p w w'
set_option maxRecDepth 100000 in
set_option maxHeartbeats 2000000 in
theorem sendKept_any (w : World) (p : Nat) (ev word : Value) (PV : Array Value) (k : Int) (c : Fin 18 → Value) (D : PdD) (F : Nat → Prop) (hP : PvX w p PV k c D F) :
    Calls Tryd.prog 52 #[.pointer (some ⟨p, 0, none⟩), ev, word] w (KeptP w p PV k c D) := by
  have hpl := hP.lt
  have r3 : w.rangeAt p 4 (Pd k c).toList := fun j v hv => by rw [cell_of_row w _ _ _ _ _ hP.row]; exact hP.kept j v hv
  have r3' : (w.alloc (.cells #[.int .i64 0, .int .u16 0, .string ⟨#[]⟩, .string ⟨#[]⟩, .string ⟨#[]⟩, .slice none 0 0, .bool false, .int .u32 0, .string ⟨#[]⟩, .string ⟨#[]⟩, .bool false, .int .u16 0, .int .u16 0, .slice none 0 0, .slice none 0 0, .int .u8 0, .int .u8 0, .int .u8 0, .slice none 0 0] 46)).rangeAt p 4 (Pd k c).toList := fun j v hv => by
    rw [cell_of_row _ _ _ _ _ _ ((Below.heap_alloc _ _ _ hpl).trans hP.row)]; exact hP.kept j v hv
  obtain ⟨fs4, hu4⟩ := hu40
  have hpo := pd_one k c hP.ox.toOX.one
  have hzo := pd_one 0 zc zc_one
  have hs40 := size40' k c
  have hs0 := size40' 0 zc
  have hsL := size40 k c
  have hb0 := pd_zero0
  obtain ⟨W1, hW1⟩ : ∃ W1, w.alloc (.cells #[.int .i64 0, .int .u16 0, .string ⟨#[]⟩, .string ⟨#[]⟩, .string ⟨#[]⟩, .slice none 0 0, .bool false, .int .u32 0, .string ⟨#[]⟩, .string ⟨#[]⟩, .bool false, .int .u16 0, .int .u16 0, .slice none 0 0, .slice none 0 0, .int .u8 0, .int .u8 0, .int .u8 0, .slice none 0 0] 46) = W1 := ⟨_, rfl⟩
  have hg1 : W1.heap[w.heap.size]? = some (.cells #[.int .i64 0, .int .u16 0, .string ⟨#[]⟩, .string ⟨#[]⟩, .string ⟨#[]⟩, .slice none 0 0, .bool false, .int .u32 0, .string ⟨#[]⟩, .string ⟨#[]⟩, .bool false, .int .u16 0, .int .u16 0, .slice none 0 0, .slice none 0 0, .int .u8 0, .int .u8 0, .int .u8 0, .slice none 0 0] 46) := hW1 ▸ alloc_new w _
  have hb1 : Below w.heap.size w W1 := hW1 ▸ (Below.refl _ _).alloc (Nat.le_refl _) _
  have hPs : (#[.int .i64 0, .int .u16 0, .string ⟨#[]⟩, .string ⟨#[]⟩, .string ⟨#[]⟩, .slice none 0 0, .bool false, .int .u32 0, .string ⟨#[]⟩, .string ⟨#[]⟩, .bool false, .int .u16 0, .int .u16 0, .slice none 0 0, .slice none 0 0, .int .u8 0, .int .u8 0, .int .u8 0, .slice none 0 0] : Array Value).size = (Pd k c).size := rfl
  obtain ⟨W2, hW2⟩ : ∃ W2, W1.setRow w.heap.size (Pd k c) = W2 := ⟨_, rfl⟩
  have hg2 : W2.heap[w.heap.size]? = some (.cells (Pd k c) 46) := hW2 ▸ setRow_heap W1 _ _ _ _ _ hg1
  have hb2 : Below w.heap.size w W2 := hW2 ▸ below_setRow hb1 (Nat.le_refl _) _
  have hr2 : W2.heap[p]? = some (.cells PV 68) := (hb2.block p hpl).trans hP.row
  have hth := there_row hr2 4 19 (by rw [hP.sz]; omega)
  obtain ⟨Q6, q1, q2, q3, q4, q5, q6, q7⟩ := setCells_row (Pd 0 zc).toList 4 _ PV hr2 (fun v hv => Array.all_eq_true_iff_forall_mem.1 hzo v (by simpa using hv)) hP.one (by omega)
  have hq6 := setCells_rowx (Pd 0 zc).toList 4 _ PV hr2 (by rw [hP.sz]; show 4 + 19 ≤ 23; omega) Q6 q1
  have hth' : W2.there p 4 (Pd 0 zc).size := hth
  obtain ⟨W3, hW3⟩ : ∃ W3, W2.setCells p 4 (Pd 0 zc).toList = W3 := ⟨_, rfl⟩
  rw [hW3] at q1 q5 q6 q7
  have s2 := hb2.size
  have hbb : BelBut p w W3 := by
    have h6 := q6 p (Nat.le_refl _)
    exact ⟨h6.os.trans hb2.os, h6.tape.trans hb2.tape, h6.output.trans hb2.output, by rw [q7]; exact s2, fun b hb hp => (q5 b hp).trans (hb2.block b hb)⟩
  have hg3 : W3.heap[w.heap.size]? = some (.cells (Pd k c) 46) := (q5 _ (by omega)).trans hg2
  have hox3 : OX (p + 1) W3 c D := hP.ox.toOX.keep fun b h1 h2 => hbb.block b h2 (by omega)
  have hcp := copied_any W3 k c D hox3.rx
  have HF : Hid (PvX W3 p Q6 0 zc D0 (fun _ => False) ∧ (∀ j, j < 4 → Q6[j]? = PV[j]?) ∧ BelBut p w W3) := ⟨⟨q1, q2.trans hP.sz, q4, hq6.2, oxf_zero _ _ _ _ zc_one rfl rfl rfl rfl⟩, fun j hj => hq6.1 j (.inl hj), hbb⟩
  clear hP hr2 hth q1 q2 q3 q4 q5 q6 q7 hq6 s2 hbb hox3 hb1 hb2 hg2
  generalize hPZ : Pd 0 zc = PZ at hb0 hs0 hzo hth' hW3
  rw [hW1] at r3'
  generalize hPQ : Pd k c = PQ at hpo hs40 hPs hW2 hg3 hcp r3 r3' hsL
  have HPQ : Hid (Pd k c = PQ) := hPQ
  have HG3 : Hid ((W2.setCells p 4 PZ.toList).heap[w.heap.size]? = some (.cells PQ 46)) := by rw [hW3]; exact hg3
  clear hPZ hPQ hg3
  go_enter Tryd.func52, Tryd.ntmps52
  go_wp2_with (first | (refine wpList_load_mid rfl 46 (.tmp 10) rfl p 4 rfl PQ.toList _ r3 hu4 rfl hsL ?_) | (refine wpList_store_row rfl 46 (.tmp 7) (.tmp 11) rfl w.heap.size PQ rfl rfl 46 _ hg1 hs40 hPs hpo ?_) | (refine step_build rfl 46 _ rfl PZ (by simp [Act.eval]; exact hb0) ?_) | (refine wpList_store_mid rfl 46 (.tmp 15) (.tmp 13) rfl p 4 PZ rfl rfl hth' hs0 hzo ?_) | (refine wpList_load_row rfl 46 (.tmp 7) rfl w.heap.size rfl 46 PQ (0, 0) _ HG3.out hu4 rfl hs40 ?_) | (go_at_call 68; refine hcp.mono ?_; refine Stop9.mk ?_))
  rintro x W4 ⟨c3, rfl, hox, hsc, hb4⟩
  have hst := sent_any W4 k c3 hox.one
  have HOX : Hid (OX W3.heap.size W4 c3 D ∧ (∀ i, i ≠ 4 → i ≠ 12 → i ≠ 13 → i ≠ 17 → c3 i = c i) ∧ Below W3.heap.size W3 W4) := ⟨hox, hsc, hb4⟩
  clear hox hsc hb4 hcp r3 r3' hsL hg1 hPs hb0 hs0 hzo hth' HG3 hpo hs40 hW1 hW2 hW3
  go_wp2_with (first | (go_at_call 69; refine hst.mono ?_; refine Stop9.mk ?_))
  rintro x W5 ⟨rfl, hb5⟩
  generalize hRQ : Ac 3 0 k c3 = RQ
  have HRQ : Hid (Ac 3 0 k c3 = RQ) := hRQ
  clear hRQ
  have HB5 : Hid (Below W4.heap.size W4 W5) := hb5
  clear hb5 hst
  go_wp2_with (first | (refine slice1 rfl (.tmp 18) rfl RQ 3 0 k c3 HRQ.out rfl ?_))
  go_ret
  obtain ⟨v, c', hv, ho1, ho2, ho3, ho4⟩ := act1_of HOX.out.1 HOX.out.2.1 HOX.out.2.2 HRQ.out HB5.out
  have hs3 := HF.out.2.2.size
  obtain ⟨g, hg1, hg2, hg3⟩ := ho1
  exact ⟨v, Q6, c', hv, ⟨g, hg1, by omega, hg3⟩, HF.out.1.on ho4, HF.out.2.1, ho2.low hs3, ho3, HF.out.2.2.trans (.of ho4)⟩
end Go.Proofs.YtiieikdbhpflgabDoor

/-
  DERIVED. The timer: turn, runs, tick.
-/
namespace Go.Proofs.YtiieikdbhpflgabDoor
open Go Go.Proofs Go.RowKit

set_option maxRecDepth 100000 in
theorem runs9_any (w : World) (p : Nat) (l : Int) (h1 : w.cell? ⟨p, 1, none⟩ = some (.int .i64 l)) : Calls Tryd.prog 33 #[.pointer (some ⟨p, 0, none⟩)] w fun e w' => e = .returned (.bool (decide (0 < l))) ∧ w' = w := by
  by_cases h : 0 < l
  · go_enter Tryd.func33, Tryd.ntmps33
    go_wp2
    go_ret
    exact ⟨by simp [h], rfl⟩
  · go_enter Tryd.func33, Tryd.ntmps33
    go_wp2
    go_ret
    exact ⟨by simp [h], rfl⟩
/-- The timer behind an action. -/
def tuW (w : World) (p : Nat) (a t : Int) : World := if t = 1 then w.setCell ⟨p, 1, none⟩ (.int .i64 a) else if t = 2 then w.setCell ⟨p, 1, none⟩ (.int .i64 0) else w
set_option maxRecDepth 100000 in
theorem turn_any (w : World) (p : Nat) (a l t : Int) (h0 : w.cell? ⟨p, 0, none⟩ = some (.int .i64 a)) (h1 : w.cell? ⟨p, 1, none⟩ = some (.int .i64 l)) (hf : w.frozen? ⟨p, 1, none⟩ = false) : Calls Tryd.prog 38 #[.pointer (some ⟨p, 0, none⟩), .int .i64 t] w fun e w' => e = .returned (.tuple #[]) ∧ w' = tuW w p a t := by
  unfold tuW
  by_cases t1 : t = 1
  · rw [if_pos t1]
    subst t1
    go_enter Tryd.func38, Tryd.ntmps38
    go_wp2
    first | go_end0 | refine bodyPost_end (results_none rfl _ _ _) rfl ?_ | refine bodyPost_ret (results_none rfl _ _ _) rfl ?_ | (simp only [Exit.inBlock, Exit.then]; refine bodyPost_end (results_none rfl _ _ _) rfl ?_)
    exact ⟨rfl, rfl⟩
  · rw [if_neg t1]
    by_cases t2 : t = 2
    · rw [if_pos t2]
      subst t2
      go_enter Tryd.func38, Tryd.ntmps38
      go_wp2
      first | go_end0 | refine bodyPost_end (results_none rfl _ _ _) rfl ?_ | refine bodyPost_ret (results_none rfl _ _ _) rfl ?_ | (simp only [Exit.inBlock, Exit.then]; refine bodyPost_end (results_none rfl _ _ _) rfl ?_)
      exact ⟨rfl, rfl⟩
    · rw [if_neg t2]
      go_enter Tryd.func38, Tryd.ntmps38
      go_wp2
      first | go_end0 | refine bodyPost_end (results_none rfl _ _ _) rfl ?_ | refine bodyPost_ret (results_none rfl _ _ _) rfl ?_ | (simp only [Exit.inBlock, Exit.then]; refine bodyPost_end (results_none rfl _ _ _) rfl ?_)
      exact ⟨rfl, rfl⟩
set_option maxRecDepth 100000 in
theorem tick_off (w : World) (p : Nat) (l : Int) (h1 : w.cell? ⟨p, 1, none⟩ = some (.int .i64 l)) (h : ¬ 0 < l) : Calls Tryd.prog 22 #[.pointer (some ⟨p, 0, none⟩)] w fun e w' => e = .returned (.bool false) ∧ w' = w := by
  have hr := runs9_any w p l h1
  rw [show decide (0 < l) = false by simp [h]] at hr
  go_enter Tryd.func22, Tryd.ntmps22
  go_wp2_with (go_at_call 33; refine hr.mono ?_; rintro e w' ⟨rfl, rfl⟩)
  go_ret
  exact ⟨rfl, rfl⟩
set_option maxRecDepth 100000 in
theorem tick_on (w : World) (p : Nat) (l : Int) (h1 : w.cell? ⟨p, 1, none⟩ = some (.int .i64 l)) (hf : w.frozen? ⟨p, 1, none⟩ = false) (h : 0 < l) (h2 : l ≤ 9223372036854775807) : Calls Tryd.prog 22 #[.pointer (some ⟨p, 0, none⟩)] w fun e w' => e = .returned (.bool (decide (l = 1))) ∧ w' = w.setCell ⟨p, 1, none⟩ (.int .i64 (l - 1)) := by
  have hr := runs9_any w p l h1
  rw [show decide (0 < l) = true by simp [h]] at hr
  have hc : (w.setCell ⟨p, 1, none⟩ (.int .i64 (l - 1))).cell? ⟨p, 1, none⟩ = some (.int .i64 (l - 1)) := cell_set_eq h1
  have hr2 := runs9_any (w.setCell ⟨p, 1, none⟩ (.int .i64 (l - 1))) p (l - 1) hc
  have hw : IntKind.wrap .i64 (l - 1) = l - 1 := by simp [IntKind.wrap_i64]; omega
  have hd : (!decide (1 < l)) = decide (l = 1) := by
    by_cases h3 : l = 1
    · subst h3; rfl
    · have : 1 < l := by omega
      simp [h3, this]
  have HD : Hid ((!decide (1 < l)) = decide (l = 1)) := hd
  clear hd
  go_enter Tryd.func22, Tryd.ntmps22
  go_wp2_with (first | (go_at_call 33; refine hr.mono ?_; rintro e w' ⟨rfl, rfl⟩) | (go_at_call 33; refine hr2.mono ?_; rintro e w' ⟨rfl, rfl⟩))
  go_ret
  exact ⟨by rw [← HD.out]; rfl, rfl⟩
end Go.Proofs.YtiieikdbhpflgabDoor
