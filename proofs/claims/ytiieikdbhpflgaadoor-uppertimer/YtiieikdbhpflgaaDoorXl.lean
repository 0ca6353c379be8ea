import Derived.Test.YtiieikdbhpflgaaDoorXk
/-
  DERIVED. The provider's row; the action that keeps a PDU.
-/
namespace Go.Proofs.YtiieikdbhpflgaaDoor
open Go Go.Proofs Go.RowKit

/-- A provider; the PDU that it keeps says D. -/
structure PvX (W : World) (p : Nat) (PV : Array Value) (k : Int) (c : Fin 18 → Value) (D : PdD) : Prop where
  row : W.heap[p]? = some (.cells PV 42)
  sz : PV.size = 23
  one : PV.all (·.oneCell') = true
  kept : ∀ j v, (Pd k c).toList[j]? = some v → PV[4 + j]? = some v
  ox : OX (p + 1) W c D
theorem PvX.lt {W : World} {p : Nat} {PV : Array Value} {k : Int} {c : Fin 18 → Value} {D : PdD} (h : PvX W p PV k c D) : p < W.heap.size := (Array.getElem?_eq_some_iff.1 h.row).1
theorem PvX.on {W W' : World} {p : Nat} {PV : Array Value} {k : Int} {c : Fin 18 → Value} {D : PdD} (h : PvX W p PV k c D) (hb : Below W.heap.size W W') : PvX W' p PV k c D :=
  ⟨(hb.block p h.lt).trans h.row, h.sz, h.one, h.kept, h.ox.keep fun b _ hlt => hb.block b hlt⟩
/-- Only one block of the memory that was there has turned. -/
structure BelBut (p : Nat) (w w' : World) : Prop where
  os : w'.os = w.os
  tape : w'.tape = w.tape
  output : w'.output = w.output
  size : w.heap.size ≤ w'.heap.size
  block : ∀ b, b < w.heap.size → b ≠ p → w'.heap[b]? = w.heap[b]?
theorem BelBut.of {p : Nat} {w w' : World} (h : Below w.heap.size w w') : BelBut p w w' := ⟨h.os, h.tape, h.output, h.size, fun b hb _ => h.block b hb⟩
theorem BelBut.trans {p : Nat} {w w' w'' : World} (h : BelBut p w w') (h2 : BelBut p w' w'') : BelBut p w w'' :=
  ⟨h2.os.trans h.os, h2.tape.trans h.tape, h2.output.trans h.output, Nat.le_trans h.size h2.size, fun b hb hp => (h2.block b (Nat.lt_of_lt_of_le hb h.size) hp).trans (h.block b hb hp)⟩
/-- What connect leaves. -/
def ConP (w : World) (p : Nat) (PV : Array Value) (k1 : Int) (c1 : Fin 18 → Value) (D1 : PdD) (x : Ending) (w' : World) : Prop :=
  ∃ v PV' c', x = .returned v ∧ One w.heap.size w' v 1 0 0 zc ∧ PvX w' p PV' k1 c' D1 ∧ PV'[3]? = some (.bool true) ∧ (∀ j, j < 3 → PV'[j]? = PV[j]?) ∧ OX w.heap.size w' c' D1 ∧ (∀ i, i ≠ 4 → i ≠ 12 → i ≠ 13 → i ≠ 17 → c' i = c1 i) ∧ BelBut p w w'
set_option maxRecDepth 100000 in
set_option maxHeartbeats 2000000 in
theorem connect_any (w : World) (p e : Nat) (word : Value) (PV EV : Array Value) (kd k k1 k2 : Int) (c c1 c2 : Fin 18 → Value) (D D1 D2 : PdD) (hP : PvX w p PV k c D) (ha : ∃ b, PV[3]? = some (.bool b)) (he : w.heap[e]? = some (.cells EV 50)) (hE : EvX w EV kd k1 c1 D1 k2 c2 D2) :
    Calls Tryd.prog 65 #[.pointer (some ⟨p, 0, none⟩), .pointer (some ⟨e, 0, none⟩), word] w (ConP w p PV k1 c1 D1) := by
  have r3 : w.rangeAt e 1 (Pd k1 c1).toList := fun j v hv => by rw [cell_of_row w _ _ _ _ _ he]; exact hE.pdu j v hv
  have hcp := copied_any w k1 c1 D1 hE.r1
  have hpl : p < w.heap.size := (Array.getElem?_eq_some_iff.1 hP.row).1
  obtain ⟨fs4, hu4⟩ := hu40
  obtain ⟨b0, hb0⟩ := ha
  clear he hE
  go_enter Tryd.func65, Tryd.ntmps65
  go_wp2_with (first | (refine wpList_load_mid rfl 40 (.tmp 11) rfl e 1 rfl (Pd k1 c1).toList _ r3 hu4 rfl (size40 k1 c1) ?_) | (go_at_call 83; refine hcp.mono ?_; refine Stop9.mk ?_))
  rintro x W3 ⟨c3, rfl, hox, hsc, hb3⟩
  have hr3 : W3.heap[p]? = some (.cells PV 42) := (hb3.block p hpl).trans hP.row
  have y3 : W3.cell? ⟨p, 3, none⟩ = some (.bool b0) := by rw [cell_of_row W3 _ _ _ _ _ hr3]; exact hb0
  have y3f : W3.frozen? ⟨p, 3, none⟩ = false := by simp [World.frozen?, hr3]
  have hset := setCell_eq_setRow W3 p 3 PV 42 (0, 0) (.bool true) hr3
  have hr4 : (W3.setCell ⟨p, 3, none⟩ (.bool true)).heap[p]? = some (.cells (PV.setIfInBounds 3 (.bool true)) 42) := by rw [hset]; exact setRow_heap W3 _ _ _ _ _ hr3
  have ho4 : ∀ b, b ≠ p → (W3.setCell ⟨p, 3, none⟩ (.bool true)).heap[b]? = W3.heap[b]? := fun b hb => Below.heap_setCell _ _ _ _ hb
  obtain ⟨P2, hP2⟩ : ∃ P2, PV.setIfInBounds 3 (.bool true) = P2 := ⟨_, rfl⟩
  rw [hP2] at hr4
  have hP2s : P2.size = 23 := by rw [← hP2]; simp [hP.sz]
  have hP23 : P2[3]? = some (.bool true) := by rw [← hP2, Array.getElem?_setIfInBounds]; simp [hP.sz]
  have hP2l : ∀ j, j < 3 → P2[j]? = PV[j]? := fun j hj => by rw [← hP2, Array.getElem?_setIfInBounds]; simp; omega
  have hP21 : P2.all (·.oneCell') = true := by
    rw [← hP2, Array.all_eq_true]
    intro i hi
    rw [Array.getElem_setIfInBounds]
    split
    · rfl
    · have := hP.one
      rw [Array.all_eq_true] at this
      exact this i (by simpa using hi)
  have hth := there_row hr4 4 19 (by rw [hP2s]; omega)
  have hpo := pd_one k1 c3 hox.one
  obtain ⟨Q6, q1, q2, q3, q4, q5, q6, q7⟩ := setCells_row (Pd k1 c3).toList 4 _ P2 hr4 (fun v hv => Array.all_eq_true_iff_forall_mem.1 hpo v (by simpa using hv)) hP21 (by omega)
  have hq6 := setCells_rowx (Pd k1 c3).toList 4 _ P2 hr4 (by rw [hP2s]; show 4 + 19 ≤ 23; omega) Q6 q1
  have hth' : (W3.setCell ⟨p, 3, none⟩ (.bool true)).there p 4 (Pd k1 c3).size := hth
  have hs40 := size40' k1 c3
  have hK : ∀ b, b < w.heap.size → b ≠ p → ((W3.setCell ⟨p, 3, none⟩ (.bool true)).setCells p 4 (Pd k1 c3).toList).heap[b]? = w.heap[b]? := fun b hb hp => (q5 b hp).trans ((ho4 b hp).trans (hb3.block b hb))
  have hsz : ((W3.setCell ⟨p, 3, none⟩ (.bool true)).setCells p 4 (Pd k1 c3).toList).heap.size = W3.heap.size := q7.trans (by simp)
  have hbp : Below p W3 ((W3.setCell ⟨p, 3, none⟩ (.bool true)).setCells p 4 (Pd k1 c3).toList) := ((Below.refl _ _).setCell (p := ⟨p, 3, none⟩) (Nat.le_refl _) _).trans (q6 p (Nat.le_refl _))
  have hox6 : OX w.heap.size ((W3.setCell ⟨p, 3, none⟩ (.bool true)).setCells p 4 (Pd k1 c3).toList) c3 D1 := hox.keep (fun b h1 h2 => (q5 b (by omega)).trans (ho4 b (by omega)))
  have HF : Hid (PvX ((W3.setCell ⟨p, 3, none⟩ (.bool true)).setCells p 4 (Pd k1 c3).toList) p Q6 k1 c3 D1 ∧ Q6[3]? = some (.bool true) ∧ (∀ j, j < 3 → Q6[j]? = PV[j]?) ∧ OX w.heap.size ((W3.setCell ⟨p, 3, none⟩ (.bool true)).setCells p 4 (Pd k1 c3).toList) c3 D1 ∧ BelBut p w ((W3.setCell ⟨p, 3, none⟩ (.bool true)).setCells p 4 (Pd k1 c3).toList)) :=
    ⟨⟨q1, q2.trans hP2s, q4, hq6.2, hox6.low (by omega)⟩, (hq6.1 3 (.inl (by omega))).trans hP23, fun j hj => (hq6.1 j (.inl (by omega))).trans (hP2l j hj), hox6,
      ⟨hbp.os.trans hb3.os, hbp.tape.trans hb3.tape, hbp.output.trans hb3.output, by rw [hsz]; exact hb3.size, hK⟩⟩
  have HS : Hid (∀ i, i ≠ 4 → i ≠ 12 → i ≠ 13 → i ≠ 17 → c3 i = c1 i) := hsc
  obtain ⟨W6, hW6⟩ : ∃ W6, (W3.setCell ⟨p, 3, none⟩ (.bool true)).setCells p 4 (Pd k1 c3).toList = W6 := ⟨_, rfl⟩
  rw [hW6] at HF
  have hb := ac_zero 1
  generalize hRQ : Ac 1 0 0 zc = RQ at hb
  have HRQ : Hid (Ac 1 0 0 zc = RQ) := hRQ
  clear hRQ q1 q2 q3 q4 q5 q6 q7 hq6 hK hsz hbp hox6 hox hsc hb3 hP2s hP23 hP2l hP21 hr4 ho4 hset hr3 hP hcp r3 hth hb0 hP2
  generalize Pd k1 c3 = P3 at hth' hs40 hpo hW6 ⊢
  go_wp2_with (first | (refine wpList_store_mid rfl 40 (.tmp 17) (.tmp 13) rfl p 4 P3 rfl rfl hth' hs40 hpo ?_) | (refine step_build rfl 57 _ rfl RQ (by simp [Act.eval]; exact hb) ?_) | (refine slice1 rfl (.tmp 18) rfl RQ 1 0 0 zc HRQ.out rfl ?_))
  go_ret
  have hA : Below W6.heap.size W6 (W6.alloc (.cells RQ 57)) := (Below.refl _ _).alloc (Nat.le_refl _) _
  refine ⟨_, Q6, c3, rfl, ⟨_, rfl, HF.out.2.2.2.2.size, ?_⟩, HF.out.1.on hA, HF.out.2.1, HF.out.2.2.1, HF.out.2.2.2.1.keep (fun b _ hlt => hA.block b hlt), HS.out, HF.out.2.2.2.2.trans (.of hA)⟩
  rw [HRQ.out]
  exact alloc_new _ _
end Go.Proofs.YtiieikdbhpflgaaDoor
