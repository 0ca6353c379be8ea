import Derived.Test.YtiieikdbhpflgabDoorVg
/-
  DERIVED. keptEvent: an event that was lent is as it was, the values' spare room too.
-/
namespace Go.Proofs.YtiieikdbhpflgabDoor
open Go Go.Proofs Go.RowKit

theorem wpList_load_midG {P : Program} {ops : Array Oper} {rest : List Oper} {op : Oper} {a : Act} {w : World} {Q : Exit → Act → World → Prop} (hw : Region.wanted op (yielded ops a.tmps) = true) (ty : TypeId) (x : Operand) (ho : op.op = .load ty x)
    (b o : Nat) (hx : a.eval x = .pointer (some ⟨b, o, none⟩)) (cs : List Value) (d : TypeDesc) (hc : w.rangeAt b o cs)
    (hu : P.underlying ty = some d) (hd : d.isRow = true) (hi : (P.info? ty).map (·.size) = some cs.length)
    (h : wpList P ops Q rest (a.put op.dst (.agg cs.toArray)) w) : wpList P ops Q (op :: rest) a w := by
  simp only [wpList, hw, if_true]
  exact .inl (wp_load_mid ty x ho b o hx cs d hc hu hd hi h)
set_option maxRecDepth 100000 in
set_option maxHeartbeats 4000000 in
theorem keptEvent_any (W : World) (Q EV : Array Value) (kd k1 k2 : Int) (c3 c4 c1 c2 : Fin 18 → Value) (D1 D2 : PdD) (M2 : Nat) (hQ : EvX W Q kd k1 c3 D1 k2 c4 D2) (hE : EvX W EV kd k1 c1 D1 k2 c2 D2) (s1 : SameC c3 c1) (s2 : SameC c4 c2) (t1 : TyC c3) (t2 : TyC c4) (hS : Sml D1) (hM : MK M2 W (c3 17) D1.vl D1.vl.length) :
    Calls Tryd.prog 11 #[.agg Q, .agg EV] W fun e w' => e = .returned (.bool true) ∧ Below W.heap.size W w' := by
  obtain ⟨W2, hW2⟩ : ∃ W2, (W.alloc (.cells Q 48)).alloc (.cells EV 48) = W2 := ⟨_, rfl⟩
  have hbA : Below W.heap.size W (W.alloc (.cells Q 48)) := (Below.refl _ _).alloc (Nat.le_refl _) _
  have hb2 : Below W.heap.size W W2 := hW2 ▸ hbA.alloc (by simp) _
  have hg1 : W2.heap[W.heap.size]? = some (.cells Q 48) := by rw [← hW2]; exact (Below.heap_alloc _ _ _ (by simp)).trans (alloc_new W _)
  have hg2 : W2.heap[W.heap.size + 1]? = some (.cells EV 48) := by
    rw [← hW2]
    have := alloc_new (W.alloc (.cells Q 48)) (.cells EV 48)
    simpa using this
  have hs2 : W2.heap.size = W.heap.size + 1 + 1 := by rw [← hW2]; simp
  obtain ⟨P3, hP3⟩ : ∃ P, Pd k1 c3 = P := ⟨_, rfl⟩
  obtain ⟨P1, hP1⟩ : ∃ P, Pd k1 c1 = P := ⟨_, rfl⟩
  obtain ⟨P4, hP4⟩ : ∃ P, Pd k2 c4 = P := ⟨_, rfl⟩
  obtain ⟨P2, hP2⟩ : ∃ P, Pd k2 c2 = P := ⟨_, rfl⟩
  have HR : Hid (∀ w', Below W2.heap.size W2 w' → (w'.rangeAt W.heap.size 1 P3.toList ∧ w'.rangeAt W.heap.size 21 P4.toList) ∧ w'.rangeAt (W.heap.size + 1) 1 P1.toList ∧ w'.rangeAt (W.heap.size + 1) 21 P2.toList) := by
    show ∀ w', _
    intro w' hb
    rw [← hP3, ← hP1, ← hP4, ← hP2]
    have q1 := (hb.block _ (by omega)).trans hg1
    have q2 := (hb.block _ (by omega)).trans hg2
    exact ⟨⟨fun j v hv => by rw [cell_of_row w' _ _ _ _ _ q1]; exact hQ.pdu j v hv, fun j v hv => by rw [cell_of_row w' _ _ _ _ _ q1]; exact hQ.ans j v hv⟩, fun j v hv => by rw [cell_of_row w' _ _ _ _ _ q2]; exact hE.pdu j v hv, fun j v hv => by rw [cell_of_row w' _ _ _ _ _ q2]; exact hE.ans j v hv⟩
  have HC : Hid (∀ w', Below W2.heap.size W2 w' → Calls Tryd.prog 31 #[.agg P3, .agg P1] w' (fun e w2 => e = .returned (.bool true) ∧ Below w'.heap.size w' w2) ∧ Calls Tryd.prog 31 #[.agg P4, .agg P2] w' (fun e w2 => e = .returned (.bool true) ∧ Below w'.heap.size w' w2)) := by
    show ∀ w', _
    intro w' hb
    rw [← hP3, ← hP1, ← hP4, ← hP2]
    exact ⟨pdu_same w' _ _ _ _ s1 t1 ((hQ.r1.on hb2).on hb) ((hE.r1.on hb2).on hb), pdu_same w' _ _ _ _ s2 t2 ((hQ.r2.on hb2).on hb) ((hE.r2.on hb2).on hb)⟩
  have sz : ∀ k c, (Tryd.prog.info? 46).map (·.size) = some (Pd k c).toList.length := fun k c => by unfold Pd; kernel_rfl
  have sA : (Tryd.prog.info? 46).map (·.size) = some P3.toList.length := hP3 ▸ sz _ _
  have sB : (Tryd.prog.info? 46).map (·.size) = some P1.toList.length := hP1 ▸ sz _ _
  have sC : (Tryd.prog.info? 46).map (·.size) = some P4.toList.length := hP4 ▸ sz _ _
  have sD : (Tryd.prog.info? 46).map (·.size) = some P2.toList.length := hP2 ▸ sz _ _
  obtain ⟨n, hn⟩ : ∃ n, D1.vl.length = n := ⟨_, rfl⟩
  obtain ⟨-, aa, ca, ea, shv, HVa0⟩ := hQ.r1.val.1
  obtain ⟨-, ab, cb, eb, -, HVb0⟩ := hE.r1.val.1
  rw [hn] at ea eb
  have HVa : Hid _ := HVa0
  have HVb : Hid _ := HVb0
  have hnL : n ≤ 1048576 := hn ▸ hS.vl.1
  have HV : Hid ((∀ p ∈ D1.vl, ShV p ∧ InnS p.inn) ∧ D1.vl.length = n) := ⟨fun p hp => ⟨shv p hp, hS.vl.2 p hp⟩, hn⟩
  have HM : Hid (MK M2 W (.slice aa n ca) D1.vl n) := by rw [ea, hn] at hM; exact hM
  have HY : Hid (∀ w', Below W2.heap.size W2 w' → w'.cell? ⟨W.heap.size, 19, none⟩ = some (.slice aa n ca) ∧ w'.cell? ⟨W.heap.size + 1, 19, none⟩ = some (.slice ab n cb)) := by
    show ∀ w', _
    intro w' hb
    rw [cell_of_row w' _ _ _ _ _ ((hb.block _ (by omega)).trans hg1), cell_of_row w' _ _ _ _ _ ((hb.block _ (by omega)).trans hg2), ← ea, ← eb]
    exact ⟨hQ.pdu 18 _ rfl, hE.pdu 18 _ rfl⟩
  have HB : Hid (Below W.heap.size W W2) := hb2
  obtain ⟨fs, hu⟩ : ∃ fs, Tryd.prog.underlying 46 = some (.struct fs) := ⟨_, Tryd.underlying46⟩
  have r0 := HR.out W2 (Below.refl _ _)
  obtain ⟨⟨rA, -⟩, rB, -⟩ := r0
  have hc1 := (HC.out W2 (Below.refl _ _)).1
  clear hQ hE s1 s2 t1 t2 hS hM hbA hb2 hg1 hg2 hs2 hP3 hP1 hP4 hP2 HVa0 HVb0 ea eb shv hn sz
  go_enter Tryd.func11, Tryd.ntmps11
  go_wp2_with (first | (refine wpList_load_mid rfl 46 (.tmp 6) rfl W.heap.size 1 rfl P3.toList _ rA hu rfl sA ?_) | (refine wpList_load_mid rfl 46 (.tmp 8) rfl (W.heap.size + 1) 1 rfl P1.toList _ rB hu rfl sB ?_) | (go_at_call 31; refine hc1.mono ?_; refine Fr.Stop.mk ?_))
  clear hW2
  rintro x W3 ⟨rfl, hb3⟩
  have r1 := HR.out W3 hb3
  obtain ⟨⟨-, rC⟩, -, rD⟩ := r1
  have hc2 := (HC.out W3 hb3).2
  have HB3 : Hid (Below W2.heap.size W2 W3) := hb3
  clear rA rB hc1 hb3
  go_wp2_with (first | (refine wpList_load_midG (by rfl) 46 (.tmp 13) rfl W.heap.size 21 rfl P4.toList _ rC hu rfl sC ?_) | (refine wpList_load_midG (by rfl) 46 (.tmp 15) rfl (W.heap.size + 1) 21 rfl P2.toList _ rD hu rfl sD ?_) | (go_at_call 31; refine hc2.mono ?_; refine Fr.Stop.mk ?_))
  rintro x W4 ⟨rfl, hb4⟩
  have HB4 : Hid (Below W2.heap.size W2 W4) := HB3.out.trans (hb4.mono HB3.out.size)
  clear rC rD hc2 hb4 HB3
  go_wp2
  go_loopw [5] (fun x wr => ∃ (i : Nat), x = .int .i64 (i : Int) ∧ i ≤ n ∧ Hid (Below W2.heap.size W2 wr)) (fun x _ => n - (intOf x).toNat)
  case atStart => exact ⟨0, rfl, by omega, HB4⟩
  case round => as_aux_lemma =>
    clear HB4
    obtain ⟨i, rfl, hi, HW⟩ := hrel
    obtain ⟨y19, y19'⟩ := HY.out wr HW.out
    by_cases hin : i < n
    · have hI : (i : Int) < (n : Int) := by omega
      have hil : i < D1.vl.length := by rw [HV.out.2]; exact hin
      obtain ⟨ba, oa, rfl, ka⟩ := HVa.out (by omega)
      obtain ⟨bb, ob, rfl, kb⟩ := HVb.out (by omega)
      obtain ⟨va, ka, ka2⟩ := ka i hil
      obtain ⟨vb, kb, kb2⟩ := kb i hil
      obtain ⟨⟨x, y, z, bs, hp⟩, hsm⟩ := HV.out.1 _ (List.getElem_mem hil)
      obtain ⟨g', n', cap', m, mc, bs', e1, e2, e3, e4, e5, e6⟩ := HM.out i hil hin
      rw [hp] at ka ka2 kb kb2 e3 hsm
      obtain rfl : bs = bs' := by simpa using e3
      obtain ⟨ua, rfl, hVa, hla, _⟩ := ka2
      obtain ⟨ub, rfl, hVb, hlb, _⟩ := kb2
      have a3 := ka 3 _ rfl
      have b3 := kb 3 _ rfl
      obtain ⟨rfl, rfl⟩ : ba = g' ∧ oa = 0 := by simp at e1; exact ⟨e1.1.1, e1.1.2⟩
      rw [Nat.zero_add] at a3
      obtain rfl : ua = .slice (some ⟨m, 0, none⟩) bs.length mc := Option.some.inj (a3.symm.trans e2)
      have hbw : Below W.heap.size W wr := HB.out.trans (HW.out.mono HB.out.size)
      replace a3 := (hbw.cell (cell_lt a3)).trans a3
      replace b3 := (hbw.cell (cell_lt b3)).trans b3
      have hsm' : bs.length ≤ 1048576 := hsm
      have hq := fun j => kept_any (wr.drewN j) ub bs m 0 mc (by omega) e4 ((hVa.next hbw).next ⟨rfl, rfl, rfl, Nat.le_refl _, fun _ _ => rfl⟩) ((hVb.next hbw).next ⟨rfl, rfl, rfl, Nat.le_refl _, fun _ _ => rfl⟩) (fun q hq => by
        rw [Nat.zero_add]
        exact (hbw.cell (p := ⟨m, bs.length + q, none⟩) e5.2.2).trans (e6 q hq))
      clear hbw hVa hVb ka kb hp hil e1 e2 e3 e4 e5 e6 hsm hsm'
      go_wp2
      go_quiet ((go_at_call 32; exact (hq _).mono fun _ _ h => ⟨h.1, drewN2 h.2⟩))
      go_wp2
      go_roundw
      case rel => exact ⟨i + 1, by go_num, by omega, Hid.mk' (HW.out.trans ⟨rfl, rfl, rfl, Nat.le_refl _, fun _ _ => rfl⟩)⟩
      case measure => simp [intOf]; omega
    · have hI : ¬ (i : Int) < (n : Int) := by omega
      go_wp2
      go_ret
      exact ⟨rfl, HB.out.trans (HW.out.mono HB.out.size)⟩
end Go.Proofs.YtiieikdbhpflgabDoor
