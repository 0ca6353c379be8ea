import Derived.Test.YtiieikdbhpflgabDoorDe
import Derived.Test.YtiieikdbhpflgabDoorDf
import Derived.Test.YtiieikdbhpflgabDoorDg
import Derived.Test.YtiieikdbhpflgabDoorDh
import Derived.Test.YtiieikdbhpflgabDoorDi
import Derived.Test.YtiieikdbhpflgabDoorDj
import Derived.Test.YtiieikdbhpflgabDoorDl
import Derived.Test.YtiieikdbhpflgabDoorDm
/-
  DERIVED. The document's Do: the pieces.
-/
namespace Go.Proofs.YtiieikdbhpflgabDoor
open Go Go.Proofs Go.RowKit

theorem rdo_all (w : World) (p : Nat) (EV : Array Value) (S : Prov) (d : EvD) (ha : 1 ≤ S.art) (hP : RvE w p S) (hy : ∀ W', BelBut p w W' → EvY W' EV d) : ∀ (k : Fin 28), Calls Tryd.prog 29 #[.pointer (some ⟨p, 0, none⟩), .int .i64 ((k.val + 1 : Nat) : Int), .agg EV] w (RActP (k.val + 1) w p S d)
  | ⟨0, _⟩ => rdo_1 w p EV S d ha hP hy
  | ⟨1, _⟩ => rdo_2 w p EV S d ha hP hy
  | ⟨2, _⟩ => rdo_3 w p EV S d ha hP hy
  | ⟨3, _⟩ => rdo_4 w p EV S d ha hP hy
  | ⟨4, _⟩ => rdo_5 w p EV S d ha hP hy
  | ⟨5, _⟩ => by
    by_cases h : d.bad = true
    · exact rdo_6t w p EV S d ha hP hy h
    · exact rdo_6f w p EV S d ha hP hy (by simpa using h)
  | ⟨6, _⟩ => rdo_7 w p EV S d ha hP hy
  | ⟨7, _⟩ => rdo_8 w p EV S d ha hP hy
  | ⟨8, _⟩ => rdo_9 w p EV S d ha hP hy
  | ⟨9, _⟩ => rdo_10 w p EV S d ha hP hy
  | ⟨10, _⟩ => rdo_11 w p EV S d ha hP hy
  | ⟨11, _⟩ => rdo_12 w p EV S d ha hP hy
  | ⟨12, _⟩ => rdo_13 w p EV S d ha hP hy
  | ⟨13, _⟩ => rdo_14 w p EV S d ha hP hy
  | ⟨14, _⟩ => rdo_15 w p EV S d ha hP hy
  | ⟨15, _⟩ => rdo_16 w p EV S d ha hP hy
  | ⟨16, _⟩ => rdo_17 w p EV S d ha hP hy
  | ⟨17, _⟩ => rdo_18 w p EV S d ha hP hy
  | ⟨18, _⟩ => rdo_19 w p EV S d ha hP hy
  | ⟨19, _⟩ => rdo_20 w p EV S d ha hP hy
  | ⟨20, _⟩ => rdo_21 w p EV S d ha hP hy
  | ⟨21, _⟩ => rdo_22 w p EV S d ha hP hy
  | ⟨22, _⟩ => by
    by_cases h : d.s = 0
    · exact rdo_23z w p EV S d ha hP hy h
    · exact rdo_23n w p EV S d ha hP hy h
  | ⟨23, _⟩ => rdo_24 w p EV S d ha hP hy
  | ⟨24, _⟩ => rdo_25 w p EV S d ha hP hy
  | ⟨25, _⟩ => rdo_26 w p EV S d ha hP hy
  | ⟨26, _⟩ => rdo_27 w p EV S d ha hP hy
  | ⟨27, _⟩ => rdo_28 w p EV S d ha hP hy
  | ⟨n + 28, h⟩ => absurd h (by omega)
theorem racts_any (w : World) (p : Nat) (EV : Array Value) (S : Prov) (d : EvD) (n : Nat) (h0 : 0 < n) (h1 : n ≤ 28) (ha : 1 ≤ S.art) (hP : RvE w p S) (hy : ∀ W', BelBut p w W' → EvY W' EV d) : Calls Tryd.prog 29 #[.pointer (some ⟨p, 0, none⟩), .int .i64 (n : Int), .agg EV] w (RActP n w p S d) := by
  have h := rdo_all w p EV S d ha hP hy ⟨n - 1, by omega⟩
  simp only [show n - 1 + 1 = n by omega] at h
  exact h
def Q4 : Array Value := #[.int .i64 1, .bool false, .bool false, .int .i64 0]
theorem q4_built : Tryd.prog.built 55 [(0, .int .i64 1)] = some Q4 := by kernel_rfl
theorem q4_info : (Tryd.prog.info? 55).map (·.size) = some Q4.size := by kernel_rfl
theorem q4_one : Q4.all (·.oneCell') = true := by kernel_rfl
/-- The document's provider is idle again. -/
theorem rv_reset {W : World} {p : Nat} {S : Prov} (h : RvE W p S) :
    W.there p 1 Q4.size ∧ (W.setCells p 1 Q4.toList).there p 5 (Pd 0 zc).size ∧ RvE ((W.setCells p 1 Q4.toList).setCells p 5 (Pd 0 zc).toList) p ⟨S.art, 0, 1, false, noPdu⟩ ∧ ButOne p W ((W.setCells p 1 Q4.toList).setCells p 5 (Pd 0 zc).toList) := by
  obtain ⟨PV, c0, h⟩ := h
  have hth := there_row h.row 1 4 (by rw [h.sz]; omega)
  obtain ⟨Q6, q1, q2, q3, q4, q5, q6, q7⟩ := setCells_row Q4.toList 1 _ PV h.row (fun v hv => Array.all_eq_true_iff_forall_mem.1 q4_one v (by simpa using hv)) h.one (by omega)
  have hq6 := setCells_rowx Q4.toList 1 _ PV h.row (by rw [h.sz]; show 1 + 4 ≤ 24; omega) Q6 q1
  have h6 := q6 p (Nat.le_refl _)
  have hpo := pd_one 0 zc zc_one
  have hth2 := there_row q1 5 19 (by rw [q2, h.sz]; omega)
  obtain ⟨R6, r1, r2, r3, r4, r5, r6, r7⟩ := setCells_row (Pd 0 zc).toList 5 _ Q6 q1 (fun v hv => Array.all_eq_true_iff_forall_mem.1 hpo v (by simpa using hv)) q4 (by omega)
  have hr6 := setCells_rowx (Pd 0 zc).toList 5 _ Q6 q1 (by rw [q2, h.sz]; show 5 + 19 ≤ 24; omega) R6 r1
  have h7 := r6 p (Nat.le_refl _)
  have hlo : ∀ j, j < 5 → R6[j]? = Q6[j]? := fun j hj => hr6.1 j (.inl (by omega))
  refine ⟨hth, hth2, ⟨R6, zc, r1, (r2.trans q2).trans h.sz, r4, hr6.2, oxf_zero _ _ _ _ zc_one rfl rfl rfl rfl, SameC.refl _, ?_, ?_, ?_, ?_, ?_⟩, ⟨h7.os.trans h6.os, h7.tape.trans h6.tape, h7.output.trans h6.output, Nat.le_trans h6.size h7.size, fun b _ hb => (r5 b hb).trans (q5 b hb)⟩, fun b hb => (r5 b hb).trans (q5 b hb), r7.trans q7⟩
  · exact (hlo 0 (by omega)).trans ((hq6.1 0 (.inl (by omega))).trans h.v0)
  · exact (hlo 1 (by omega)).trans (hq6.2 0 _ rfl)
  · exact (hlo 2 (by omega)).trans (hq6.2 1 _ rfl)
  · exact (hlo 3 (by omega)).trans (hq6.2 2 _ rfl)
  · exact (hlo 4 (by omega)).trans (hq6.2 3 _ rfl)
/-- May the event be? as the document asks it. -/
def refuB (kd k1 : Int) (bad : Bool) (k2 : Int) : Bool := ((wantL kd != 0) && (k1 != wantL kd)) || ((kd == 6) && (bad && (k2 != 3)))
theorem refu_same : ∀ (k : Fin 19) (k1 : Int) (bad : Bool) (k2 : Int), refuB ((k.val + 1 : Nat) : Int) k1 bad k2 = !complB ((k.val + 1 : Nat) : Int) k1 bad k2 := by
  intro k k1 bad k2
  have hw : wantL ((k.val + 1 : Nat) : Int) = ((ndA.getD (k.val + 1) 0 : Nat) : Int) := by
    have : ∀ j : Fin 19, wantL ((j.val + 1 : Nat) : Int) = ((ndA.getD (j.val + 1) 0 : Nat) : Int) := by decide +kernel
    exact this k
  unfold refuB complB
  rw [Int.toNat_natCast, hw]
  generalize ((ndA.getD (k.val + 1) 0 : Nat) : Int) = V
  generalize ((k.val + 1 : Nat) : Int) = K
  by_cases a : V = 0 <;> by_cases b : k1 = V <;> by_cases c : K = 6 <;> cases bad <;> by_cases e : k2 = 3 <;> simp_all
end Go.Proofs.YtiieikdbhpflgabDoor

/-
  DERIVED. The document's Do, for an event of the table.
-/
namespace Go.Proofs.YtiieikdbhpflgabDoor
open Go Go.Proofs Go.RowKit

/-- The document's provider behind an action. -/
def rStep (n : Nat) (S : Prov) (d : EvD) : Prov :=
  if afterR n S.sta (rS n S d).asked d.bad = 1 then ⟨S.art, 0, 1, false, noPdu⟩ else { rS n S d with sta := afterR n S.sta (rS n S d).asked d.bad }
def revS (S : Prov) (d : EvD) : Prov × List AcD :=
  if actR S.sta d.kd = 0 ∨ refuB d.kd d.p.k d.bad d.a.k = true then (S, []) else (rStep (actR S.sta d.kd).toNat S d, actsN (actR S.sta d.kd).toNat S d)
def RDoP (w : World) (p : Nat) (r : Prov × List AcD) (x : Ending) (w' : World) : Prop :=
  ∃ v, x = .returned v ∧ AX w.heap.size w' v r.2 ∧ RvE w' p r.1 ∧ BelBut p w w'
theorem Hid.mk' {p : Prop} (h : p) : Hid p := h
theorem actR_lt (s e : Int) : 0 ≤ actR s e ∧ actR s e ≤ 28 := by rw [← act_same]; exact actP_lt s e
set_option maxRecDepth 100000 in
set_option maxHeartbeats 4000000 in
theorem rdo_ev (w : World) (p : Nat) (EV : Array Value) (S : Prov) (d : EvD) (hk : d.kd ≠ 20) (ha : 1 ≤ S.art) (hP : RvE w p S) (hy : ∀ W', BelBut p w W' → EvY W' EV d) :
    Calls Tryd.prog 9 #[.pointer (some ⟨p, 0, none⟩), .agg EV] w (RDoP w p (revS S d)) := by
  have hE := hy w (.refl _ _)
  have hpl := hP.lt
  obtain ⟨W1, hW1⟩ : ∃ W1, w.alloc (.cells EV 48) = W1 := ⟨_, rfl⟩
  have hb1 : Below w.heap.size w W1 := by rw [← hW1]; exact (Below.refl _ _).alloc (Nat.le_refl _) _
  have hr1 : W1.heap[w.heap.size]? = some (.cells EV 48) := by rw [← hW1]; exact alloc_new w _
  have hsE : (Tryd.prog.info? 48).map (·.size) = some EV.size := by rw [hE.ev.sz]; exact size50
  obtain ⟨fs5, hu5⟩ := hu50
  have hkz : (d.kd == 20) = false := by simpa using hk
  have e0 : W1.cell? ⟨w.heap.size, 0, none⟩ = some (.int .i64 d.kd) := by rw [cell_of_row _ _ _ _ _ _ hr1]; exact hE.ev.kd
  have e1 : W1.cell? ⟨w.heap.size, 1, none⟩ = some (.int .i64 d.p.k) := by rw [cell_of_row _ _ _ _ _ _ hr1]; exact hE.ev.pdu 0 _ rfl
  have e20 : W1.cell? ⟨w.heap.size, 20, none⟩ = some (.bool d.bad) := by rw [cell_of_row _ _ _ _ _ _ hr1]; exact hE.bad
  have e21 : W1.cell? ⟨w.heap.size, 21, none⟩ = some (.int .i64 d.a.k) := by rw [cell_of_row _ _ _ _ _ _ hr1]; exact hE.ev.ans 0 _ rfl
  have hP1 := hP.on hb1
  have k1 : W1.cell? ⟨p, 1, none⟩ = some (.int .i64 S.sta) := by
    obtain ⟨PV, c0, h⟩ := hP1
    rw [cell_of_row _ _ _ _ _ _ h.row]; exact h.v1
  have h27 := ract_any W1.drew S.sta d.kd
  have h28 := wants_any W1.drew d.kd
  obtain ⟨r1, r2⟩ := actR_lt S.sta d.kd
  obtain ⟨n, hn⟩ : ∃ n : Nat, actR S.sta d.kd = (n : Int) := ⟨(actR S.sta d.kd).toNat, by omega⟩
  rw [hn] at h27 r2
  have hn28 : n ≤ 28 := by omega
  obtain ⟨KD, hKD⟩ : ∃ K, d.kd = K := ⟨_, rfl⟩
  obtain ⟨K1, hK1⟩ : ∃ K, d.p.k = K := ⟨_, rfl⟩
  obtain ⟨BD, hBD⟩ : ∃ K, d.bad = K := ⟨_, rfl⟩
  obtain ⟨K2, hK2⟩ : ∃ K, d.a.k = K := ⟨_, rfl⟩
  obtain ⟨WK, hWK⟩ : ∃ K, wantL d.kd = K := ⟨_, rfl⟩
  obtain ⟨T, hT⟩ : ∃ T, (((n : Int) == 0) || refuB d.kd d.p.k d.bad d.a.k) = T := ⟨_, rfl⟩
  have HR : Hid (revS S d = if T = true then (S, []) else (rStep n S d, actsN n S d)) := by
    show revS _ _ = _
    unfold revS
    rw [hn, ← hT, Int.toNat_natCast]
    by_cases hz : n = 0
    · rw [if_pos (.inl (by omega)), if_pos (by simp [hz])]
    · by_cases hc : refuB d.kd d.p.k d.bad d.a.k = true
      · rw [if_pos (.inr hc), if_pos (by simp [hc])]
      · rw [if_neg (fun h => h.elim (fun h => hz (by omega)) hc), if_neg (by simp only [Bool.or_eq_true, not_or]; exact ⟨by simp; omega, hc⟩)]
  have hT' : (((n : Int) == 0) || (((WK != 0) && (K1 != WK)) || ((KD == 6) && (BD && (K2 != 3))))) = T := by
    rw [← hT]; unfold refuB; rw [hWK, hK1, hKD, hBD, hK2]
  rw [hKD] at e0 h27 h28 hkz
  rw [hKD] at hWK
  rw [hWK] at h28
  rw [hK1] at e1
  rw [hBD] at e20
  rw [hK2] at e21
  have HT : Hid (((((n : Int) == 0) || (((WK != 0) && (K1 != WK)) || ((KD == 6) && (BD && (K2 != 3)))))) = T) := hT'
  have hbd : Below W1.heap.size W1 W1.drew := (Below.refl _ _).drew
  have HQ : Hid (RvE W1.drew p S ∧ BelBut p w W1.drew ∧ (∀ W', BelBut p w W' → EvY W' EV d) ∧ 1 ≤ S.art ∧ n ≤ 28 ∧ d.bad = BD) := ⟨hP1.on hbd, (BelBut.of hb1).trans (.of hbd), hy, ha, hn28, hBD⟩
  have hra := fun (h0 : 0 < n) (h1 : n ≤ 28) => racts_any W1.drew p EV S d n h0 h1 ha HQ.out.1 (fun W' hW' => hy W' (HQ.out.2.1.trans hW'))
  have HRA : Hid (0 < n → n ≤ 28 → Calls Tryd.prog 29 #[.pointer (some ⟨p, 0, none⟩), .int .i64 (n : Int), .agg EV] W1.drew (RActP n W1.drew p S d)) := hra
  have hr1d : W1.drew.heap[w.heap.size]? = some (.cells EV 48) := hr1
  clear hra hT hT' hn r1 r2 hKD hK1 hBD hK2 hWK hP hP1 hE hk ha hy hn28 hbd
  go_enter Tryd.func9, Tryd.ntmps9
  go_wp2
  go_region_with (go_at_call 27; refine h27.mono ?_; rintro x W8 ⟨rfl, rfl⟩)
  all_goals
    go_upto_region 11 with (go_at_call 28; refine h28.mono ?_; rintro x W9 ⟨rfl, rfl⟩)
    go_cut [6, 75] from 47 (fun s6 s75 wx => s75 = .bool T ∧ wx = W1.drew)
    case first =>
      have e0d : W1.drew.cell? ⟨w.heap.size, 0, none⟩ = some (.int .i64 KD) := e0
      have e1d : W1.drew.cell? ⟨w.heap.size, 1, none⟩ = some (.int .i64 K1) := e1
      have e20d : W1.drew.cell? ⟨w.heap.size, 20, none⟩ = some (.bool BD) := e20
      have e21d : W1.drew.cell? ⟨w.heap.size, 21, none⟩ = some (.int .i64 K2) := e21
      have hv := HT.out
      by_cases z0 : n = 0
      · subst z0
        have hTt : T = true := by rw [← hv]; simp
        subst hTt
        clear hv
        go_wp2
        go_meet
        case rel => exact ⟨rfl, rfl⟩
      · have nz : ((n : Int) == 0) = false := by simpa using z0
        have ZN : Hid (¬ n = 0) := z0
        rw [nz, Bool.false_or] at hv
        clear z0
        by_cases z1 : WK = 0
        · have n1 : (WK == 0) = true := by simp [z1]
          have hx : ((WK != 0) && (K1 != WK)) = false := by simp [z1]
          have HW : Hid (WK = 0) := z1
          have HK : Hid True := trivial
          clear z1
          by_cases h6 : KD = 6
          · by_cases hB : BD = true
            · subst hB
              have n6 : (KD == 6) = true := by simp [h6]
              by_cases h3 : K2 = 3
              · have n3 : (K2 == 3) = true := by simp [h3]
                have hTt : T = false := by rw [← hv, hx, h6, h3]; rfl
                subst hTt
                have H6 : Hid (KD = 6) := h6
                have H3 := Go.Proofs.YtiieikdbhpflgabDoor.Hid.mk' h3
                clear hv hx h6 h3
                go_wp2
                all_goals first | (exfalso; have := ZN.out; have := HW.out; have := HK.out; have := H6.out; have := H3.out; omega) | (go_meet; (case rel => exact ⟨by first | rfl | (have := H3.out; have := H6.out; have := HW.out; have := HK.out; simp_all [bne]), rfl⟩))
              · have n3 : (K2 == 3) = false := by simpa using h3
                have hTt : T = true := by rw [← hv, hx, h6]; simp [h3]
                subst hTt
                have H6 : Hid (KD = 6) := h6
                have H3 := Go.Proofs.YtiieikdbhpflgabDoor.Hid.mk' h3
                clear hv hx h6 h3
                go_wp2
                all_goals first | (exfalso; have := ZN.out; have := HW.out; have := HK.out; have := H6.out; have := H3.out; omega) | (go_meet; (case rel => exact ⟨by first | rfl | (have := H3.out; have := H6.out; have := HW.out; have := HK.out; simp_all [bne]), rfl⟩))
            · obtain rfl : BD = false := by simpa using hB
              have n6 : (KD == 6) = true := by simp [h6]
              have hTt : T = false := by rw [← hv]; simp [hx]
              subst hTt
              have H6 : Hid (KD = 6) := h6
              have H3 : Hid True := trivial
              clear hv hx h6 hB
              go_wp2
              all_goals first | (exfalso; have := ZN.out; have := HW.out; have := HK.out; have := H6.out; have := H3.out; omega) | (go_meet; (case rel => exact ⟨by first | rfl | (have := H3.out; have := H6.out; have := HW.out; have := HK.out; simp_all [bne]), rfl⟩))
          · have n6 : (KD == 6) = false := by simpa using h6
            have hTt : T = false := by rw [← hv]; simp [hx, h6]
            subst hTt
            have H6 : Hid (¬ KD = 6) := h6
            have H3 : Hid True := trivial
            clear hv hx h6
            go_wp2
            all_goals first | (exfalso; have := ZN.out; have := HW.out; have := HK.out; have := H6.out; have := H3.out; omega) | (go_meet; (case rel => exact ⟨by first | rfl | (have := H3.out; have := H6.out; have := HW.out; have := HK.out; simp_all [bne]), rfl⟩))
        · have n1 : (WK == 0) = false := by simpa using z1
          by_cases z2 : K1 = WK
          · have n2 : (K1 == WK) = true := by simp [z2]
            have hx : ((WK != 0) && (K1 != WK)) = false := by simp [z2]
            have HW : Hid (¬ WK = 0) := z1
            have HK : Hid (K1 = WK) := z2
            clear z1 z2
            by_cases h6 : KD = 6
            · by_cases hB : BD = true
              · subst hB
                have n6 : (KD == 6) = true := by simp [h6]
                by_cases h3 : K2 = 3
                · have n3 : (K2 == 3) = true := by simp [h3]
                  have hTt : T = false := by rw [← hv, hx, h6, h3]; rfl
                  subst hTt
                  have H6 : Hid (KD = 6) := h6
                  have H3 := Go.Proofs.YtiieikdbhpflgabDoor.Hid.mk' h3
                  clear hv hx h6 h3
                  go_wp2
                  all_goals first | (exfalso; have := ZN.out; have := HW.out; have := HK.out; have := H6.out; have := H3.out; omega) | (go_meet; (case rel => exact ⟨by first | rfl | (have := H3.out; have := H6.out; have := HW.out; have := HK.out; simp_all [bne]), rfl⟩))
                · have n3 : (K2 == 3) = false := by simpa using h3
                  have hTt : T = true := by rw [← hv, hx, h6]; simp [h3]
                  subst hTt
                  have H6 : Hid (KD = 6) := h6
                  have H3 := Go.Proofs.YtiieikdbhpflgabDoor.Hid.mk' h3
                  clear hv hx h6 h3
                  go_wp2
                  all_goals first | (exfalso; have := ZN.out; have := HW.out; have := HK.out; have := H6.out; have := H3.out; omega) | (go_meet; (case rel => exact ⟨by first | rfl | (have := H3.out; have := H6.out; have := HW.out; have := HK.out; simp_all [bne]), rfl⟩))
              · obtain rfl : BD = false := by simpa using hB
                have n6 : (KD == 6) = true := by simp [h6]
                have hTt : T = false := by rw [← hv]; simp [hx]
                subst hTt
                have H6 : Hid (KD = 6) := h6
                have H3 : Hid True := trivial
                clear hv hx h6 hB
                go_wp2
                all_goals first | (exfalso; have := ZN.out; have := HW.out; have := HK.out; have := H6.out; have := H3.out; omega) | (go_meet; (case rel => exact ⟨by first | rfl | (have := H3.out; have := H6.out; have := HW.out; have := HK.out; simp_all [bne]), rfl⟩))
            · have n6 : (KD == 6) = false := by simpa using h6
              have hTt : T = false := by rw [← hv]; simp [hx, h6]
              subst hTt
              have H6 : Hid (¬ KD = 6) := h6
              have H3 : Hid True := trivial
              clear hv hx h6
              go_wp2
              all_goals first | (exfalso; have := ZN.out; have := HW.out; have := HK.out; have := H6.out; have := H3.out; omega) | (go_meet; (case rel => exact ⟨by first | rfl | (have := H3.out; have := H6.out; have := HW.out; have := HK.out; simp_all [bne]), rfl⟩))
          · have n2 : (K1 == WK) = false := by simpa using z2
            have hTt : T = true := by rw [← hv]; simp [z1, z2]
            subst hTt
            have HW : Hid (¬ WK = 0) := z1
            have HK : Hid (¬ K1 = WK) := z2
            have H6 : Hid True := trivial
            have H3 : Hid True := trivial
            clear hv z1 z2
            go_wp2
            all_goals first | (exfalso; have := ZN.out; have := HW.out; have := HK.out; have := H6.out; have := H3.out; omega) | (go_meet; (case rel => exact ⟨by first | rfl | (have := H3.out; have := H6.out; have := HW.out; have := HK.out; simp_all [bne]), rfl⟩))
    case rest =>
      obtain ⟨rfl, rfl⟩ := hcut
      clear h27 h28 e0 e1 e20 e21 k1 hr1 hkz
      cases T
      · have hv := HT.out
        simp only [Bool.or_eq_false_iff] at hv
        have hn0 : 0 < n := by have := hv.1; simp at this; omega
        have hra := HRA.out hn0 HQ.out.2.2.2.2.1
        clear hv HT hn0 HRA
        go_wp2_with (first | (refine wpList_load_row rfl 48 (.tmp 3) rfl w.heap.size rfl 48 EV (0, 0) _ hr1d hu5 rfl hsE ?_) | (go_at_call 29; refine hra.mono ?_; refine Stop9.mk ?_))
        rintro x V ⟨v, rfl, hAX, hRv, hBut⟩
        obtain ⟨PV, c0, hR⟩ := hRv
        have hlE : w.heap.size < W1.drew.heap.size := (Array.getElem?_eq_some_iff.1 hr1d).1
        have hrE : V.heap[w.heap.size]? = some (.cells EV 48) := (hBut.block _ hlE (by omega)).trans hr1d
        have q20 : V.cell? ⟨w.heap.size, 20, none⟩ = some (.bool BD) := by
          rw [cell_of_row _ _ _ _ _ _ hrE, ← HQ.out.2.2.2.2.2]; exact (HQ.out.2.2.1 w (.refl _ _)).bad
        have q1 : V.cell? ⟨p, 1, none⟩ = some (.int .i64 S.sta) := by rw [cell_of_row _ _ _ _ _ _ hR.row]; exact hR.v1
        have q2 : V.cell? ⟨p, 2, none⟩ = some (.bool (rS n S d).asked) := by rw [cell_of_row _ _ _ _ _ _ hR.row]; exact hR.v2
        have yf : V.frozen? ⟨p, 1, none⟩ = false := by simp [World.frozen?, hR.row]
        have h30 := rafter_any V.drew (n : Int) S.sta (rS n S d).asked BD
        obtain ⟨ST, hST⟩ : ∃ s, afterR (n : Int) S.sta (rS n S d).asked BD = s := ⟨_, rfl⟩
        rw [hST] at h30
        obtain ⟨u1, u2, u3, u4, u5, u6, u7⟩ := rv_set (W := V.drew) hR.row hR.sz hR.one 1 (by omega) (.int .i64 ST) rfl
        have hR5 : RvE (V.drew.setCell ⟨p, 1, none⟩ (.int .i64 ST)) p { rS n S d with sta := ST } := ⟨_, c0, u1, u2, u3, fun j v hv => (u5 _ (by omega)).trans (hR.kept j v hv), hR.ox.keep fun b hb _ => u6 b (by omega), hR.same, (u5 0 (by omega)).trans hR.v0, u4, (u5 2 (by omega)).trans hR.v2, (u5 3 (by omega)).trans hR.v3, (u5 4 (by omega)).trans hR.v4⟩
        have hc5 : (V.drew.setCell ⟨p, 1, none⟩ (.int .i64 ST)).cell? ⟨p, 1, none⟩ = some (.int .i64 ST) := by rw [cell_of_row _ _ _ _ _ _ u1]; exact u4
        have HF : Hid (RvE (V.drew.setCell ⟨p, 1, none⟩ (.int .i64 ST)) p { rS n S d with sta := ST } ∧ AX w.heap.size (V.drew.setCell ⟨p, 1, none⟩ (.int .i64 ST)) v (actsN n S d) ∧ BelBut p w (V.drew.setCell ⟨p, 1, none⟩ (.int .i64 ST))) :=
          ⟨hR5, (hAX.low HQ.out.2.1.size).keep fun b hb _ => u6 b (by omega), HQ.out.2.1.trans (hBut.trans ((BelBut.of (Below.refl _ V).drew).trans u7))⟩
        have HS : Hid (rStep n S d = if ST = 1 then ⟨S.art, 0, 1, false, noPdu⟩ else { rS n S d with sta := ST }) := by
          show rStep n S d = _
          unfold rStep
          rw [HQ.out.2.2.2.2.2, hST]
        obtain ⟨AK, hAK⟩ : ∃ b, (rS n S d).asked = b := ⟨_, rfl⟩
        rw [hAK] at q2 h30
        clear hAX hBut hR u1 u2 u3 u4 u5 u6 u7 hR5 hra hrE hlE hST hAK hr1d
        go_upto_region 14 with fail
        go_cut [94] from 80 (fun s94 wx => wx = V.drew.setCell ⟨p, 1, none⟩ (.int .i64 ST))
        case first =>
          go_region_with (go_at_call 30; refine h30.mono ?_; rintro x WX ⟨rfl, rfl⟩)
          all_goals
            go_wp2
            go_meet
            case rel => exact rfl
        case rest =>
          rw [← hcut] at hc5 HF
          clear h30 q20 q1 q2 yf hcut
          by_cases hst : ST = 1
          · subst hst
            obtain ⟨th1, th2, hrr, hbo⟩ := rv_reset HF.out.1
            have hq4 := q4_built
            have hi4 := q4_info
            have ho4 := q4_one
            have hs0 := size40' 0 zc
            have hzo := pd_one 0 zc zc_one
            have hb0 := pd_zero0
            have HE : Hid (RvE ((wc.setCells p 1 Q4.toList).setCells p 5 (Pd 0 zc).toList) p ⟨S.art, 0, 1, false, noPdu⟩ ∧ ButOne p wc ((wc.setCells p 1 Q4.toList).setCells p 5 (Pd 0 zc).toList)) := ⟨hrr, hbo⟩
            clear hrr hbo
            generalize Q4 = QQ at hq4 hi4 ho4 th1 th2 HE
            generalize Pd 0 zc = Z0 at hs0 hzo hb0 th2 HE
            go_wp2_with (first | (refine step_build rfl 55 _ rfl QQ (by simp [Act.eval]; exact hq4) ?_) | (refine wpList_store_mid rfl 55 (.tmp 107) (.tmp 105) rfl p 1 QQ rfl rfl th1 hi4 ho4 ?_) | (refine step_build rfl 46 _ rfl Z0 (by simp [Act.eval]; exact hb0) ?_) | (refine wpList_store_mid rfl 46 (.tmp 111) (.tmp 109) rfl p 5 Z0 rfl rfl th2 hs0 hzo ?_))
            go_ret
            rw [show revS S d = (rStep n S d, actsN n S d) from HR.out.trans (by simp), show rStep n S d = ⟨S.art, 0, 1, false, noPdu⟩ from HS.out.trans (by simp)]
            exact ⟨v, rfl, HF.out.2.1.keep fun b hb _ => HE.out.2.heap b (by omega), HE.out.1, HF.out.2.2.trans HE.out.2.but⟩
          · have hst2 : (ST == 1) = false := by simpa using hst
            have HN : Hid (¬ ST = 1) := hst
            clear hst
            go_wp2
            go_ret
            rw [show revS S d = (rStep n S d, actsN n S d) from HR.out.trans (by simp), show rStep n S d = _ from HS.out.trans (if_neg HN.out)]
            exact ⟨v, rfl, HF.out.2.1, HF.out.1, HF.out.2.2⟩
      · go_wp2
        go_ret
        rw [show revS S d = (S, []) from HR.out.trans (by simp)]
        exact ⟨_, rfl, .inl ⟨rfl, rfl⟩, HQ.out.1, HQ.out.2.1⟩
end Go.Proofs.YtiieikdbhpflgabDoor
