import Derived.Test.YtohojghndnfgdaaGreatDoorPm
/-
  DERIVED. PrintName of the program: the walk.
-/
namespace Go.Proofs.YtohojghndnfgdaaGreatDoor
open Go Go.Proofs Go.RowKit

theorem top_trim {ts : List ByteArray} (h : ∀ j, j < 3 → (61 : UInt8) ∉ (t5 ts j).data.toList) : Lib.trimRightS (Lib.join (l3 ts) [61]) [61] = Lib.join (dropE (l3 ts)) [61] :=
  trim_join 61 3 (l3 ts) rfl (fun x hx => by
    unfold l3 at hx
    simp only [List.mem_cons, List.not_mem_nil, or_false] at hx
    rcases hx with rfl | rfl | rfl
    · exact h 0 (by omega)
    · exact h 1 (by omega)
    · exact h 2 (by omega))
def Tame (ts : List ByteArray) : Prop := ∀ x ∈ ts, (61 : UInt8) ∉ x.data.toList ∧ x.size ≤ 5242885
theorem tame_t5 {ts : List ByteArray} (h : Tame ts) (j : Nat) : (61 : UInt8) ∉ (t5 ts j).data.toList ∧ (t5 ts j).size ≤ 5242885 := by
  unfold t5
  by_cases hj : j < ts.length
  · rw [List.getD, List.getElem?_eq_getElem hj]
    exact h _ (List.getElem_mem hj)
  · rw [List.getD, List.getElem?_eq_none (by omega)]
    exact ⟨by simp, by show 0 ≤ _; omega⟩

set_option maxRecDepth 100000 in
set_option maxHeartbeats 4000000 in
theorem print6_any (w : World) (P : List (List ByteArray)) (hP3 : P.length = 3) (hP : ∀ g j, j < 5 → (t5 (P.getD g []) j).size ≤ 1048576) : Calls Tryz.prog 10 #[.agg (a15 P)] w fun e w' => ∃ v, e = .returned (.tuple #[.string (PRN P).2, v]) ∧ PErr w' v (PRN P).1 ∧ Below w.heap.size w w' := by
  obtain ⟨B, hB⟩ : ∃ B, w.heap.size = B := ⟨_, rfl⟩
  obtain ⟨R1, R2, hR⟩ : ∃ a b, PRN P = (a, b) := ⟨_, _, rfl⟩
  rw [hR]
  have HR : Hid (PRN P = (R1, R2)) := hR
  clear hR
  dsimp only
  have HPP : Hid (∀ g j, j < 5 → (t5 (P.getD g []) j).size ≤ 1048576) := hP
  have HP3 : Hid (P.length = 3) := hP3
  have hix := idx15 P
  have ho := a15_one P
  have hz := a15_size P
  clear hP hP3
  have HT0 : Hid (TX w ((w.alloc (.cells (a15 P) 42)).alloc (.cells #[.string ⟨#[]⟩, .string ⟨#[]⟩, .string ⟨#[]⟩] 63)) B []) := by
    have := row3_new (w.alloc (.cells (a15 P) 42))
    rw [World.size_alloc, hB] at this
    exact ⟨this, ((Below.refl _ w).alloc (by omega) _).alloc (by simp; omega) _, by simp; omega⟩
  have kb : ((w.alloc (.cells (a15 P) 42)).alloc (.cells #[.string ⟨#[]⟩, .string ⟨#[]⟩, .string ⟨#[]⟩] 63)).heap[B]? = some (.cells (a15 P) 42 (0, 0)) := by
    rw [Below.heap_alloc _ _ _ (by simp; omega), ← hB]
    exact heap_alloc_new _ _
  obtain ⟨A, hA⟩ : ∃ A, a15 P = A := ⟨_, rfl⟩
  rw [hA] at hix ho hz HT0 kb ⊢
  have hi5 : (Tryz.prog.info? 42).map (·.size) = some A.size := by rw [hz]; exact info25
  go_enter Tryz.func10, Tryz.ntmps10
  have hi23 : (Tryz.prog.info? 40).map (·.size) = some A.size := by rw [hz]; kernel_rfl
  go_wp2_with (refine wpList_load_row rfl 40 (.tmp 9) rfl B rfl 42 A (0, 0) _ kb Tryz.underlying40 rfl hi23 ?_)
  have HR0 : Hid (∀ e ts, prn 0 P [] = (e, ts) → (∀ x, e = some x → R1 = some x ∧ R2 = ⟨#[]⟩) ∧ (e = none → R1 = none ∧ R2 = topB ts)) := fun e ts h => by
    have h2 := HR.out
    unfold PRN at h2
    rw [h] at h2
    cases e with
    | some x => obtain ⟨rfl, rfl⟩ := Prod.mk.inj h2; exact ⟨fun y hy => ⟨hy, rfl⟩, fun h => by cases h⟩
    | none => obtain ⟨rfl, rfl⟩ := Prod.mk.inj h2; exact ⟨fun y hy => (by cases hy), fun _ => ⟨rfl, rfl⟩⟩
  obtain ⟨E, TS, hE⟩ : ∃ e ts, prn 0 P [] = (e, ts) := ⟨_, _, rfl⟩
  have HE0 : Hid (prn 0 (P.drop 0) [] = (E, TS)) := hE
  have HRR : Hid ((∀ x, E = some x → R1 = some x ∧ R2 = ⟨#[]⟩) ∧ (E = none → R1 = none ∧ R2 = topB TS)) := HR0.out E TS hE
  have HIX : Hid _ := hix
  clear hE HR0 HR kb hix
  go_loopg [11] 3 (fun g s11 wx => ∃ (ts : List ByteArray), s11 = .int .i64 (ts.length : Int) ∧ g + ts.length = 3 ∧ Hid (prn ts.length (P.drop ts.length) ts = (E, TS)) ∧ Hid (Tame ts) ∧ Hid (TX w wx B ts))
  case atStart => exact ⟨[], rfl, rfl, HE0, (fun x hx => by cases hx), HT0⟩
  case round =>
    clear HE0 HT0
    obtain ⟨ts, rfl, hg, HE, HTm, HT⟩ := hrel
    by_cases hlt : ts.length < 3
    · have hltI : (ts.length : Int) < 3 := by omega
      have hlp : ts.length < P.length := by rw [HP3.out]; exact hlt
      have hdr : P.drop ts.length = P.getD ts.length [] :: P.drop (ts.length + 1) := by
        rw [List.drop_eq_getElem_cons hlp, List.getD, List.getElem?_eq_getElem hlp]
        rfl
      have hEE := HE.out
      rw [hdr, prn] at hEE
      have hx := HIX.out ts.length hlt
      have hsz5 := HPP.out ts.length
      obtain ⟨L, hL⟩ : ∃ L, P.getD ts.length [] = L := ⟨_, rfl⟩
      rw [hL] at hEE hx hsz5
      have c17 := fun W => text17_any W L hsz5 (5 * ts.length) (by omega)
      have hc5 : ((5 * ts.length : Nat) : Int) = 5 * (ts.length : Int) := by omega
      rw [hc5, drop5] at c17
      have hgn := GT_none (L := L)
      have hgs := gB_size L hsz5
      have HEE : Hid _ := hEE
      clear hdr hEE HE hL hsz5 hc5
      go_wp2_with (go_at_call 22; refine Stop.mk ?_)
      refine Stop.out ((c17 _).mono ?_)
      rintro e W1 ⟨v, rfl, hv, hb1⟩
      have HT1 : Hid (TX w W1 B ts) := (HT.out.on ((Below.refl _ wr).alloc (Nat.le_refl _) _)).on hb1
      obtain ⟨o, ho1⟩ : ∃ o, (GT L).1 = o := ⟨_, rfl⟩
      obtain ⟨T, hT⟩ : ∃ T, (GT L).2 = T := ⟨_, rfl⟩
      rw [ho1] at hv HEE hgn
      rw [hT] at HEE hgn ⊢
      clear c17 hb1 HT hx
      cases o with
      | some x =>
        have hEE := HEE.out
        dsimp only at hEE
        obtain ⟨h1, h2⟩ := Prod.mk.inj hEE
        obtain ⟨rfl, rfl⟩ := HRR.out.1 _ h1.symm
        have HV : Hid (PErr W1 v (some (((5 * ts.length : Nat) : Int) + (x.1 : Int), x.2))) := by
          have e : ((5 * ts.length : Nat) : Int) = 5 * (ts.length : Int) := by omega
          show PErr _ _ _
          rw [e]
          exact hv
        obtain ⟨q, rfl, _⟩ := hv
        clear hEE h1 h2 HEE HRR hgn
        go_wp2
        refine bodyPost_ret (v := .tuple #[.string ⟨#[]⟩, .iface 78 (.pointer (some ⟨q, 0, none⟩))]) (by simp [results, Tryz.results10, go_sem]) rfl ⟨_, rfl, HV.out, by rw [hB]; exact HT1.out.bel⟩
      | none =>
        obtain rfl : v = .nilIface := hv
        obtain ⟨hTg, hok⟩ := hgn rfl
        have hTn : (61 : UInt8) ∉ T.data.toList := by rw [hTg]; exact gB_no hok
        have hTs : T.size ≤ 5242885 := by rw [hTg]; exact hgs
        have HTm2 : Hid (Tame (ts ++ [T])) := fun x hx => by
          rcases List.mem_append.1 hx with hx | hx
          · exact HTm.out x hx
          · rw [List.mem_singleton] at hx; subst hx; exact ⟨hTn, hTs⟩
        have HE2 : Hid (prn (ts ++ [T]).length (P.drop (ts ++ [T]).length) (ts ++ [T]) = (E, TS)) := by
          have := HEE.out
          dsimp only at this
          show _ = _
          rw [List.length_append, List.length_singleton]
          exact this
        have HT2 : Hid (TX w (W1.setCell ⟨B + 1, ts.length, none⟩ (.string T)) B (ts ++ [T])) := HT1.out.put T
        have k0 : W1.cell? ⟨B + 1, ts.length, none⟩ = some (.string (t5 ts ts.length)) := HT1.out.row.cell (i := ts.length) (by omega)
        have kf : ∀ i, W1.frozen? ⟨B + 1, i, none⟩ = false := fun i => HT1.out.row.frozen i
        have HL5 : Hid ((ts ++ [T]).length = ts.length + 1) := by show _ = _; rw [List.length_append, List.length_singleton]
        clear HEE hgn hTg hok hTn hTs HTm HT1
        go_wp2
        go_roundg (3 - (ts.length + 1))
        case measure => omega
        case rel => exact ⟨ts ++ [T], by rw [HL5.out]; first | rfl | simp, by rw [HL5.out]; omega, HE2, HTm2, HT2⟩
    · have hl3 : ts.length = 3 := by omega
      have hltI : ¬ ((ts.length : Int) < 3) := by omega
      have hEE := HE.out
      rw [List.drop_eq_nil_of_le (by rw [HP3.out]; omega), prn] at hEE
      obtain ⟨h1, h2⟩ := Prod.mk.inj hEE
      obtain ⟨rfl, hR2⟩ := HRR.out.2 h1.symm
      rw [← h2] at hR2
      have ht3 := fun j => tame_t5 HTm.out j
      have htop := top_trim (ts := ts) (fun j _ => (ht3 j).1)
      have hlen : (Lib.join (l3 ts) [61]).length ≤ 20000000 := by
        have h1 := join_len [61] (l3 ts)
        have h4 : ((l3 ts).map List.length).sum ≤ 15728655 := by
          have e0 := (ht3 0).2; have e1 := (ht3 1).2; have e2 := (ht3 2).2
          have q : ∀ x : ByteArray, x.data.toList.length = x.size := fun x => by rw [Array.length_toList]; rfl
          simp only [l3, List.map_cons, List.map_nil, List.sum_cons, List.sum_nil, q]
          omega
        have h6 : (l3 ts).length * ([61] : List UInt8).length = 3 := rfl
        omega
      have c19 := join19_any wr (B + 1) 3 3 [t5 ts 0, t5 ts 1, t5 ts 2] 61 rfl (fun j x hj => by
        have hj5 := (List.getElem?_eq_some_iff.1 hj).1
        have h5 : j = 0 ∨ j = 1 ∨ j = 2 := by simp at hj5; omega
        rcases h5 with rfl | rfl | rfl
        all_goals
          obtain rfl := Option.some.inj hj
          exact HT.out.row.cell (by omega)) HT.out.row.lt (by omega) (Nat.le_refl _) (by show (Lib.join (l3 ts) [61]).length ≤ _; omega)
      change Calls Tryz.prog 24 #[.slice (some ⟨B + 1, 0, none⟩) 3 3, .string ⟨#[61]⟩] wr (fun e w' => e = .returned (.string ⟨(Lib.join (l3 ts) [61]).toArray⟩) ∧ Below wr.heap.size wr w') at c19
      obtain ⟨J, hJ⟩ : ∃ J : ByteArray, ⟨(Lib.join (l3 ts) [61]).toArray⟩ = J := ⟨_, rfl⟩
      have hJs : J.size ≤ 20000000 := by
        rw [← hJ]
        show (Lib.join (l3 ts) [61]).toArray.size ≤ _
        rw [List.size_toArray]
        exact hlen
      have c18 := fun W => trim18_any W J 61 (by decide) (by omega)
      have hTT : (⟨(Lib.trimRightS J.data.toList [61]).toArray⟩ : ByteArray) = R2 := by
        rw [← hJ, hR2]
        show (⟨(Lib.trimRightS (Lib.join (l3 ts) [61]) [61]).toArray⟩ : ByteArray) = _
        rw [htop]
        rfl
      rw [hTT] at c18
      rw [hJ] at c19
      clear h1 h2 hEE HE HRR hR2 ht3 htop hlen hJ hTT HTm
      go_wp2_with (go_at_call 24; refine Stop.mk ?_)
      refine Stop.out (c19.mono ?_)
      rintro e W1 ⟨rfl, hb1⟩
      have HT1 : Hid (TX w W1 B ts) := HT.out.on hb1
      clear hb1 c19 HT
      go_wp2_with (go_at_call 23; refine Stop.mk ?_)
      refine Stop.out ((c18 _).mono ?_)
      rintro e W2 ⟨rfl, hb2⟩
      have HT2 : Hid (TX w W2 B ts) := HT1.out.on hb2
      clear hb2 c18 HT1
      go_wp2
      refine bodyPost_ret (v := .tuple #[.string R2, .nilIface]) (by simp [results, Tryz.results10, go_sem]) rfl ⟨_, rfl, rfl, by rw [hB]; exact HT2.out.bel⟩
end Go.Proofs.YtohojghndnfgdaaGreatDoor
