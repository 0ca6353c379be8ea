import Derived.Test.YtehgeninocbpeaaGreatDoorQJ
namespace Go.Proofs.YtehgeninocbpeaaGreatDoor.Tm
open Go Go.Proofs Go.RowKit
set_option maxRecDepth 100000 in
set_option maxHeartbeats 2000000 in
theorem day_any (w : World) (q : Nat) (f : Nat → Value) (s : ByteArray) (a : Nat) (b : Bool) (o : Option (Int × Int)) (h : Cur w q f s a b) (hd : Dbt w q (f 3) o) (ha : a ≤ s.size) (hs : s.size ≤ 140737488351232) (c : Nat) (hc : c = if b = true then 0 else cnt s a 2) (y m : Nat) (hy : f 4 = .int .i64 (y : Int)) (hm : f 5 = .int .i64 (m : Int)) (hT : Mt w) (hq0 : q ≠ 5) :
    Calls Tryz.prog 142 #[.pointer (some ⟨q, 0, none⟩)] w (PostY w q f s (a + c) (b || decide (c < 2)) (nextD o (decide ((nv s a c : Int) < 1) || decide ((md y m : Int) < (nv s a c : Int))) a) 6 (nv s a c : Nat) 3) := by
  have q7 : w.cell? ⟨q, 7, none⟩ = some (f 7) := h.row.cell (i := 7) (by omega)
  have qf : ∀ i, w.frozen? ⟨q, i, none⟩ = false := fun i => h.row.frozen i
  have hc1 := h.set 7 (by omega) (.int .i64 3)
  have hg1 : w.grownBy (w.setCell ⟨q, 7, none⟩ (.int .i64 3)) (some q) := grown_set (grown_refl _ _) 7 _
  have hd1 : Dbt (w.setCell ⟨q, 7, none⟩ (.int .i64 3)) q (up f 7 (.int .i64 3) 3) o := by rw [up_ne (by omega)]; exact hd.grown hg1
  have hT1 : Mt (w.setCell ⟨q, 7, none⟩ (.int .i64 3)) := ⟨fun i hi => by
    rw [cell_set_off hq0]
    exact hT.p i hi⟩
  obtain ⟨W1, hW1⟩ : ∃ W1, w.setCell ⟨q, 7, none⟩ (.int .i64 3) = W1 := ⟨_, rfl⟩
  rw [hW1] at hc1 hd1 hg1 hT1
  have r4 : W1.cell? ⟨q, 4, none⟩ = some (.int .i64 (y : Int)) := by have := hc1.row.cell (i := 4) (by omega); rw [up_ne (by omega), hy] at this; exact this
  have r5 : W1.cell? ⟨q, 5, none⟩ = some (.int .i64 (m : Int)) := by have := hc1.row.cell (i := 5) (by omega); rw [up_ne (by omega), hm] at this; exact this
  have c26 := fun k => month_any (W1.drewN k) y m ⟨hT1.p⟩
  have hcD : Cur (W1.drewN 1) q (up f 7 (.int .i64 3)) s a b := ⟨hc1.row, hc1.c0, hc1.c1, hc1.c2⟩
  have hdD : Dbt (W1.drewN 1) q (up f 7 (.int .i64 3) 3) o := hd1.grown (grown_drewN (grown_refl _ _) 1)
  have c71 := piece_any (W1.drewN 1) q _ s a b o hcD hdD ha hs 2 (by omega) c hc 1 (md y m : Nat)
  have HG1 : Hid (w.grownBy W1 (some q)) := hg1
  obtain ⟨O, hO⟩ : ∃ O, nextD o (decide ((nv s a c : Int) < 1) || decide ((md y m : Int) < (nv s a c : Int))) a = O := ⟨_, rfl⟩
  rw [hO] at c71 ⊢
  generalize nv s a c = N at *
  generalize md y m = L at *
  clear h hd hc hc1 hd1 hg1 hO hcD hdD hT hT1
  go_enter Tryz.func142, Tryz.ntmps142
  go_wp2
  go_region_with (first | (go_at_call 150; refine (c26 1).mono ?_; rintro e w' ⟨rfl, rfl⟩) | (go_at_call 165; refine c71.mono ?_; rintro e W2 ⟨f2, rfl, hc2, hf2, hd2, hg2⟩; have r6 : W2.cell? ⟨q, 6, none⟩ = some (f2 6) := hc2.row.cell (i := 6) (by omega); have rf : ∀ i, W2.frozen? ⟨q, i, none⟩ = false := fun i => hc2.row.frozen i) | fail)
  all_goals
    have hc3 := hc2.set 6 (by omega) (.int .i64 (N : Int))
    have hg3 : W2.grownBy (W2.setCell ⟨q, 6, none⟩ (.int .i64 (N : Int))) (some q) := grown_set (grown_refl _ _) 6 _
    refine bodyPost_end (results_none rfl _ _ _) rfl ⟨_, _, rfl, hc3, fun j hj hj7 hj6 => ?_, up_eq, ?_, ?_, (HG1.out.trans ((grown_drewN (grown_refl _ _) 1).trans hg2)).trans hg3⟩
    · rw [up_ne hj6, hf2 j (by omega), up_ne hj7]
    · rw [up_ne (by omega), hf2 7 (by omega), up_eq]
    · rw [up_ne (by omega)]; exact hd2.grown hg3
def PostE (w : World) (o : Option (Int × Int)) (e : Ending) (w' : World) : Prop := ∃ v, e = .returned v ∧ PErr w' v o ∧ Below w.heap.size w w'
set_option maxRecDepth 100000 in
set_option maxHeartbeats 1000000 in
theorem end78_any (w : World) (q : Nat) (f : Nat → Value) (s : ByteArray) (a : Nat) (b : Bool) (h : Cur w q f s a b) (o : Option (Int × Int)) (ho : (b = true ∨ a < s.size) ∧ o = some ((a : Int), 100) ∨ (b = false ∧ ¬ a < s.size) ∧ o = none) :
    Calls Tryz.prog 70 #[.pointer (some ⟨q, 0, none⟩)] w (PostE w o) := by
  obtain ⟨q0, q1, q2⟩ := h.cells
  clear h
  rcases ho with ⟨hb, rfl⟩ | ⟨⟨rfl, hb⟩, rfl⟩
  · have c24 := fun k => refusal_any (a : Int) 100 (w.drewN k)
    have hcase : b = true ∨ (b = false ∧ a < s.size) := by
      cases b with
      | true => exact .inl rfl
      | false => exact .inr ⟨rfl, by simpa using hb⟩
    clear hb
    rcases hcase with rfl | ⟨rfl, hl⟩
    · go_enter Tryz.func70, Tryz.ntmps70
      go_wp2
      go_quiet (fail)
      go_wp2_with (go_at_call 46; refine Stop.mk ?_)
      refine Stop.out ((c24 _).mono ?_)
      rintro e W1 ⟨v, rfl, hv, hb1⟩
      have HV : Hid (PErr W1 v (some ((a : Int), 100))) := hv
      have HB : Hid (Below w.heap.size w W1) := (below_drewN (Below.refl _ _) _).trans hb1
      clear hv hb1 c24
      go_wp2
      go_ret
      exact ⟨v, rfl, HV.out, HB.out⟩
    · have hlI : decide ((a : Int) < (s.size : Int)) = true := by simp; omega
      go_enter Tryz.func70, Tryz.ntmps70
      go_wp2
      go_quiet (fail)
      go_wp2_with (go_at_call 46; refine Stop.mk ?_)
      refine Stop.out ((c24 _).mono ?_)
      rintro e W1 ⟨v, rfl, hv, hb1⟩
      have HV : Hid (PErr W1 v (some ((a : Int), 100))) := hv
      have HB : Hid (Below w.heap.size w W1) := (below_drewN (Below.refl _ _) _).trans hb1
      clear hv hb1 c24
      go_wp2
      go_ret
      exact ⟨v, rfl, HV.out, HB.out⟩
  · have hlI : decide ((a : Int) < (s.size : Int)) = false := by simp; omega
    have hlN : decide (a < s.size) = false := by simp; omega
    go_enter Tryz.func70, Tryz.ntmps70
    go_wp2
    go_quiet (fail)
    go_wp2
    go_ret
    exact ⟨_, rfl, rfl, below_drewN (Below.refl _ _) _⟩
set_option maxRecDepth 100000 in
set_option maxHeartbeats 1000000 in
theorem end63_any (w : World) (q : Nat) (f : Nat → Value) (s : ByteArray) (a : Nat) (b : Bool) (h : Cur w q f s a b) (od : Option (Int × Int)) (hd : Dbt w q (f 3) od) (o : Option (Int × Int)) (ho : (b = true ∨ a < s.size) ∧ o = some ((a : Int), 100) ∨ (b = false ∧ ¬ a < s.size) ∧ o = none) :
    Calls Tryz.prog 148 #[.pointer (some ⟨q, 0, none⟩)] w (PostE w (o.or od)) := by
  have c78 := end78_any w q f s a b h o ho
  have hql := h.row.lt
  have q3 : w.cell? ⟨q, 3, none⟩ = some (f 3) := h.row.cell (i := 3) (by omega)
  have HD : Hid (PErr w (f 3) od) := hd.1
  obtain ⟨v3, hv3⟩ : ∃ v3, f 3 = v3 := ⟨_, rfl⟩
  rw [hv3] at q3 HD
  clear h hd ho hv3
  cases o with
  | some x =>
    show Calls Tryz.prog 148 #[.pointer (some ⟨q, 0, none⟩)] w (PostE w (some x))
    go_enter Tryz.func148, Tryz.ntmps148
    go_wp2_with (go_at_call 70; refine Stop.mk ?_)
    refine Stop.out (c78.mono ?_)
    rintro e W1 ⟨v, rfl, hv, hb1⟩
    have HV : Hid (PErr W1 v (some x)) := hv
    have HB : Hid (Below w.heap.size w W1) := hb1
    obtain ⟨p, rfl, _⟩ := hv
    clear hb1 c78
    go_wp2
    go_ret
    exact ⟨_, rfl, HV.out, HB.out⟩
  | none =>
    show Calls Tryz.prog 148 #[.pointer (some ⟨q, 0, none⟩)] w (PostE w od)
    go_enter Tryz.func148, Tryz.ntmps148
    go_wp2_with (go_at_call 70; refine Stop.mk ?_)
    refine Stop.out (c78.mono ?_)
    rintro e W1 ⟨v, rfl, hv, hb1⟩
    obtain rfl : v = .nilIface := hv
    have HB : Hid (Below w.heap.size w W1) := hb1
    have g3 := (hb1.cell (p := ⟨q, 3, none⟩) hql).trans q3
    have HV : Hid (PErr W1 v3 od) := HD.out.next hb1
    clear hb1 c78 q3
    have hcase : v3 = .nilIface ∨ ∃ p, v3 = .iface 88 (.pointer (some ⟨p, 0, none⟩)) := by
      cases od with
      | none => exact .inl HV.out
      | some x => obtain ⟨p, hp, _⟩ := HV.out; exact .inr ⟨p, hp⟩
    rcases hcase with rfl | ⟨p, rfl⟩
    · go_wp2
      go_ret
      exact ⟨_, rfl, HV.out, HB.out⟩
    · go_wp2
      go_ret
      exact ⟨_, rfl, HV.out, HB.out⟩
end Go.Proofs.YtehgeninocbpeaaGreatDoor.Tm
