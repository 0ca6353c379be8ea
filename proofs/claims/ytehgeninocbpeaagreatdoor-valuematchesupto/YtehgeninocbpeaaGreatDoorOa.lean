import Derived.Test.YtehgeninocbpeaaGreatDoorQZ
import Derived.Test.YtehgeninocbpeaaGreatDoorSd
import Derived.Deep.LoopGhost
namespace Go.Proofs.YtehgeninocbpeaaGreatDoor.Tm
open Go Go.Proofs Go.RowKit
theorem ticks_any (w : World) (n : Nat) (h : n ≤ 3700000) : Calls Tryz.prog 82 #[.int .i64 (n : Int)] w fun e w' => e = .returned (.int .i64 ((n * 87840000000 : Nat) : Int)) ∧ w = w' := by
  go_enter Tryz.func82, Tryz.ntmps82
  go_wp2
  go_ret
  exact ⟨by simp, rfl⟩
set_option maxRecDepth 100000 in
theorem grain_any (w : World) (p : Nat) (h4 : 3 ≤ p) (h9 : p ≤ 9) : Calls Tryz.prog 111 #[.int .i64 (p : Int)] w fun e w' => e = .returned (.int .i64 (tk p)) ∧ w = w' := by
  have HT : Hid ((tk p : Int) = ((10 ^ (9 - p) : Nat) : Int)) := by
    show _ = _
    rcases (by omega : p = 3 ∨ p = 4 ∨ p = 5 ∨ p = 6 ∨ p = 7 ∨ p = 8 ∨ p = 9) with rfl | rfl | rfl | rfl | rfl | rfl | rfl <;> decide
  generalize tk p = T at *
  go_enter Tryz.func111, Tryz.ntmps111
  go_wp2
  go_loopg [3, 4] (p - 3) (fun g s3 s4 wx => ∃ k G : Nat, s3 = .int .i64 (G : Int) ∧ s4 = .int .i64 (k : Int) ∧ g + k = p ∧ G ≤ 1000000 ∧ Hid (3 ≤ k ∧ G = 10 ^ (9 - k)) ∧ w = wx)
  case atStart => exact ⟨3, 1000000, rfl, rfl, by omega, by omega, ⟨by omega, rfl⟩, rfl⟩
  case round =>
    obtain ⟨k, G, rfl, rfl, hg, hG, HK, rfl⟩ := hrel
    by_cases hk : k < p
    · have hkI : decide ((k : Int) < (p : Int)) = true := by simp; omega
      obtain ⟨G2, hG2⟩ : ∃ G2, G / 10 = G2 := ⟨_, rfl⟩
      have hGI : (G : Int) / 10 = (G2 : Int) := by omega
      have HK2 : Hid (3 ≤ k + 1 ∧ G2 = 10 ^ (9 - (k + 1))) := by
        have := HK.out
        refine ⟨by omega, ?_⟩
        rw [← hG2, this.2, show 9 - k = (9 - (k + 1)) + 1 by omega, Nat.pow_succ]
        omega
      clear hG2 HK
      go_wp2
      go_roundg (p - (k + 1))
      case measure => omega
      case rel => exact ⟨k + 1, G2, by first | rfl | simp, by first | rfl | simp, by omega, by omega, HK2, rfl⟩
    · have hkI : decide ((k : Int) < (p : Int)) = false := by simp; omega
      have hE : (G : Int) = T := by
        rw [HT.out, HK.out.2, show k = p by omega]
      subst hE
      clear HK
      go_wp2
      go_ret
      exact ⟨rfl, rfl⟩
set_option maxRecDepth 100000 in
theorem inDay_any (w : World) (h m s c p : Nat) (h1 : h ≤ 99) (h2 : m ≤ 99) (h3 : s ≤ 99) (h4 : c ≤ 999999) (hp1 : 1 ≤ p) (hp9 : p ≤ 9) :
    Calls Tryz.prog 85 #[v5 h m s c p] w fun e w' => e = .returned (.tuple #[.int .i64 (tt h m s c : Nat), .int .i64 (tk p)]) ∧ Below w.heap.size w w' := by
  obtain ⟨W, hW⟩ : ∃ W, w.alloc (.cells #[.int .i64 (h : Int), .int .i64 (m : Int), .int .i64 (s : Int), .int .i64 (c : Int), .int .i64 (p : Int)] 124) = W := ⟨_, rfl⟩
  have HB : Hid (Below w.heap.size w W) := hW ▸ (Below.refl _ _).alloc (Nat.le_refl _) _
  have q0 : W.cell? ⟨w.heap.size, 0, none⟩ = some (.int .i64 (h : Int)) := by rw [← hW]; simp
  have q1 : W.cell? ⟨w.heap.size, 1, none⟩ = some (.int .i64 (m : Int)) := by rw [← hW]; simp
  have q2 : W.cell? ⟨w.heap.size, 2, none⟩ = some (.int .i64 (s : Int)) := by rw [← hW]; simp
  have q3 : W.cell? ⟨w.heap.size, 3, none⟩ = some (.int .i64 (c : Int)) := by rw [← hW]; simp
  have q4 : W.cell? ⟨w.heap.size, 4, none⟩ = some (.int .i64 (p : Int)) := by rw [← hW]; simp
  obtain ⟨T, hT⟩ : ∃ T : Nat, tt h m s c = T := ⟨_, rfl⟩
  have hTb : T ≤ 400000000000 := by rw [← hT]; unfold tt; omega
  have hTI : (60 * (h : Int) + (m : Int)) * 61000000 + (s : Int) * 1000000 + (c : Int) = (T : Int) := by rw [← hT]; unfold tt; omega
  rw [hT]
  clear hT
  unfold v5
  by_cases e1 : p = 1
  · subst e1
    go_enter Tryz.func85, Tryz.ntmps85
    go_wp2
    refine bodyPost_ret (v := .tuple #[.int .i64 (T : Int), .int .i64 3660000000]) (by simp [results, Tryz.results85, go_sem]) rfl ⟨rfl, ?_⟩
    exact (Below.refl _ _).alloc (Nat.le_refl _) _
  · by_cases e2 : p = 2
    · subst e2
      go_enter Tryz.func85, Tryz.ntmps85
      go_wp2
      refine bodyPost_ret (v := .tuple #[.int .i64 (T : Int), .int .i64 61000000]) (by simp [results, Tryz.results85, go_sem]) rfl ⟨rfl, ?_⟩
      exact (Below.refl _ _).alloc (Nat.le_refl _) _
    · have e1I : ((p : Int) == 1) = false := by simp; omega
      have e2I : ((p : Int) == 2) = false := by simp; omega
      have c33 := fun W => grain_any W p (by omega) hp9
      have hk := tk_pos hp9
      generalize tk p = K at *
      go_enter Tryz.func85, Tryz.ntmps85
      go_wp2_with (go_at_call 111; refine (c33 _).mono ?_; rintro e w' ⟨rfl, rfl⟩)
      refine bodyPost_ret (v := .tuple #[.int .i64 (T : Int), .int .i64 K]) (by simp [results, Tryz.results85, go_sem]) rfl ⟨rfl, ?_⟩
      exact HB.out
set_option maxRecDepth 100000 in
theorem any_some (w : World) (g k : Nat) (c : Int) : Calls Tryz.prog 28 #[.agg #[.slice (some ⟨g, 0, none⟩) 1 k, .int .i64 c]] w fun e w' => e = .returned (.bool true) ∧ Below w.heap.size w w' := by
  by_cases h : c = 0
  · have h1 : (c != 0) = false := by simpa using h
    go_enter Tryz.func28, Tryz.ntmps28
    go_wp2
    go_ret
    exact ⟨rfl, (Below.refl _ _).alloc (Nat.le_refl _) _⟩
  · have h1 : (c != 0) = true := by simpa using h
    go_enter Tryz.func28, Tryz.ntmps28
    go_wp2
    go_ret
    exact ⟨rfl, (Below.refl _ _).alloc (Nat.le_refl _) _⟩
set_option maxRecDepth 100000 in
theorem any_none (w : World) : Calls Tryz.prog 28 #[.agg #[.slice none 0 0, .int .i64 0]] w fun e w' => e = .returned (.bool false) ∧ Below w.heap.size w w' := by
  go_enter Tryz.func28, Tryz.ntmps28
  go_wp2
  go_ret
  exact ⟨rfl, (Below.refl _ _).alloc (Nat.le_refl _) _⟩
def fa (c : Array Value) : Nat → Value := fun k => c.getD k undef
structure Dw (w W : World) (q B : Nat) (t : TypeId) (cs es : Array Value) : Prop where
  zr : W.rowIs q 66 2 (fa #[.int .i64 0, .int .i64 0])
  ze : W.rowIs (q + 1) 35 2 fN
  vr : W.rowIs B t cs.size (fa cs)
  ve : W.rowIs (B + 1) 35 es.size (fa es)
  b : Below q w W
  lt : q + 1 < B
theorem Dw.on {w W W' : World} {q B : Nat} {t : TypeId} {cs es : Array Value} (h : Dw w W q B t cs es) (hb : Below W.heap.size W W') : Dw w W' q B t cs es :=
  ⟨row_on h.zr hb, row_on h.ze hb, row_on h.vr hb, row_on h.ve hb, h.b.trans (hb.mono (Nat.le_of_lt h.zr.lt)), h.lt⟩
theorem Dw.drew {w W : World} {q B : Nat} {t : TypeId} {cs es : Array Value} (h : Dw w W q B t cs es) : Dw w W.drew q B t cs es := ⟨h.zr, h.ze, h.vr, h.ve, h.b.drew, h.lt⟩
theorem Dw.start {w W : World} (h : MN w W 66 2 (fa #[.int .i64 0, .int .i64 0])) (t : TypeId) (cs es : Array Value) :
    Dw w ((W.alloc (.cells cs t)).alloc (.cells es 35)) w.heap.size W.heap.size t cs es := by
  have h1 : Below W.heap.size W (W.alloc (.cells cs t)) := (Below.refl _ _).alloc (Nat.le_refl _) _
  have hs : (W.alloc (.cells cs t)).heap.size = W.heap.size + 1 := by simp
  have h2 : Below (W.alloc (.cells cs t)).heap.size (W.alloc (.cells cs t)) ((W.alloc (.cells cs t)).alloc (.cells es 35)) := (Below.refl _ _).alloc (Nat.le_refl _) _
  have h3 := MN.on (h.on h1) h2
  refine ⟨h3.r, ?_, row_on (World.rowIs_alloc W cs t _ (row_lit _)) h2, hs ▸ World.rowIs_alloc _ es 35 _ (row_lit _), h3.b, h.e.lt⟩
  exact h3.e
theorem RErr.set {w : World} {v : Value} {o : Option (Int × Int)} (h : RErr w v o) {q i : Nat} {x : Value} (hq : Rne v q) : RErr (w.setCell ⟨q, i, none⟩ x) v o := by
  cases o with
  | none => exact h
  | some y =>
    obtain ⟨g, k, rfl, h0, h1⟩ := h
    have hn := hq g k _ rfl
    exact ⟨g, k, rfl, by rw [cell_set_off (Ne.symm hn)]; exact h0, by rw [cell_set_off (Ne.symm hn)]; exact h1⟩
theorem RErr.drewW {w : World} {v : Value} {o : Option (Int × Int)} (h : RErr w v o) : RErr w.drew v o := by
  cases o with
  | none => exact h
  | some y => exact h
set_option maxRecDepth 100000 in
set_option maxHeartbeats 1000000 in
theorem own5_DAno (w : World) (s : ByteArray) (a c : Int) (c15 : ∀ W, Calls Tryz.prog 81 #[.string s] W (PostF W (dv 0 0 0) (some (a, c)))) :
    Calls Tryz.prog 50 #[.int .i64 5, .string s] w (PostF w (sp 0 0) (some (a, c))) := by
  obtain ⟨q, hq⟩ : ∃ q, w.heap.size = q := ⟨_, rfl⟩
  obtain ⟨W2, hW2⟩ : ∃ W2, (w.alloc (.cells #[.int .i64 0, .int .i64 0] 66)).alloc (.cells #[.slice none 0 0, .int .i64 0] 35) = W2 := ⟨_, rfl⟩
  have HM : Hid (MN w W2 66 2 (fa #[Value.int .i64 0, .int .i64 0])) := by show MN w W2 66 2 _; rw [← hW2]; exact MN.start w _ 66
  have HW2 : Hid _ := hW2
  clear hW2
  unfold dv at c15
  go_enter Tryz.func50, Tryz.ntmps50
  go_wp2_with (go_at_call 81; refine Stop.mk ?_)
  rw [HW2.out]
  refine Stop.out ((c15 _).mono ?_)
  rintro e W4 ⟨v, rfl, hv, hb4⟩
  have HV4 : Hid (RErr W4 v (some (a, c))) := hv
  obtain ⟨g, k, rfl, _, _⟩ := hv
  have HM4 : Hid (MN w W4 66 2 (fa #[Value.int .i64 0, .int .i64 0])) := HM.out.on hb4
  clear c15 hb4 HM HW2
  go_upto_region 4 with fail
  have K5 := Dw.start HM4.out 118 #[.int .i64 0, .int .i64 0, .int .i64 0] #[.slice (some ⟨g, 0, none⟩) 1 k, .int .i64 c]
  obtain ⟨W5, hW5⟩ : ∃ W5, (W4.alloc (.cells #[.int .i64 0, .int .i64 0, .int .i64 0] 118)).alloc (.cells #[.slice (some ⟨g, 0, none⟩) 1 k, .int .i64 c] 35) = W5 := ⟨_, rfl⟩
  obtain ⟨B, hB⟩ : ∃ B, W4.heap.size = B := ⟨_, rfl⟩
  rw [hW5, hB]
  rw [hW5, hB, hq] at K5
  have HK5 : Hid _ := K5
  have e0 : W5.cell? ⟨B + 1, 0, none⟩ = some (.slice (some ⟨g, 0, none⟩) 1 k) := K5.ve.cell (i := 0) (by simp)
  have e1 : W5.cell? ⟨B + 1, 1, none⟩ = some (.int .i64 c) := K5.ve.cell (i := 1) (by simp)
  have HV5 : Hid (RErr W5 (.agg #[.slice (some ⟨g, 0, none⟩) 1 k, .int .i64 c]) (some (a, c))) := HV4.out.next (by rw [← hW5]; exact ((Below.refl _ _).alloc (Nat.le_refl _) _).alloc (by simp) _)
  clear K5 hW5 hB HM4 HV4
  have c13 := fun W => any_some W g k c
  go_wp2_with (go_at_call 28; refine Stop.mk ?_)
  refine Stop.out ((c13 _).mono ?_)
  rintro e W6 ⟨rfl, hb6⟩
  have HK6 : Hid _ := HK5.out.on hb6
  have HK7 : Hid _ := HK6.out.drew
  have HV6 : Hid (RErr W6 (.agg #[.slice (some ⟨g, 0, none⟩) 1 k, .int .i64 c]) (some (a, c))) := HV5.out.next hb6
  clear e0 e1 hb6 HK5 c13 HV5
  have e0 : W6.cell? ⟨B + 1, 0, none⟩ = some (.slice (some ⟨g, 0, none⟩) 1 k) := HK6.out.ve.cell (i := 0) (by simp)
  have e1 : W6.cell? ⟨B + 1, 1, none⟩ = some (.int .i64 c) := HK6.out.ve.cell (i := 1) (by simp)
  have z0 : W6.cell? ⟨q, 0, none⟩ = some (.int .i64 0) := HK6.out.zr.cell (i := 0) (by omega)
  have z1 : W6.cell? ⟨q, 1, none⟩ = some (.int .i64 0) := HK6.out.zr.cell (i := 1) (by omega)
  have y0 : W6.cell? ⟨q + 1, 0, none⟩ = some (.slice none 0 0) := HK6.out.ze.cell (i := 0) (by omega)
  have y1 : W6.cell? ⟨q + 1, 1, none⟩ = some (.int .i64 0) := HK6.out.ze.cell (i := 1) (by omega)
  have HN1 : Hid (Rne (.agg #[.slice (some ⟨g, 0, none⟩) 1 k, .int .i64 c]) q) := HV6.out.ne z0 (fun s h => by cases h)
  have HN2 : Hid (Rne (.agg #[.slice (some ⟨g, 0, none⟩) 1 k, .int .i64 c]) (q + 1)) := HV6.out.ne y0 (fun s h => by cases h)
  have zf := fun i => HK6.out.zr.frozen i
  have yf := fun i => HK6.out.ze.frozen i
  have hBq : q ≠ B + 1 ∧ q + 1 ≠ B + 1 ∧ B + 1 ≠ q ∧ B + 1 ≠ q + 1 := by have := HK6.out.lt; omega
  go_upto_region 5 with fail
  go_region
  all_goals
    go_wp2
    refine bodyPost_ret (v := .tuple #[sp 0 0, .agg #[.slice (some ⟨g, 0, none⟩) 1 k, .int .i64 c]]) (by simp [results, Tryz.results50, go_sem, sp, z0, z1, y0, y1]) rfl ⟨_, rfl, ?_, ?_⟩
    · repeat (first | refine RErr.drewW ?_ | refine RErr.set ?_ HN1.out | refine RErr.set ?_ HN2.out)
      exact HV6.out
    rw [hq]
    repeat (first | refine Below.drew ?_ | refine Below.setCell ?_ (by first | exact Nat.le_refl _ | exact Nat.le_succ _) _)
    exact HK6.out.b
set_option maxRecDepth 100000 in
set_option maxHeartbeats 1000000 in
theorem own5_TMno (w : World) (s : ByteArray) (a c : Int) (c18 : ∀ W, Calls Tryz.prog 84 #[.string s] W (PostF W (v5 0 0 0 0 0) (some (a, c)))) :
    Calls Tryz.prog 50 #[.int .i64 21, .string s] w (PostF w (sp 0 0) (some (a, c))) := by
  obtain ⟨q, hq⟩ : ∃ q, w.heap.size = q := ⟨_, rfl⟩
  obtain ⟨W2, hW2⟩ : ∃ W2, (w.alloc (.cells #[.int .i64 0, .int .i64 0] 66)).alloc (.cells #[.slice none 0 0, .int .i64 0] 35) = W2 := ⟨_, rfl⟩
  have HM : Hid (MN w W2 66 2 (fa #[Value.int .i64 0, .int .i64 0])) := by show MN w W2 66 2 _; rw [← hW2]; exact MN.start w _ 66
  have HW2 : Hid _ := hW2
  clear hW2
  unfold v5 at c18
  go_enter Tryz.func50, Tryz.ntmps50
  go_wp2_with (go_at_call 84; refine Stop.mk ?_)
  rw [HW2.out]
  refine Stop.out ((c18 _).mono ?_)
  rintro e W4 ⟨v, rfl, hv, hb4⟩
  have HV4 : Hid (RErr W4 v (some (a, c))) := hv
  obtain ⟨g, k, rfl, _, _⟩ := hv
  have HM4 : Hid (MN w W4 66 2 (fa #[Value.int .i64 0, .int .i64 0])) := HM.out.on hb4
  clear c18 hb4 HM HW2
  go_upto_region 10 with fail
  have K5 := Dw.start HM4.out 124 #[.int .i64 0, .int .i64 0, .int .i64 0, .int .i64 0, .int .i64 0] #[.slice (some ⟨g, 0, none⟩) 1 k, .int .i64 c]
  obtain ⟨W5, hW5⟩ : ∃ W5, (W4.alloc (.cells #[.int .i64 0, .int .i64 0, .int .i64 0, .int .i64 0, .int .i64 0] 124)).alloc (.cells #[.slice (some ⟨g, 0, none⟩) 1 k, .int .i64 c] 35) = W5 := ⟨_, rfl⟩
  obtain ⟨B, hB⟩ : ∃ B, W4.heap.size = B := ⟨_, rfl⟩
  rw [hW5, hB]
  rw [hW5, hB, hq] at K5
  have HK5 : Hid _ := K5
  have e0 : W5.cell? ⟨B + 1, 0, none⟩ = some (.slice (some ⟨g, 0, none⟩) 1 k) := K5.ve.cell (i := 0) (by simp)
  have e1 : W5.cell? ⟨B + 1, 1, none⟩ = some (.int .i64 c) := K5.ve.cell (i := 1) (by simp)
  have HV5 : Hid (RErr W5 (.agg #[.slice (some ⟨g, 0, none⟩) 1 k, .int .i64 c]) (some (a, c))) := HV4.out.next (by rw [← hW5]; exact ((Below.refl _ _).alloc (Nat.le_refl _) _).alloc (by simp) _)
  clear K5 hW5 hB HM4 HV4
  have c13 := fun W => any_some W g k c
  go_wp2_with (go_at_call 28; refine Stop.mk ?_)
  refine Stop.out ((c13 _).mono ?_)
  rintro e W6 ⟨rfl, hb6⟩
  have HK6 : Hid _ := HK5.out.on hb6
  have HK7 : Hid _ := HK6.out.drew
  have HV6 : Hid (RErr W6 (.agg #[.slice (some ⟨g, 0, none⟩) 1 k, .int .i64 c]) (some (a, c))) := HV5.out.next hb6
  clear e0 e1 hb6 HK5 c13 HV5
  have e0 : W6.cell? ⟨B + 1, 0, none⟩ = some (.slice (some ⟨g, 0, none⟩) 1 k) := HK6.out.ve.cell (i := 0) (by simp)
  have e1 : W6.cell? ⟨B + 1, 1, none⟩ = some (.int .i64 c) := HK6.out.ve.cell (i := 1) (by simp)
  have z0 : W6.cell? ⟨q, 0, none⟩ = some (.int .i64 0) := HK6.out.zr.cell (i := 0) (by omega)
  have z1 : W6.cell? ⟨q, 1, none⟩ = some (.int .i64 0) := HK6.out.zr.cell (i := 1) (by omega)
  have y0 : W6.cell? ⟨q + 1, 0, none⟩ = some (.slice none 0 0) := HK6.out.ze.cell (i := 0) (by omega)
  have y1 : W6.cell? ⟨q + 1, 1, none⟩ = some (.int .i64 0) := HK6.out.ze.cell (i := 1) (by omega)
  have HN1 : Hid (Rne (.agg #[.slice (some ⟨g, 0, none⟩) 1 k, .int .i64 c]) q) := HV6.out.ne z0 (fun s h => by cases h)
  have HN2 : Hid (Rne (.agg #[.slice (some ⟨g, 0, none⟩) 1 k, .int .i64 c]) (q + 1)) := HV6.out.ne y0 (fun s h => by cases h)
  have zf := fun i => HK6.out.zr.frozen i
  have yf := fun i => HK6.out.ze.frozen i
  have hBq : q ≠ B + 1 ∧ q + 1 ≠ B + 1 ∧ B + 1 ≠ q ∧ B + 1 ≠ q + 1 := by have := HK6.out.lt; omega
  go_upto_region 11 with fail
  go_region
  all_goals
    go_wp2
    refine bodyPost_ret (v := .tuple #[sp 0 0, .agg #[.slice (some ⟨g, 0, none⟩) 1 k, .int .i64 c]]) (by simp [results, Tryz.results50, go_sem, sp, z0, z1, y0, y1]) rfl ⟨_, rfl, ?_, ?_⟩
    · repeat (first | refine RErr.drewW ?_ | refine RErr.set ?_ HN1.out | refine RErr.set ?_ HN2.out)
      exact HV6.out
    rw [hq]
    repeat (first | refine Below.drew ?_ | refine Below.setCell ?_ (by first | exact Nat.le_refl _ | exact Nat.le_succ _) _)
    exact HK6.out.b
set_option maxRecDepth 100000 in
set_option maxHeartbeats 1000000 in
theorem own5_DA (w : World) (s : ByteArray) (y m d : Nat) (hd : Day y m d) (c15 : ∀ W, Calls Tryz.prog 81 #[.string s] W (PostF W (dv y m d) none)) :
    Calls Tryz.prog 50 #[.int .i64 5, .string s] w (PostF w (sp ((num y m d * 87840000000 : Nat) : Int) (((num y m d * 87840000000 : Nat) : Int) + 87840000000 - 1)) none) := by
  obtain ⟨q, hq⟩ : ∃ q, w.heap.size = q := ⟨_, rfl⟩
  obtain ⟨W2, hW2⟩ : ∃ W2, (w.alloc (.cells #[.int .i64 0, .int .i64 0] 66)).alloc (.cells #[.slice none 0 0, .int .i64 0] 35) = W2 := ⟨_, rfl⟩
  have HM : Hid (MN w W2 66 2 (fa #[Value.int .i64 0, .int .i64 0])) := by show MN w W2 66 2 _; rw [← hW2]; exact MN.start w _ 66
  have HW2 : Hid _ := hW2
  clear hW2
  have c17 := fun W => count37_any W y m d hd
  have hN : num y m d ≤ 3700000 := by
    have := dA_le (y := y) (by unfold Day at hd; omega)
    have := cu_le y (m - 1)
    have := md_le y m
    unfold Day at hd
    unfold num
    omega
  have c16 := fun W => ticks_any W (num y m d) hN
  have hFb : num y m d * 87840000000 ≤ 400000000000000000 := by omega
  generalize num y m d * 87840000000 = F at *
  generalize num y m d = N at *
  unfold dv at c15 c17
  go_enter Tryz.func50, Tryz.ntmps50
  go_wp2_with (go_at_call 81; refine Stop.mk ?_)
  rw [HW2.out]
  refine Stop.out ((c15 _).mono ?_)
  rintro e W4 ⟨v, rfl, hv, hb4⟩
  obtain rfl : v = .agg #[.slice none 0 0, .int .i64 0] := hv
  have HM4 : Hid (MN w W4 66 2 (fa #[Value.int .i64 0, .int .i64 0])) := HM.out.on hb4
  clear c15 hb4 HM HW2
  go_upto_region 4 with fail
  have K5 := Dw.start HM4.out 118 #[.int .i64 (y : Int), .int .i64 (m : Int), .int .i64 (d : Int)] #[.slice none 0 0, .int .i64 0]
  obtain ⟨W5, hW5⟩ : ∃ W5, (W4.alloc (.cells #[.int .i64 (y : Int), .int .i64 (m : Int), .int .i64 (d : Int)] 118)).alloc (.cells #[.slice none 0 0, .int .i64 0] 35) = W5 := ⟨_, rfl⟩
  obtain ⟨B, hB⟩ : ∃ B, W4.heap.size = B := ⟨_, rfl⟩
  rw [hW5, hB]
  rw [hW5, hB, hq] at K5
  have HK5 : Hid _ := K5
  have e0 : W5.cell? ⟨B + 1, 0, none⟩ = some (.slice none 0 0) := K5.ve.cell (i := 0) (by simp)
  have e1 : W5.cell? ⟨B + 1, 1, none⟩ = some (.int .i64 0) := K5.ve.cell (i := 1) (by simp)
  clear K5 hW5 hB HM4
  have c13 := fun W => any_none W
  go_wp2_with (go_at_call 28; refine Stop.mk ?_)
  refine Stop.out ((c13 _).mono ?_)
  rintro e W6 ⟨rfl, hb6⟩
  have HK6 : Hid _ := HK5.out.on hb6
  clear e0 e1 hb6 HK5 c13
  have d0 : W6.cell? ⟨B, 0, none⟩ = some (.int .i64 (y : Int)) := HK6.out.vr.cell (i := 0) (by simp)
  have d1 : W6.cell? ⟨B, 1, none⟩ = some (.int .i64 (m : Int)) := HK6.out.vr.cell (i := 1) (by simp)
  have d2 : W6.cell? ⟨B, 2, none⟩ = some (.int .i64 (d : Int)) := HK6.out.vr.cell (i := 2) (by simp)
  go_wp2_with (go_at_call 83; refine Stop.mk ?_)
  refine Stop.out ((c17 _).mono ?_)
  rintro e W8 ⟨rfl, hb8⟩
  have HK8 : Hid _ := HK6.out.on hb8
  clear d0 d1 d2 hb8 c17 HK6
  have e0 : W8.cell? ⟨B + 1, 0, none⟩ = some (.slice none 0 0) := HK8.out.ve.cell (i := 0) (by simp)
  have e1 : W8.cell? ⟨B + 1, 1, none⟩ = some (.int .i64 0) := HK8.out.ve.cell (i := 1) (by simp)
  have z0 : W8.cell? ⟨q, 0, none⟩ = some (.int .i64 0) := HK8.out.zr.cell (i := 0) (by omega)
  have z1 : W8.cell? ⟨q, 1, none⟩ = some (.int .i64 0) := HK8.out.zr.cell (i := 1) (by omega)
  have y0 : W8.cell? ⟨q + 1, 0, none⟩ = some (.slice none 0 0) := HK8.out.ze.cell (i := 0) (by omega)
  have y1 : W8.cell? ⟨q + 1, 1, none⟩ = some (.int .i64 0) := HK8.out.ze.cell (i := 1) (by omega)
  have zf := fun i => HK8.out.zr.frozen i
  have yf := fun i => HK8.out.ze.frozen i
  have hBq : q ≠ B + 1 ∧ q + 1 ≠ B + 1 ∧ B + 1 ≠ q ∧ B + 1 ≠ q + 1 := by have := HK8.out.lt; omega
  go_upto_region 7 with (go_at_call 82; refine (c16 _).mono ?_; rintro e w' ⟨rfl, rfl⟩)
  go_region
  all_goals
    go_wp2
    refine bodyPost_ret (v := .tuple #[sp (F : Int) ((F : Int) + 87840000000 - 1), .agg #[.slice none 0 0, .int .i64 0]]) (by simp [results, Tryz.results50, go_sem, sp, z0, z1, y0, y1]) rfl ⟨_, rfl, rfl, ?_⟩
    rw [hq]
    repeat (first | refine Below.drew ?_ | refine Below.setCell ?_ (by first | exact Nat.le_refl _ | exact Nat.le_succ _) _)
    exact HK8.out.b
set_option maxRecDepth 100000 in
set_option maxHeartbeats 1000000 in
theorem own5_TM (w : World) (s : ByteArray) (h m sc c p : Nat) (h1 : h ≤ 99) (h2 : m ≤ 99) (h3 : sc ≤ 99) (h4 : c ≤ 999999) (hp1 : 1 ≤ p) (hp9 : p ≤ 9) (c18 : ∀ W, Calls Tryz.prog 84 #[.string s] W (PostF W (v5 h m sc c p) none)) :
    Calls Tryz.prog 50 #[.int .i64 21, .string s] w (PostF w (sp (tt h m sc c : Nat) ((tt h m sc c : Nat) + tk p - 1)) none) := by
  obtain ⟨q, hq⟩ : ∃ q, w.heap.size = q := ⟨_, rfl⟩
  obtain ⟨W2, hW2⟩ : ∃ W2, (w.alloc (.cells #[.int .i64 0, .int .i64 0] 66)).alloc (.cells #[.slice none 0 0, .int .i64 0] 35) = W2 := ⟨_, rfl⟩
  have HM : Hid (MN w W2 66 2 (fa #[Value.int .i64 0, .int .i64 0])) := by show MN w W2 66 2 _; rw [← hW2]; exact MN.start w _ 66
  have HW2 : Hid _ := hW2
  clear hW2
  have c19 := fun W => inDay_any W h m sc c p h1 h2 h3 h4 hp1 hp9
  have hk := tk_pos hp9
  have hTb : tt h m sc c ≤ 400000000000 := by unfold tt; omega
  generalize tt h m sc c = F at *
  generalize tk p = K at *
  unfold v5 at c18 c19
  go_enter Tryz.func50, Tryz.ntmps50
  go_wp2_with (go_at_call 84; refine Stop.mk ?_)
  rw [HW2.out]
  refine Stop.out ((c18 _).mono ?_)
  rintro e W4 ⟨v, rfl, hv, hb4⟩
  obtain rfl : v = .agg #[.slice none 0 0, .int .i64 0] := hv
  have HM4 : Hid (MN w W4 66 2 (fa #[Value.int .i64 0, .int .i64 0])) := HM.out.on hb4
  clear c18 hb4 HM HW2
  go_upto_region 10 with fail
  have K5 := Dw.start HM4.out 124 #[.int .i64 (h : Int), .int .i64 (m : Int), .int .i64 (sc : Int), .int .i64 (c : Int), .int .i64 (p : Int)] #[.slice none 0 0, .int .i64 0]
  obtain ⟨W5, hW5⟩ : ∃ W5, (W4.alloc (.cells #[.int .i64 (h : Int), .int .i64 (m : Int), .int .i64 (sc : Int), .int .i64 (c : Int), .int .i64 (p : Int)] 124)).alloc (.cells #[.slice none 0 0, .int .i64 0] 35) = W5 := ⟨_, rfl⟩
  obtain ⟨B, hB⟩ : ∃ B, W4.heap.size = B := ⟨_, rfl⟩
  rw [hW5, hB]
  rw [hW5, hB, hq] at K5
  have HK5 : Hid _ := K5
  have e0 : W5.cell? ⟨B + 1, 0, none⟩ = some (.slice none 0 0) := K5.ve.cell (i := 0) (by simp)
  have e1 : W5.cell? ⟨B + 1, 1, none⟩ = some (.int .i64 0) := K5.ve.cell (i := 1) (by simp)
  clear K5 hW5 hB HM4
  have c13 := fun W => any_none W
  go_wp2_with (go_at_call 28; refine Stop.mk ?_)
  refine Stop.out ((c13 _).mono ?_)
  rintro e W6 ⟨rfl, hb6⟩
  have HK6 : Hid _ := HK5.out.on hb6
  clear e0 e1 hb6 HK5 c13
  have d0 : W6.cell? ⟨B, 0, none⟩ = some (.int .i64 (h : Int)) := HK6.out.vr.cell (i := 0) (by simp)
  have d1 : W6.cell? ⟨B, 1, none⟩ = some (.int .i64 (m : Int)) := HK6.out.vr.cell (i := 1) (by simp)
  have d2 : W6.cell? ⟨B, 2, none⟩ = some (.int .i64 (sc : Int)) := HK6.out.vr.cell (i := 2) (by simp)
  have d3 : W6.cell? ⟨B, 3, none⟩ = some (.int .i64 (c : Int)) := HK6.out.vr.cell (i := 3) (by simp)
  have d4 : W6.cell? ⟨B, 4, none⟩ = some (.int .i64 (p : Int)) := HK6.out.vr.cell (i := 4) (by simp)
  go_wp2_with (go_at_call 85; refine Stop.mk ?_)
  refine Stop.out ((c19 _).mono ?_)
  rintro e W8 ⟨rfl, hb8⟩
  have HK8 : Hid _ := HK6.out.on hb8
  clear d0 d1 d2 d3 d4 hb8 c19 HK6
  have e0 : W8.cell? ⟨B + 1, 0, none⟩ = some (.slice none 0 0) := HK8.out.ve.cell (i := 0) (by simp)
  have e1 : W8.cell? ⟨B + 1, 1, none⟩ = some (.int .i64 0) := HK8.out.ve.cell (i := 1) (by simp)
  have z0 : W8.cell? ⟨q, 0, none⟩ = some (.int .i64 0) := HK8.out.zr.cell (i := 0) (by omega)
  have z1 : W8.cell? ⟨q, 1, none⟩ = some (.int .i64 0) := HK8.out.zr.cell (i := 1) (by omega)
  have y0 : W8.cell? ⟨q + 1, 0, none⟩ = some (.slice none 0 0) := HK8.out.ze.cell (i := 0) (by omega)
  have y1 : W8.cell? ⟨q + 1, 1, none⟩ = some (.int .i64 0) := HK8.out.ze.cell (i := 1) (by omega)
  have zf := fun i => HK8.out.zr.frozen i
  have yf := fun i => HK8.out.ze.frozen i
  have hBq : q ≠ B + 1 ∧ q + 1 ≠ B + 1 ∧ B + 1 ≠ q ∧ B + 1 ≠ q + 1 := by have := HK8.out.lt; omega
  go_upto_region 13 with fail
  go_region
  all_goals
    go_wp2
    refine bodyPost_ret (v := .tuple #[sp (F : Int) ((F : Int) + K - 1), .agg #[.slice none 0 0, .int .i64 0]]) (by simp [results, Tryz.results50, go_sem, sp, z0, z1, y0, y1]) rfl ⟨_, rfl, rfl, ?_⟩
    rw [hq]
    repeat (first | refine Below.drew ?_ | refine Below.setCell ?_ (by first | exact Nat.le_refl _ | exact Nat.le_succ _) _)
    exact HK8.out.b
end Go.Proofs.YtehgeninocbpeaaGreatDoor.Tm
