import Derived.Test.YtehgeninocbpeaaGreatDoorEd
import Derived.Test.YtehgeninocbpeaaGreatDoorGC
import Derived.Test.YtehgeninocbpeaaGreatDoorXEi
import Derived.Deep.RegionWith
import Derived.Deep.RegionHeld3
import Derived.Deep.Cut
/-
  DERIVED. The law of ranges.
-/
namespace Go.Proofs.YtehgeninocbpeaaGreatDoor.Tm
open Go Go.Proofs Go.RowKit

theorem less_of {l r : List UInt8} (h : l < r) : Op.bytesLess l r = true := by
  induction l generalizing r with
  | nil => cases r with | nil => exact absurd h (by decide) | cons x r => rfl
  | cons x l ih =>
    cases r with
    | nil => exact absurd h (by simp)
    | cons y r =>
      rw [List.cons_lt_cons_iff] at h
      unfold Op.bytesLess
      rcases h with h | ⟨rfl, h⟩
      · simp [h]
      · simp [ih h]
theorem less_not {l r : List UInt8} (h : Op.bytesLess l r = true) : l < r := by
  induction l generalizing r with
  | nil => cases r with | nil => exact absurd h (by simp [Op.bytesLess]) | cons x r => simp
  | cons x l ih =>
    cases r with
    | nil => exact absurd h (by simp [Op.bytesLess])
    | cons y r =>
      rw [List.cons_lt_cons_iff]
      unfold Op.bytesLess at h
      simp at h
      rcases h with h | ⟨h1, h2⟩
      · exact .inl h
      · exact .inr ⟨h1, ih h2⟩
theorem less_code {y m d y' m' d' : Nat} (h : D3 y m d) (h' : D3 y' m' d') : Op.bytesLess (txt y m d).toList (txt y' m' d').toList = decide (code y m d < code y' m' d') := by
  rw [ByteArray.toList_eq, ByteArray.toList_eq, Bool.eq_iff_iff, decide_eq_true_eq, ← txt_lt_iff h h']
  exact ⟨less_not, less_of⟩
theorem same_code {y m d y' m' d' : Nat} (h : D3 y m d) (h' : D3 y' m' d') : ((txt y m d).toList == (txt y' m' d').toList) = decide (code y m d = code y' m' d') := by
  rw [ByteArray.toList_eq, ByteArray.toList_eq, Bool.eq_iff_iff, decide_eq_true_eq, beq_iff_eq, txt_code h, txt_code h']
  constructor
  · intro e
    have h1 := val_pd 8 _ (code_lt h)
    have h2 := val_pd 8 _ (code_lt h')
    rw [e] at h1
    omega
  · intro e; rw [e]

/-- Three numbers in a row. -/
structure I3 (W : World) (g o : Nat) (x y z : Int) : Prop where
  a : W.cell? ⟨g, o, none⟩ = some (.int .i64 x)
  b : W.cell? ⟨g, o + 1, none⟩ = some (.int .i64 y)
  c : W.cell? ⟨g, o + 2, none⟩ = some (.int .i64 z)
theorem I3.on {W W' : World} {g o : Nat} {x y z : Int} (h : I3 W g o x y z) (hb : Below W.heap.size W W') : I3 W' g o x y z :=
  ⟨(hb.cell (cell_lt h.a)).trans h.a, (hb.cell (cell_lt h.b)).trans h.b, (hb.cell (cell_lt h.c)).trans h.c⟩
theorem I3.drewN {W : World} {g o : Nat} {x y z : Int} (h : I3 W g o x y z) (n : Nat) : I3 (W.drewN n) g o x y z := ⟨h.a, h.b, h.c⟩
structure Wd (w W : World) : Prop where
  b : Below w.heap.size w W
  t : Mt W
  o : Ot W
  r : Rt W
theorem Wd.on {w W W' : World} (h : Wd w W) (hb : Below W.heap.size W W') : Wd w W' := ⟨h.b.trans (hb.mono h.b.size), h.t.on hb, h.o.on hb, h.r.on hb⟩
theorem Wd.drewN {w W : World} (h : Wd w W) (n : Nat) : Wd w (W.drewN n) := ⟨below_drewN h.b n, ⟨h.t.p⟩, ⟨h.o.p⟩, ⟨h.r.b, h.r.c⟩⟩

set_option maxRecDepth 100000 in
set_option maxHeartbeats 4000000 in
theorem range_three (w : World) (ga oa ca gb ob cb gc oc cc : Nat) (a0 a1 a2 b0 b1 b2 c0 c1 c2 : Int) (hA : I3 w ga oa a0 a1 a2) (hB : I3 w gb ob b0 b1 b2) (hC : I3 w gc oc c0 c1 c2) (hT : Mt w) (hO : Ot w) (hR : Rt w) :
    Calls Tryz.prog 4 #[.slice (some ⟨ga, oa, none⟩) 3 ca, .slice (some ⟨gb, ob, none⟩) 3 cb, .slice (some ⟨gc, oc, none⟩) 3 cc] w (BoolP w true) := by
  obtain ⟨y1, m1, d1, hx, cX⟩ := day11_any a0 a1 a2
  obtain ⟨y2, m2, d2, hy, cY⟩ := day11_any b0 b1 b2
  obtain ⟨y3, m3, d3, hv, cV⟩ := day11_any c0 c1 c2
  have HD : Hid (D3 y1 m1 d1 ∧ D3 y2 m2 d2 ∧ D3 y3 m3 d3) := ⟨hx, hy, hv⟩
  have zx := txt_size y1 m1 d1
  have zy := txt_size y2 m2 d2
  have zv := txt_size y3 m3 d3
  obtain ⟨X, hX⟩ : ∃ X, txt y1 m1 d1 = X := ⟨_, rfl⟩
  obtain ⟨Y, hY⟩ : ∃ Y, txt y2 m2 d2 = Y := ⟨_, rfl⟩
  obtain ⟨V, hV⟩ : ∃ V, txt y3 m3 d3 = V := ⟨_, rfl⟩
  have HX : Hid (txt y1 m1 d1 = X) := hX
  have HY : Hid (txt y2 m2 d2 = Y) := hY
  have HV : Hid (txt y3 m3 d3 = V) := hV
  rw [hX] at cX zx
  rw [hY] at cY zy
  rw [hV] at cV zv
  have HA : Hid (I3 w ga oa a0 a1 a2) := hA
  have HB : Hid (I3 w gb ob b0 b1 b2) := hB
  have HC : Hid (I3 w gc oc c0 c1 c2) := hC
  have HW : Hid (Wd w w) := ⟨Below.refl _ _, hT, hO, hR⟩
  clear hx hy hv hX hY hV hT hO hR
  go_enter Tryz.func4, Tryz.ntmps4
  go_upto_region 3 with fail
  go_cut [7] from 34 (fun s7 wx => s7 = .string X ∧ Hid (Wd w wx))
  case first =>
    have hB : I3 w.drew ga oa a0 a1 a2 := ⟨HA.out.a, HA.out.b, HA.out.c⟩
    have hW : Wd w w.drew := HW.out.drewN 1
    go_region_held3 (fun w' => w'.cell? ⟨ga, oa, none⟩ = some (.int .i64 a0) ∧ w'.cell? ⟨ga, oa + 1, none⟩ = some (.int .i64 a1) ∧ w'.cell? ⟨ga, oa + 2, none⟩ = some (.int .i64 a2)) (exact ⟨hB.a, hB.b, hB.c⟩) (first | (go_at_call 11; refine (cX _).mono ?_; rintro e W9 ⟨rfl, hb9⟩; replace hB := hB.on hb9; replace hW := hW.on hb9) | fail)
    all_goals
      go_wp2
      go_meet
      case rel => exact ⟨by simp, hW⟩
  case rest =>
  obtain ⟨rfl, HW1⟩ := hcut
  clear HW
  go_upto_region 4 with fail
  go_cut [8] from 34 (fun s8 wx => s8 = .string Y ∧ Hid (Wd w wx))
  case first =>
    have hB : I3 wc.drew gb ob b0 b1 b2 := (HB.out.on HW1.out.b).drewN 1
    have hW : Wd w wc.drew := HW1.out.drewN 1
    go_region_held3 (fun w' => w'.cell? ⟨gb, ob, none⟩ = some (.int .i64 b0) ∧ w'.cell? ⟨gb, ob + 1, none⟩ = some (.int .i64 b1) ∧ w'.cell? ⟨gb, ob + 2, none⟩ = some (.int .i64 b2)) (exact ⟨hB.a, hB.b, hB.c⟩) (first | (go_at_call 11; refine (cY _).mono ?_; rintro e W9 ⟨rfl, hb9⟩; replace hB := hB.on hb9; replace hW := hW.on hb9) | fail)
    all_goals
      go_wp2
      go_meet
      case rel => exact ⟨by simp, hW⟩
  case rest =>
  obtain ⟨rfl, HW2⟩ := hcut
  clear HW1
  go_upto_region 5 with fail
  go_cut [9] from 34 (fun s9 wx => s9 = .string V ∧ Hid (Wd w wx))
  case first =>
    have hB : I3 wc.drew gc oc c0 c1 c2 := (HC.out.on HW2.out.b).drewN 1
    have hW : Wd w wc.drew := HW2.out.drewN 1
    go_region_held3 (fun w' => w'.cell? ⟨gc, oc, none⟩ = some (.int .i64 c0) ∧ w'.cell? ⟨gc, oc + 1, none⟩ = some (.int .i64 c1) ∧ w'.cell? ⟨gc, oc + 2, none⟩ = some (.int .i64 c2)) (exact ⟨hB.a, hB.b, hB.c⟩) (first | (go_at_call 11; refine (cV _).mono ?_; rintro e W9 ⟨rfl, hb9⟩; replace hB := hB.on hb9; replace hW := hW.on hb9) | fail)
    all_goals
      go_wp2
      go_meet
      case rel => exact ⟨by simp, hW⟩
  case rest =>
  obtain ⟨rfl, HW3⟩ := hcut
  clear HW2 HA HB HC hA hB hC cX cY cV
  obtain ⟨P, Q, yp, mp, dp, yq, mq, dq, hpq⟩ : ∃ P Q yp mp dp yq mq dq, Hid (D3 yp mp dp ∧ D3 yq mq dq ∧ txt yp mp dp = P ∧ txt yq mq dq = Q ∧ num yp mp dp ≤ num yq mq dq ∧ ((code y2 m2 d2 < code y1 m1 d1 ∧ P = Y ∧ Q = X) ∨ (¬ code y2 m2 d2 < code y1 m1 d1 ∧ P = X ∧ Q = Y))) := by
    obtain ⟨hx, hy, hv⟩ := HD.out
    by_cases hc : code y2 m2 d2 < code y1 m1 d1
    · exact ⟨Y, X, y2, m2, d2, y1, m1, d1, hy, hx, HY.out, HX.out, Nat.le_of_lt (num_lt hy hx hc), .inl ⟨hc, rfl, rfl⟩⟩
    · exact ⟨X, Y, y1, m1, d1, y2, m2, d2, hx, hy, HX.out, HY.out, (num_le_iff hx hy).2 (by omega), .inr ⟨hc, rfl, rfl⟩⟩
  have zp : P.size = 8 := by rw [← hpq.out.2.2.1]; exact txt_size _ _ _
  have zq : Q.size = 8 := by rw [← hpq.out.2.2.2.1]; exact txt_size _ _ _
  go_upto_if 66 with fail
  go_cut [7, 8] from 10 (fun s7 s8 wx => s7 = .string P ∧ s8 = .string Q ∧ Hid (Wd w wx))
  case first =>
    rcases hpq.out.2.2.2.2.2 with ⟨hc, hP, hQ⟩ | ⟨hc, hP, hQ⟩
    · have hless : Op.bytesLess Y.toList X.toList = true := by rw [← HX.out, ← HY.out, less_code HD.out.2.1 HD.out.1, decide_eq_true hc]
      have hn : num y2 m2 d2 < num y1 m1 d1 := num_lt HD.out.2.1 HD.out.1 hc
      have e0 := mt0 HD.out.1 HD.out.2.1 hn
      rw [HX.out, HY.out] at e0
      have hk : (X ++ ⟨#[45]⟩ ++ Y).size = 17 := by rw [ByteArray.size_append, ByteArray.size_append, zx, zy]; rfl
      have c := fun W (h : Wd w W) => match_sp W 5 (.inl rfl) (X ++ ⟨#[45]⟩ ++ Y) V (by omega) (by omega) (by omega) h.t h.o h.r
      rw [e0] at c
      generalize mtS 5 (X ++ ⟨#[45]⟩ ++ Y) V = M at *
      have HP : Hid (P = Y ∧ Q = X) := ⟨hP, hQ⟩
      have cc := c _ HW3.out
      clear e0 hn hc hP hQ HD HX HY HV hpq c
      rw [hless]
      go_wp2_with (go_at_call 6; refine Stop.mk ?_)
      refine Stop.out (cc.mono ?_)
      rintro e W4 ⟨v4, rfl, hv4, hb4⟩
      have HW4 : Hid (Wd w W4) := HW3.out.on hb4
      have HE : Hid (Fa.PErr W4 v4 (some (9, 101))) := hv4
      clear hb4 cc hv4 HW3
      have c13 := Fa.new0_any 101 9 W4
      go_wp2_with (go_at_call 13; refine Stop.mk ?_)
      refine Stop.out (c13.mono ?_)
      rintro e W5 ⟨rfl, hb5, n0, n1, _⟩
      have HW5 : Hid (Wd w W5) := HW4.out.on hb5
      have c12 := Fa.is_yes (HE.out.next hb5) (show Fa.RErr W5 (.agg #[.slice (some ⟨W4.heap.size + 1, 0, none⟩) 1 1, .int .i64 101]) (some (9, 101)) from ⟨_, _, rfl, n0, n1⟩) (fun a c h => by cases h; rfl)
      clear hb5 n0 n1 c13 HE HW4
      go_wp2_with (go_at_call 12; refine Stop.mk ?_)
      refine Stop.out (c12.mono ?_)
      rintro e W6 ⟨rfl, hb6⟩
      have HW6 : Hid (Wd w W6) := HW5.out.on hb6
      clear hb6 c12 HW5
      go_wp2
      go_meet
      case rel => exact ⟨by simp [HP.out.1], by simp [HP.out.2], HW6⟩
    · have hless : Op.bytesLess Y.toList X.toList = false := by rw [← HX.out, ← HY.out, less_code HD.out.2.1 HD.out.1, decide_eq_false hc]
      have HP : Hid (P = X ∧ Q = Y) := ⟨hP, hQ⟩
      clear hc hP hQ HD HX HY HV hpq
      rw [hless]
      go_wp2
      go_meet
      case rel => exact ⟨by simp [HP.out.1], by simp [HP.out.2], HW3⟩
  case rest =>
  obtain ⟨rfl, rfl, HW4⟩ := hcut
  obtain ⟨hp, hq, eP, eQ, hle, _⟩ := hpq.out
  obtain ⟨_, _, hv⟩ := HD.out
  have m1' := mt1 hp hq hv hle
  have m2' := mt2 hp hv
  have m3' := mt3 hq hv
  have m4' := mt4 hv
  have l1 := less_code hp hv
  have s1 := same_code hp hv
  have l2 := less_code hv hq
  have s2 := same_code hv hq
  rw [eP, eQ, HV.out] at m1'
  rw [eP, HV.out] at m2' l1 s1
  rw [eQ, HV.out] at m3' l2 s2
  rw [HV.out] at m4'
  rw [show decide (num yp mp dp ≤ num y3 m3 d3) = decide (code yp mp dp ≤ code y3 m3 d3) from decide_eq_decide.2 (num_le_iff hp hv)] at m1' m2'
  rw [show decide (num y3 m3 d3 ≤ num yq mq dq) = decide (code y3 m3 d3 ≤ code yq mq dq) from decide_eq_decide.2 (num_le_iff hv hq)] at m1' m3'
  have r1 : decide (code yp mp dp ≤ code y3 m3 d3) = (decide (code yp mp dp < code y3 m3 d3) || decide (code yp mp dp = code y3 m3 d3)) := by
    rw [Bool.eq_iff_iff]; simp; omega
  have r2 : decide (code y3 m3 d3 ≤ code yq mq dq) = (decide (code y3 m3 d3 < code yq mq dq) || decide (code y3 m3 d3 = code yq mq dq)) := by
    rw [Bool.eq_iff_iff]; simp; omega
  rw [r1] at m1' m2'
  rw [r2] at m1' m3'
  generalize decide (code yp mp dp < code y3 m3 d3) = A1 at *
  generalize decide (code yp mp dp = code y3 m3 d3) = A2 at *
  generalize decide (code y3 m3 d3 < code yq mq dq) = A3 at *
  generalize decide (code y3 m3 d3 = code yq mq dq) = A4 at *
  have k1 : (P ++ ⟨#[45]⟩ ++ Q).size = 17 := by rw [ByteArray.size_append, ByteArray.size_append, zp, zq]; rfl
  have k2 : (P ++ ⟨#[45]⟩).size = 9 := by rw [ByteArray.size_append, zp]; rfl
  have k3 : (⟨#[45]⟩ ++ Q : ByteArray).size = 9 := by rw [ByteArray.size_append, zq]; rfl
  have cm := fun (K : ByteArray) (hK : K.size ≤ 17) (hK0 : K.size ≠ 0) W (h : Wd w W) => match_sp W 5 (.inl rfl) K V (by omega) hK0 (by omega) h.t h.o h.r
  have c1 := cm (P ++ ⟨#[45]⟩ ++ Q) (by omega) (by omega)
  have c2 := cm (P ++ ⟨#[45]⟩) (by omega) (by omega)
  have c3 := cm (⟨#[45]⟩ ++ Q) (by omega) (by omega)
  have c4 := cm V (by omega) (by omega)
  rw [m1'.1, m1'.2] at c1
  rw [m2'.1, m2'.2] at c2
  rw [m3'.1, m3'.2] at c3
  rw [m4'.1, m4'.2] at c4
  have C1 : Hid _ := c1
  have C2 : Hid _ := c2
  have C3 : Hid _ := c3
  have C4 : Hid _ := c4
  clear m1' m2' m3' m4' r1 r2 c1 c2 c3 c4 cm k1 k2 k3 hp hq eP eQ hle hv HD HX HY HV hpq HW3
  go_wp2_with (go_at_call 6; refine Stop.mk ?_)
  refine Stop.out ((C1.out _ HW4.out).mono ?_)
  rintro e W5 ⟨v5, rfl, hv5, hb⟩
  obtain rfl : v5 = .nilIface := hv5
  have HW5 : Hid (Wd w W5) := HW4.out.on hb
  clear hb C1 HW4
  go_wp2_with (go_at_call 6; refine Stop.mk ?_)
  refine Stop.out ((C2.out _ HW5.out).mono ?_)
  rintro e W6 ⟨v6, rfl, hv6, hb⟩
  obtain rfl : v6 = .nilIface := hv6
  have HW6 : Hid (Wd w W6) := HW5.out.on hb
  clear hb C2 HW5
  go_wp2_with (go_at_call 6; refine Stop.mk ?_)
  refine Stop.out ((C3.out _ HW6.out).mono ?_)
  rintro e W7 ⟨v7, rfl, hv7, hb⟩
  obtain rfl : v7 = .nilIface := hv7
  have HW7 : Hid (Wd w W7) := HW6.out.on hb
  clear hb C3 HW6
  go_wp2_with (go_at_call 6; refine Stop.mk ?_)
  refine Stop.out ((C4.out _ HW7.out).mono ?_)
  rintro e W8 ⟨v8, rfl, hv8, hb⟩
  obtain rfl : v8 = .nilIface := hv8
  have HW8 : Hid (Below w.heap.size w W8) := (HW7.out.on hb).b
  clear hb C4 HW7
  cases A1 <;> cases A2 <;> cases A3 <;> cases A4 <;> (go_wp2; go_ret; exact ⟨by simp, HW8.out⟩)
end Go.Proofs.YtehgeninocbpeaaGreatDoor.Tm
