import Derived.Test.YtggdlagopgpnhaaDoorVk
import Derived.Deep.RegionHeld3
/-
  DERIVED. PrintMoment, by the document.
-/
namespace Go.Proofs.YtggdlagopgpnhaaDoor
open Go Go.Proofs Go.RowKit

theorem MN.c10 {w W : World} {q : Nat} {y m d dp h mi sc mc p z : Int} {zd : Bool} (hM : MN w W 50 11 (mf y m d dp h mi sc mc p zd z)) (hq : w.heap.size = q) : W.cell? ⟨q, 10, none⟩ = some (.int .i64 z) := by
  have hr := hM.r
  rw [hq] at hr
  exact hr.cell (i := 10) (by omega)
theorem dX_list (y m d dp : Nat) : (dX y m d dp).data.toList = (pd y 4 ++ pd m 2 ++ pd d 2).take (2 + 2 * dp) := by
  unfold dX txt
  rw [ByteArray.data_extract, ByteArray.data_append, ByteArray.data_append]
  simp [pdB]
  simp [List.take_append, Nat.sub_sub]
theorem dX_1 (y m d : Nat) : dX y m d 1 = pdB y 4 := ba_ext (by
  rw [dX_list]
  show _ = (pd y 4).toArray.toList
  rw [List.append_assoc, List.take_append_of_le_length (by rw [pd_len]; omega), List.take_of_length_le (by rw [pd_len]; omega)])
theorem dX_2 (y m d : Nat) : dX y m d 2 = pdB y 4 ++ pdB m 2 := ba_ext (by
  rw [dX_list, ByteArray.data_append]
  rw [List.take_append_of_le_length (by rw [List.length_append, pd_len, pd_len]; omega), List.take_of_length_le (by rw [List.length_append, pd_len, pd_len]; omega)]
  simp [pdB])
theorem dX_3 (y m d : Nat) : dX y m d 3 = pdB y 4 ++ pdB m 2 ++ pdB d 2 := ba_ext (by
  rw [dX_list, ByteArray.data_append, ByteArray.data_append]
  rw [List.take_of_length_le (by rw [List.length_append, List.length_append, pd_len, pd_len, pd_len]; omega)]
  simp [pdB])

set_option maxRecDepth 100000 in
set_option maxHeartbeats 2000000 in
theorem prt23_1zf (w : World) (yn mn dn : Nat) (z : Int) (a1 : yn ≤ 9999) (c51 : ∀ W, Calls Tryd.prog 51 #[mv yn mn dn 1 0 0 0 0 0 false z] W fun e w' => e = .returned (.int .i64 (-1)) ∧ Below W.heap.size W w') (S : ByteArray) (hS : (pdB yn 4) = S) : Calls Tryd.prog 23 #[mv yn mn dn 1 0 0 0 0 0 false z] w (PostF w (.string (S)) none) := by
  obtain ⟨q, hq⟩ : ∃ q, w.heap.size = q := ⟨_, rfl⟩
  obtain ⟨W1, hW1⟩ : ∃ W1, w.alloc (.cells #[.int .i64 (yn : Int), .int .i64 (mn : Int), .int .i64 (dn : Int), .int .i64 1, .int .i64 0, .int .i64 0, .int .i64 0, .int .i64 0, .int .i64 0, .bool false, .int .i64 z] 50) = W1 := ⟨_, rfl⟩
  obtain ⟨W, hW⟩ : ∃ W, W1.alloc (.cells #[.slice none 0 0, .int .i64 0] 37) = W := ⟨_, rfl⟩
  have hs1 : W1.heap.size = q + 1 := by rw [← hW1, ← hq]; simp
  have HM : Hid (MN w W 50 11 (mf yn mn dn 1 0 0 0 0 0 false z)) := by
    show MN _ _ _ _ _
    rw [← hW, ← hW1]
    exact MN.start w _ 50
  have hR := HM.out.r
  rw [hq] at hR
  have q0 : W.cell? ⟨q, 0, none⟩ = some (.int .i64 (yn : Int)) := hR.cell (i := 0) (by omega)
  have q1 : W.cell? ⟨q, 1, none⟩ = some (.int .i64 (mn : Int)) := hR.cell (i := 1) (by omega)
  have q2 : W.cell? ⟨q, 2, none⟩ = some (.int .i64 (dn : Int)) := hR.cell (i := 2) (by omega)
  have q3 : W.cell? ⟨q, 3, none⟩ = some (.int .i64 1) := hR.cell (i := 3) (by omega)
  have q4 : W.cell? ⟨q, 4, none⟩ = some (.int .i64 0) := hR.cell (i := 4) (by omega)
  have q5 : W.cell? ⟨q, 5, none⟩ = some (.int .i64 0) := hR.cell (i := 5) (by omega)
  have q6 : W.cell? ⟨q, 6, none⟩ = some (.int .i64 0) := hR.cell (i := 6) (by omega)
  have q7 : W.cell? ⟨q, 7, none⟩ = some (.int .i64 0) := hR.cell (i := 7) (by omega)
  have q8 : W.cell? ⟨q, 8, none⟩ = some (.int .i64 0) := hR.cell (i := 8) (by omega)
  have q9 : W.cell? ⟨q, 9, none⟩ = some (.bool false) := hR.cell (i := 9) (by omega)
  have q10 : W.cell? ⟨q, 10, none⟩ = some (.int .i64 z) := hR.cell (i := 10) (by omega)
  clear hR
  have c36 : ∀ (W : World) (n k : Nat), n ≤ 999999 → k ≤ 6 → Calls Tryd.prog 36 #[.int .i64 (n : Int), .int .i64 (k : Int)] W fun e w' => e = .returned (.string (pdB n k)) ∧ Below W.heap.size W w' := fun W n k hn hk => pad6_any W n k hn hk
  have c34 := fun W' => none34_any W'
  have zy : (pdB yn 4).size = 4 := pdB_size _ _
  have zm : (pdB mn 2).size = 2 := pdB_size _ _
  have zdd : (pdB dn 2).size = 2 := pdB_size _ _
  have zym : (pdB yn 4 ++ pdB mn 2).size = 6 := by rw [ByteArray.size_append, zy, zm]
  have zymd : (pdB yn 4 ++ pdB mn 2 ++ pdB dn 2).size = 8 := by rw [ByteArray.size_append, zym, zdd]
  have hSs : S.size ≤ 21 := by rw [← hS, zy]; omega
  unfold mv at *
  have HS : Hid _ := hS
  go_enter Tryd.func23, Tryd.ntmps23
  go_wp2_with (go_at_call 51; refine Stop.mk ?_)
  refine Stop.out ((c51 _).mono ?_)
  rintro e W2 ⟨rfl, hb2⟩
  have HM2 : Hid _ := HM.out.on hb2
  clear hb2 c51 HM q0 q1 q2 q3 q4 q5 q6 q7 q8 q9 q10
  have hR := HM2.out.r
  rw [hq] at hR
  have q0 : W2.cell? ⟨q, 0, none⟩ = some (.int .i64 (yn : Int)) := hR.cell (i := 0) (by omega)
  have q1 : W2.cell? ⟨q, 1, none⟩ = some (.int .i64 (mn : Int)) := hR.cell (i := 1) (by omega)
  have q2 : W2.cell? ⟨q, 2, none⟩ = some (.int .i64 (dn : Int)) := hR.cell (i := 2) (by omega)
  have q3 : W2.cell? ⟨q, 3, none⟩ = some (.int .i64 1) := hR.cell (i := 3) (by omega)
  have q4 : W2.cell? ⟨q, 4, none⟩ = some (.int .i64 0) := hR.cell (i := 4) (by omega)
  have q5 : W2.cell? ⟨q, 5, none⟩ = some (.int .i64 0) := hR.cell (i := 5) (by omega)
  have q6 : W2.cell? ⟨q, 6, none⟩ = some (.int .i64 0) := hR.cell (i := 6) (by omega)
  have q7 : W2.cell? ⟨q, 7, none⟩ = some (.int .i64 0) := hR.cell (i := 7) (by omega)
  have q8 : W2.cell? ⟨q, 8, none⟩ = some (.int .i64 0) := hR.cell (i := 8) (by omega)
  have q9 : W2.cell? ⟨q, 9, none⟩ = some (.bool false) := hR.cell (i := 9) (by omega)
  have q10 : W2.cell? ⟨q, 10, none⟩ = some (.int .i64 z) := hR.cell (i := 10) (by omega)
  clear hR
  go_wp2_with (go_at_call 36; refine Stop.mk ?_)
  refine Stop.out ((c36 _ yn 4 (by omega) (by omega)).mono ?_)
  rintro e W3 ⟨rfl, hb⟩
  have HM3 : Hid _ := HM2.out.on hb
  clear hb HM2 q0 q1 q2 q3 q4 q5 q6 q7 q8 q9 q10
  have hR := HM3.out.r
  rw [hq] at hR
  have q0 : W3.cell? ⟨q, 0, none⟩ = some (.int .i64 (yn : Int)) := hR.cell (i := 0) (by omega)
  have q1 : W3.cell? ⟨q, 1, none⟩ = some (.int .i64 (mn : Int)) := hR.cell (i := 1) (by omega)
  have q2 : W3.cell? ⟨q, 2, none⟩ = some (.int .i64 (dn : Int)) := hR.cell (i := 2) (by omega)
  have q3 : W3.cell? ⟨q, 3, none⟩ = some (.int .i64 1) := hR.cell (i := 3) (by omega)
  have q4 : W3.cell? ⟨q, 4, none⟩ = some (.int .i64 0) := hR.cell (i := 4) (by omega)
  have q5 : W3.cell? ⟨q, 5, none⟩ = some (.int .i64 0) := hR.cell (i := 5) (by omega)
  have q6 : W3.cell? ⟨q, 6, none⟩ = some (.int .i64 0) := hR.cell (i := 6) (by omega)
  have q7 : W3.cell? ⟨q, 7, none⟩ = some (.int .i64 0) := hR.cell (i := 7) (by omega)
  have q8 : W3.cell? ⟨q, 8, none⟩ = some (.int .i64 0) := hR.cell (i := 8) (by omega)
  have q9 : W3.cell? ⟨q, 9, none⟩ = some (.bool false) := hR.cell (i := 9) (by omega)
  have q10 : W3.cell? ⟨q, 10, none⟩ = some (.int .i64 z) := hR.cell (i := 10) (by omega)
  clear hR
  go_wp2_with (go_at_call 34; refine Stop.mk ?_)
  refine Stop.out ((c34 _).mono ?_)
  rintro e W9 ⟨rfl, hb⟩
  have HM9 : Hid _ := HM3.out.on hb
  clear hb
  have hM9 := HM9.out
  have hE9 := hM9.e
  have hB9 := hM9.b
  rw [hq] at hE9 hB9
  have s0 : W9.cell? ⟨q + 1, 0, none⟩ = some (.slice none 0 0) := hE9.cell (i := 0) (by omega)
  have s1 : W9.cell? ⟨q + 1, 1, none⟩ = some (.int .i64 0) := hE9.cell (i := 1) (by omega)
  have sf := fun i => hE9.frozen i
  have HB9 : Hid _ := hB9
  clear hM9 hE9 hB9
  go_wp2
  refine bodyPost_ret (v := .tuple #[.string (S), .agg #[.slice none 0 0, .int .i64 0]]) (by simp [results, Tryd.results23, go_sem, s0, s1]) rfl ⟨_, rfl, rfl, ?_⟩
  rw [hq]
  exact (HB9.out.setCell (p := ⟨q + 1, 0, none⟩) (Nat.le_succ _) _).setCell (p := ⟨q + 1, 1, none⟩) (Nat.le_succ _) _

set_option maxRecDepth 100000 in
set_option maxHeartbeats 2000000 in
theorem prt23_1zn (w : World) (yn mn dn : Nat) (z : Int) (a1 : yn ≤ 9999) (hz : z < 0) (hz2 : -720 ≤ z) (A B : Nat) (hA : - z / 60 = (A : Int)) (hB0 : - z % 60 = (B : Int)) (c51 : ∀ W, Calls Tryd.prog 51 #[mv yn mn dn 1 0 0 0 0 0 true z] W fun e w' => e = .returned (.int .i64 (-1)) ∧ Below W.heap.size W w') (S : ByteArray) (hS : (pdB yn 4) = S) : Calls Tryd.prog 23 #[mv yn mn dn 1 0 0 0 0 0 true z] w (PostF w (.string (S ++ ⟨#[45]⟩ ++ pdB A 2 ++ pdB B 2)) none) := by
  obtain ⟨q, hq⟩ : ∃ q, w.heap.size = q := ⟨_, rfl⟩
  obtain ⟨W1, hW1⟩ : ∃ W1, w.alloc (.cells #[.int .i64 (yn : Int), .int .i64 (mn : Int), .int .i64 (dn : Int), .int .i64 1, .int .i64 0, .int .i64 0, .int .i64 0, .int .i64 0, .int .i64 0, .bool true, .int .i64 z] 50) = W1 := ⟨_, rfl⟩
  obtain ⟨W, hW⟩ : ∃ W, W1.alloc (.cells #[.slice none 0 0, .int .i64 0] 37) = W := ⟨_, rfl⟩
  have hs1 : W1.heap.size = q + 1 := by rw [← hW1, ← hq]; simp
  have HM : Hid (MN w W 50 11 (mf yn mn dn 1 0 0 0 0 0 true z)) := by
    show MN _ _ _ _ _
    rw [← hW, ← hW1]
    exact MN.start w _ 50
  have hR := HM.out.r
  rw [hq] at hR
  have q0 : W.cell? ⟨q, 0, none⟩ = some (.int .i64 (yn : Int)) := hR.cell (i := 0) (by omega)
  have q1 : W.cell? ⟨q, 1, none⟩ = some (.int .i64 (mn : Int)) := hR.cell (i := 1) (by omega)
  have q2 : W.cell? ⟨q, 2, none⟩ = some (.int .i64 (dn : Int)) := hR.cell (i := 2) (by omega)
  have q3 : W.cell? ⟨q, 3, none⟩ = some (.int .i64 1) := hR.cell (i := 3) (by omega)
  have q4 : W.cell? ⟨q, 4, none⟩ = some (.int .i64 0) := hR.cell (i := 4) (by omega)
  have q5 : W.cell? ⟨q, 5, none⟩ = some (.int .i64 0) := hR.cell (i := 5) (by omega)
  have q6 : W.cell? ⟨q, 6, none⟩ = some (.int .i64 0) := hR.cell (i := 6) (by omega)
  have q7 : W.cell? ⟨q, 7, none⟩ = some (.int .i64 0) := hR.cell (i := 7) (by omega)
  have q8 : W.cell? ⟨q, 8, none⟩ = some (.int .i64 0) := hR.cell (i := 8) (by omega)
  have q9 : W.cell? ⟨q, 9, none⟩ = some (.bool true) := hR.cell (i := 9) (by omega)
  have q10 : W.cell? ⟨q, 10, none⟩ = some (.int .i64 z) := hR.cell (i := 10) (by omega)
  clear hR
  have c36 : ∀ (W : World) (n k : Nat), n ≤ 999999 → k ≤ 6 → Calls Tryd.prog 36 #[.int .i64 (n : Int), .int .i64 (k : Int)] W fun e w' => e = .returned (.string (pdB n k)) ∧ Below W.heap.size W w' := fun W n k hn hk => pad6_any W n k hn hk
  have c34 := fun W' => none34_any W'
  have zy : (pdB yn 4).size = 4 := pdB_size _ _
  have zm : (pdB mn 2).size = 2 := pdB_size _ _
  have zdd : (pdB dn 2).size = 2 := pdB_size _ _
  have zym : (pdB yn 4 ++ pdB mn 2).size = 6 := by rw [ByteArray.size_append, zy, zm]
  have zymd : (pdB yn 4 ++ pdB mn 2 ++ pdB dn 2).size = 8 := by rw [ByteArray.size_append, zym, zdd]
  have hSs : S.size ≤ 21 := by rw [← hS, zy]; omega
  have hA9 : A ≤ 99 := by omega
  have hB9 : B ≤ 99 := by omega
  have zA : (pdB A 2).size = 2 := pdB_size _ _
  have zB : (pdB B 2).size = 2 := pdB_size _ _
  obtain ⟨ns, hns⟩ : ∃ ns, S.size = ns := ⟨_, rfl⟩
  have y1 : (S ++ (⟨#[45]⟩ : ByteArray)).size = ns + 1 := by rw [ByteArray.size_append, hns]; rfl
  have y2 : (S ++ (⟨#[45]⟩ : ByteArray) ++ pdB A 2).size = ns + 3 := by rw [ByteArray.size_append, y1, zA]
  rw [hns] at hSs
  have w1 : ¬ (9223372036854775807 < ns + 1) := by omega
  have w2 : ¬ (9223372036854775807 < ns + 1 + 2) := by omega
  have w3 : ¬ (9223372036854775807 < ns + 3 + 2) := by omega
  have w1' : ns + 1 ≤ 9223372036854775807 := by omega
  have w2' : ns + 1 + 2 ≤ 9223372036854775807 := by omega
  have w3' : ns + 3 + 2 ≤ 9223372036854775807 := by omega
  have hzI : decide (z < 0) = true := by simp; omega
  have hFA : Fit6 (A : Int) 2 := ⟨A, 2, rfl, rfl, by omega, by omega, by omega, by omega⟩
  have hFB : Fit6 (B : Int) 2 := ⟨B, 2, rfl, rfl, by omega, by omega, by omega, by omega⟩
  have c36z : ∀ (W : World) (nI kI : Int), Fit6 nI kI → Calls Tryd.prog 36 #[.int .i64 nI, .int .i64 kI] W fun e w' => e = .returned (.string (pdB nI.toNat kI.toNat)) ∧ Below W.heap.size W w' := by
    rintro W nI kI ⟨n, k, rfl, rfl, _, _, hk, hn⟩
    exact pad6_any W n k hn hk
  obtain ⟨zn, hzn⟩ : ∃ zn : Int, - z = zn := ⟨_, rfl⟩
  have hz0 : 0 ≤ zn := by omega
  have hz9 : zn ≤ 720 := by omega
  have fz : IntKind.i64.wrap zn = zn := by rw [IntKind.wrap_i64]; omega
  rw [hzn] at hA hB0
  have f3 : Int.tdiv zn 60 = (A : Int) := by rw [Int.tdiv_eq_ediv_of_nonneg (by omega)]; exact hA
  have f2 : Int.tmod zn 60 = (B : Int) := by rw [Int.tmod_eq_emod_of_nonneg (by omega)]; exact hB0
  have fA : IntKind.i64.wrap (A : Int) = (A : Int) := by rw [IntKind.wrap_i64]; omega
  have fB : IntKind.i64.wrap (B : Int) = (B : Int) := by rw [IntKind.wrap_i64]; omega
  have hqq : q + 1 ≠ q := by omega
  unfold mv at *
  have HS : Hid _ := hS
  go_enter Tryd.func23, Tryd.ntmps23
  go_wp2_with (go_at_call 51; refine Stop.mk ?_)
  refine Stop.out ((c51 _).mono ?_)
  rintro e W2 ⟨rfl, hb2⟩
  have HM2 : Hid _ := HM.out.on hb2
  clear hb2 c51 HM q0 q1 q2 q3 q4 q5 q6 q7 q8 q9 q10
  have hR := HM2.out.r
  rw [hq] at hR
  have q0 : W2.cell? ⟨q, 0, none⟩ = some (.int .i64 (yn : Int)) := hR.cell (i := 0) (by omega)
  have q1 : W2.cell? ⟨q, 1, none⟩ = some (.int .i64 (mn : Int)) := hR.cell (i := 1) (by omega)
  have q2 : W2.cell? ⟨q, 2, none⟩ = some (.int .i64 (dn : Int)) := hR.cell (i := 2) (by omega)
  have q3 : W2.cell? ⟨q, 3, none⟩ = some (.int .i64 1) := hR.cell (i := 3) (by omega)
  have q4 : W2.cell? ⟨q, 4, none⟩ = some (.int .i64 0) := hR.cell (i := 4) (by omega)
  have q5 : W2.cell? ⟨q, 5, none⟩ = some (.int .i64 0) := hR.cell (i := 5) (by omega)
  have q6 : W2.cell? ⟨q, 6, none⟩ = some (.int .i64 0) := hR.cell (i := 6) (by omega)
  have q7 : W2.cell? ⟨q, 7, none⟩ = some (.int .i64 0) := hR.cell (i := 7) (by omega)
  have q8 : W2.cell? ⟨q, 8, none⟩ = some (.int .i64 0) := hR.cell (i := 8) (by omega)
  have q9 : W2.cell? ⟨q, 9, none⟩ = some (.bool true) := hR.cell (i := 9) (by omega)
  have q10 : W2.cell? ⟨q, 10, none⟩ = some (.int .i64 z) := hR.cell (i := 10) (by omega)
  clear hR
  go_wp2_with (go_at_call 36; refine Stop.mk ?_)
  refine Stop.out ((c36 _ yn 4 (by omega) (by omega)).mono ?_)
  rintro e W3 ⟨rfl, hb⟩
  have HM3 : Hid _ := HM2.out.on hb
  clear hb HM2 q0 q1 q2 q3 q4 q5 q6 q7 q8 q9 q10
  have hR := HM3.out.r
  rw [hq] at hR
  have q0 : W3.cell? ⟨q, 0, none⟩ = some (.int .i64 (yn : Int)) := hR.cell (i := 0) (by omega)
  have q1 : W3.cell? ⟨q, 1, none⟩ = some (.int .i64 (mn : Int)) := hR.cell (i := 1) (by omega)
  have q2 : W3.cell? ⟨q, 2, none⟩ = some (.int .i64 (dn : Int)) := hR.cell (i := 2) (by omega)
  have q3 : W3.cell? ⟨q, 3, none⟩ = some (.int .i64 1) := hR.cell (i := 3) (by omega)
  have q4 : W3.cell? ⟨q, 4, none⟩ = some (.int .i64 0) := hR.cell (i := 4) (by omega)
  have q5 : W3.cell? ⟨q, 5, none⟩ = some (.int .i64 0) := hR.cell (i := 5) (by omega)
  have q6 : W3.cell? ⟨q, 6, none⟩ = some (.int .i64 0) := hR.cell (i := 6) (by omega)
  have q7 : W3.cell? ⟨q, 7, none⟩ = some (.int .i64 0) := hR.cell (i := 7) (by omega)
  have q8 : W3.cell? ⟨q, 8, none⟩ = some (.int .i64 0) := hR.cell (i := 8) (by omega)
  have q9 : W3.cell? ⟨q, 9, none⟩ = some (.bool true) := hR.cell (i := 9) (by omega)
  have q10 : W3.cell? ⟨q, 10, none⟩ = some (.int .i64 z) := hR.cell (i := 10) (by omega)
  clear hR
  have hM := HM3.out
  have hB : MN w W3.drew 50 11 (mf yn mn dn 1 0 0 0 0 0 true z) := ⟨hM.r, hM.e, hM.b.drew⟩
  go_wp2
  go_region_held3 (fun w' => w'.cell? ⟨q, 10, none⟩ = some (.int .i64 z)) (first | exact hB.c10 hq | exact (cell_set_off hqq).trans (hB.c10 hq) | exact (cell_set_off hqq).trans ((cell_set_off hqq).trans (hB.c10 hq))) (first | (go_at_call 36; refine (c36z _ _ _ ?_).mono ?_; (focus (first | exact hFA | exact hFB)); rintro e W6 ⟨rfl, hb6⟩; replace hB := hB.on hb6) | (go_at_call 34; refine (c34 _).mono ?_; rintro e W6 ⟨rfl, hb6⟩; replace hB := hB.on hb6; have hE6 := hB.e; rw [hq] at hE6; have s0 : W6.cell? ⟨q + 1, 0, none⟩ = some (.slice none 0 0) := hE6.cell (i := 0) (by omega); have s1 : W6.cell? ⟨q + 1, 1, none⟩ = some (.int .i64 0) := hE6.cell (i := 1) (by omega); have sf := fun i => hE6.frozen i; clear hE6))
  all_goals
    have hB10 := hB.b
    rw [hq] at hB10
    go_wp2
    refine bodyPost_ret (v := .tuple #[.string (S ++ ⟨#[45]⟩ ++ pdB A 2 ++ pdB B 2), .agg #[.slice none 0 0, .int .i64 0]]) (by simp [results, Tryd.results23, go_sem, s0, s1]) rfl ⟨_, rfl, rfl, ?_⟩
    rw [hq]
    exact (hB10.setCell (p := ⟨q + 1, 0, none⟩) (Nat.le_succ _) _).setCell (p := ⟨q + 1, 1, none⟩) (Nat.le_succ _) _

set_option maxRecDepth 100000 in
set_option maxHeartbeats 2000000 in
theorem prt23_1zp (w : World) (yn mn dn : Nat) (z : Int) (a1 : yn ≤ 9999) (hz : 0 ≤ z) (hz2 : z ≤ 840) (A B : Nat) (hA : z / 60 = (A : Int)) (hB0 : z % 60 = (B : Int)) (c51 : ∀ W, Calls Tryd.prog 51 #[mv yn mn dn 1 0 0 0 0 0 true z] W fun e w' => e = .returned (.int .i64 (-1)) ∧ Below W.heap.size W w') (S : ByteArray) (hS : (pdB yn 4) = S) : Calls Tryd.prog 23 #[mv yn mn dn 1 0 0 0 0 0 true z] w (PostF w (.string (S ++ ⟨#[43]⟩ ++ pdB A 2 ++ pdB B 2)) none) := by
  obtain ⟨q, hq⟩ : ∃ q, w.heap.size = q := ⟨_, rfl⟩
  obtain ⟨W1, hW1⟩ : ∃ W1, w.alloc (.cells #[.int .i64 (yn : Int), .int .i64 (mn : Int), .int .i64 (dn : Int), .int .i64 1, .int .i64 0, .int .i64 0, .int .i64 0, .int .i64 0, .int .i64 0, .bool true, .int .i64 z] 50) = W1 := ⟨_, rfl⟩
  obtain ⟨W, hW⟩ : ∃ W, W1.alloc (.cells #[.slice none 0 0, .int .i64 0] 37) = W := ⟨_, rfl⟩
  have hs1 : W1.heap.size = q + 1 := by rw [← hW1, ← hq]; simp
  have HM : Hid (MN w W 50 11 (mf yn mn dn 1 0 0 0 0 0 true z)) := by
    show MN _ _ _ _ _
    rw [← hW, ← hW1]
    exact MN.start w _ 50
  have hR := HM.out.r
  rw [hq] at hR
  have q0 : W.cell? ⟨q, 0, none⟩ = some (.int .i64 (yn : Int)) := hR.cell (i := 0) (by omega)
  have q1 : W.cell? ⟨q, 1, none⟩ = some (.int .i64 (mn : Int)) := hR.cell (i := 1) (by omega)
  have q2 : W.cell? ⟨q, 2, none⟩ = some (.int .i64 (dn : Int)) := hR.cell (i := 2) (by omega)
  have q3 : W.cell? ⟨q, 3, none⟩ = some (.int .i64 1) := hR.cell (i := 3) (by omega)
  have q4 : W.cell? ⟨q, 4, none⟩ = some (.int .i64 0) := hR.cell (i := 4) (by omega)
  have q5 : W.cell? ⟨q, 5, none⟩ = some (.int .i64 0) := hR.cell (i := 5) (by omega)
  have q6 : W.cell? ⟨q, 6, none⟩ = some (.int .i64 0) := hR.cell (i := 6) (by omega)
  have q7 : W.cell? ⟨q, 7, none⟩ = some (.int .i64 0) := hR.cell (i := 7) (by omega)
  have q8 : W.cell? ⟨q, 8, none⟩ = some (.int .i64 0) := hR.cell (i := 8) (by omega)
  have q9 : W.cell? ⟨q, 9, none⟩ = some (.bool true) := hR.cell (i := 9) (by omega)
  have q10 : W.cell? ⟨q, 10, none⟩ = some (.int .i64 z) := hR.cell (i := 10) (by omega)
  clear hR
  have c36 : ∀ (W : World) (n k : Nat), n ≤ 999999 → k ≤ 6 → Calls Tryd.prog 36 #[.int .i64 (n : Int), .int .i64 (k : Int)] W fun e w' => e = .returned (.string (pdB n k)) ∧ Below W.heap.size W w' := fun W n k hn hk => pad6_any W n k hn hk
  have c34 := fun W' => none34_any W'
  have zy : (pdB yn 4).size = 4 := pdB_size _ _
  have zm : (pdB mn 2).size = 2 := pdB_size _ _
  have zdd : (pdB dn 2).size = 2 := pdB_size _ _
  have zym : (pdB yn 4 ++ pdB mn 2).size = 6 := by rw [ByteArray.size_append, zy, zm]
  have zymd : (pdB yn 4 ++ pdB mn 2 ++ pdB dn 2).size = 8 := by rw [ByteArray.size_append, zym, zdd]
  have hSs : S.size ≤ 21 := by rw [← hS, zy]; omega
  have hA9 : A ≤ 99 := by omega
  have hB9 : B ≤ 99 := by omega
  have zA : (pdB A 2).size = 2 := pdB_size _ _
  have zB : (pdB B 2).size = 2 := pdB_size _ _
  obtain ⟨ns, hns⟩ : ∃ ns, S.size = ns := ⟨_, rfl⟩
  have y1 : (S ++ (⟨#[43]⟩ : ByteArray)).size = ns + 1 := by rw [ByteArray.size_append, hns]; rfl
  have y2 : (S ++ (⟨#[43]⟩ : ByteArray) ++ pdB A 2).size = ns + 3 := by rw [ByteArray.size_append, y1, zA]
  rw [hns] at hSs
  have w1 : ¬ (9223372036854775807 < ns + 1) := by omega
  have w2 : ¬ (9223372036854775807 < ns + 1 + 2) := by omega
  have w3 : ¬ (9223372036854775807 < ns + 3 + 2) := by omega
  have w1' : ns + 1 ≤ 9223372036854775807 := by omega
  have w2' : ns + 1 + 2 ≤ 9223372036854775807 := by omega
  have w3' : ns + 3 + 2 ≤ 9223372036854775807 := by omega
  have hzI : decide (z < 0) = false := by simp; omega
  have hFA : Fit6 (A : Int) 2 := ⟨A, 2, rfl, rfl, by omega, by omega, by omega, by omega⟩
  have hFB : Fit6 (B : Int) 2 := ⟨B, 2, rfl, rfl, by omega, by omega, by omega, by omega⟩
  have c36z : ∀ (W : World) (nI kI : Int), Fit6 nI kI → Calls Tryd.prog 36 #[.int .i64 nI, .int .i64 kI] W fun e w' => e = .returned (.string (pdB nI.toNat kI.toNat)) ∧ Below W.heap.size W w' := by
    rintro W nI kI ⟨n, k, rfl, rfl, _, _, hk, hn⟩
    exact pad6_any W n k hn hk
  have f3 : Int.tdiv z 60 = (A : Int) := by rw [Int.tdiv_eq_ediv_of_nonneg (by omega)]; exact hA
  have f2 : Int.tmod z 60 = (B : Int) := by rw [Int.tmod_eq_emod_of_nonneg (by omega)]; exact hB0
  have fA : IntKind.i64.wrap (A : Int) = (A : Int) := by rw [IntKind.wrap_i64]; omega
  have fB : IntKind.i64.wrap (B : Int) = (B : Int) := by rw [IntKind.wrap_i64]; omega
  have hqq : q + 1 ≠ q := by omega
  unfold mv at *
  have HS : Hid _ := hS
  go_enter Tryd.func23, Tryd.ntmps23
  go_wp2_with (go_at_call 51; refine Stop.mk ?_)
  refine Stop.out ((c51 _).mono ?_)
  rintro e W2 ⟨rfl, hb2⟩
  have HM2 : Hid _ := HM.out.on hb2
  clear hb2 c51 HM q0 q1 q2 q3 q4 q5 q6 q7 q8 q9 q10
  have hR := HM2.out.r
  rw [hq] at hR
  have q0 : W2.cell? ⟨q, 0, none⟩ = some (.int .i64 (yn : Int)) := hR.cell (i := 0) (by omega)
  have q1 : W2.cell? ⟨q, 1, none⟩ = some (.int .i64 (mn : Int)) := hR.cell (i := 1) (by omega)
  have q2 : W2.cell? ⟨q, 2, none⟩ = some (.int .i64 (dn : Int)) := hR.cell (i := 2) (by omega)
  have q3 : W2.cell? ⟨q, 3, none⟩ = some (.int .i64 1) := hR.cell (i := 3) (by omega)
  have q4 : W2.cell? ⟨q, 4, none⟩ = some (.int .i64 0) := hR.cell (i := 4) (by omega)
  have q5 : W2.cell? ⟨q, 5, none⟩ = some (.int .i64 0) := hR.cell (i := 5) (by omega)
  have q6 : W2.cell? ⟨q, 6, none⟩ = some (.int .i64 0) := hR.cell (i := 6) (by omega)
  have q7 : W2.cell? ⟨q, 7, none⟩ = some (.int .i64 0) := hR.cell (i := 7) (by omega)
  have q8 : W2.cell? ⟨q, 8, none⟩ = some (.int .i64 0) := hR.cell (i := 8) (by omega)
  have q9 : W2.cell? ⟨q, 9, none⟩ = some (.bool true) := hR.cell (i := 9) (by omega)
  have q10 : W2.cell? ⟨q, 10, none⟩ = some (.int .i64 z) := hR.cell (i := 10) (by omega)
  clear hR
  go_wp2_with (go_at_call 36; refine Stop.mk ?_)
  refine Stop.out ((c36 _ yn 4 (by omega) (by omega)).mono ?_)
  rintro e W3 ⟨rfl, hb⟩
  have HM3 : Hid _ := HM2.out.on hb
  clear hb HM2 q0 q1 q2 q3 q4 q5 q6 q7 q8 q9 q10
  have hR := HM3.out.r
  rw [hq] at hR
  have q0 : W3.cell? ⟨q, 0, none⟩ = some (.int .i64 (yn : Int)) := hR.cell (i := 0) (by omega)
  have q1 : W3.cell? ⟨q, 1, none⟩ = some (.int .i64 (mn : Int)) := hR.cell (i := 1) (by omega)
  have q2 : W3.cell? ⟨q, 2, none⟩ = some (.int .i64 (dn : Int)) := hR.cell (i := 2) (by omega)
  have q3 : W3.cell? ⟨q, 3, none⟩ = some (.int .i64 1) := hR.cell (i := 3) (by omega)
  have q4 : W3.cell? ⟨q, 4, none⟩ = some (.int .i64 0) := hR.cell (i := 4) (by omega)
  have q5 : W3.cell? ⟨q, 5, none⟩ = some (.int .i64 0) := hR.cell (i := 5) (by omega)
  have q6 : W3.cell? ⟨q, 6, none⟩ = some (.int .i64 0) := hR.cell (i := 6) (by omega)
  have q7 : W3.cell? ⟨q, 7, none⟩ = some (.int .i64 0) := hR.cell (i := 7) (by omega)
  have q8 : W3.cell? ⟨q, 8, none⟩ = some (.int .i64 0) := hR.cell (i := 8) (by omega)
  have q9 : W3.cell? ⟨q, 9, none⟩ = some (.bool true) := hR.cell (i := 9) (by omega)
  have q10 : W3.cell? ⟨q, 10, none⟩ = some (.int .i64 z) := hR.cell (i := 10) (by omega)
  clear hR
  have hM := HM3.out
  have hB : MN w W3.drew 50 11 (mf yn mn dn 1 0 0 0 0 0 true z) := ⟨hM.r, hM.e, hM.b.drew⟩
  go_wp2
  go_region_held3 (fun w' => w'.cell? ⟨q, 10, none⟩ = some (.int .i64 z)) (first | exact hB.c10 hq | exact (cell_set_off hqq).trans (hB.c10 hq) | exact (cell_set_off hqq).trans ((cell_set_off hqq).trans (hB.c10 hq))) (first | (go_at_call 36; refine (c36z _ _ _ ?_).mono ?_; (focus (first | exact hFA | exact hFB)); rintro e W6 ⟨rfl, hb6⟩; replace hB := hB.on hb6) | (go_at_call 34; refine (c34 _).mono ?_; rintro e W6 ⟨rfl, hb6⟩; replace hB := hB.on hb6; have hE6 := hB.e; rw [hq] at hE6; have s0 : W6.cell? ⟨q + 1, 0, none⟩ = some (.slice none 0 0) := hE6.cell (i := 0) (by omega); have s1 : W6.cell? ⟨q + 1, 1, none⟩ = some (.int .i64 0) := hE6.cell (i := 1) (by omega); have sf := fun i => hE6.frozen i; clear hE6))
  all_goals
    have hB10 := hB.b
    rw [hq] at hB10
    go_wp2
    refine bodyPost_ret (v := .tuple #[.string (S ++ ⟨#[43]⟩ ++ pdB A 2 ++ pdB B 2), .agg #[.slice none 0 0, .int .i64 0]]) (by simp [results, Tryd.results23, go_sem, s0, s1]) rfl ⟨_, rfl, rfl, ?_⟩
    rw [hq]
    exact (hB10.setCell (p := ⟨q + 1, 0, none⟩) (Nat.le_succ _) _).setCell (p := ⟨q + 1, 1, none⟩) (Nat.le_succ _) _

set_option maxRecDepth 100000 in
set_option maxHeartbeats 2000000 in
theorem prt23_1tf (w : World) (yn mn dn hn min sn cn pn : Nat) (z : Int) (a1 : yn ≤ 9999) (b1 : hn ≤ 99) (b2 : min ≤ 99) (b3 : sn ≤ 99) (b4 : cn ≤ 999999) (b5 : 1 ≤ pn) (b6 : pn ≤ 9) (c51 : ∀ W, Calls Tryd.prog 51 #[mv yn mn dn 1 hn min sn cn pn false z] W fun e w' => e = .returned (.int .i64 (-1)) ∧ Below W.heap.size W w') (S : ByteArray) (hS : (pdB yn 4) ++ tT hn min sn cn pn = S) : Calls Tryd.prog 23 #[mv yn mn dn 1 hn min sn cn pn false z] w (PostF w (.string (S)) none) := by
  obtain ⟨q, hq⟩ : ∃ q, w.heap.size = q := ⟨_, rfl⟩
  obtain ⟨W1, hW1⟩ : ∃ W1, w.alloc (.cells #[.int .i64 (yn : Int), .int .i64 (mn : Int), .int .i64 (dn : Int), .int .i64 1, .int .i64 (hn : Int), .int .i64 (min : Int), .int .i64 (sn : Int), .int .i64 (cn : Int), .int .i64 (pn : Int), .bool false, .int .i64 z] 50) = W1 := ⟨_, rfl⟩
  obtain ⟨W, hW⟩ : ∃ W, W1.alloc (.cells #[.slice none 0 0, .int .i64 0] 37) = W := ⟨_, rfl⟩
  have hs1 : W1.heap.size = q + 1 := by rw [← hW1, ← hq]; simp
  have HM : Hid (MN w W 50 11 (mf yn mn dn 1 hn min sn cn pn false z)) := by
    show MN _ _ _ _ _
    rw [← hW, ← hW1]
    exact MN.start w _ 50
  have hR := HM.out.r
  rw [hq] at hR
  have q0 : W.cell? ⟨q, 0, none⟩ = some (.int .i64 (yn : Int)) := hR.cell (i := 0) (by omega)
  have q1 : W.cell? ⟨q, 1, none⟩ = some (.int .i64 (mn : Int)) := hR.cell (i := 1) (by omega)
  have q2 : W.cell? ⟨q, 2, none⟩ = some (.int .i64 (dn : Int)) := hR.cell (i := 2) (by omega)
  have q3 : W.cell? ⟨q, 3, none⟩ = some (.int .i64 1) := hR.cell (i := 3) (by omega)
  have q4 : W.cell? ⟨q, 4, none⟩ = some (.int .i64 (hn : Int)) := hR.cell (i := 4) (by omega)
  have q5 : W.cell? ⟨q, 5, none⟩ = some (.int .i64 (min : Int)) := hR.cell (i := 5) (by omega)
  have q6 : W.cell? ⟨q, 6, none⟩ = some (.int .i64 (sn : Int)) := hR.cell (i := 6) (by omega)
  have q7 : W.cell? ⟨q, 7, none⟩ = some (.int .i64 (cn : Int)) := hR.cell (i := 7) (by omega)
  have q8 : W.cell? ⟨q, 8, none⟩ = some (.int .i64 (pn : Int)) := hR.cell (i := 8) (by omega)
  have q9 : W.cell? ⟨q, 9, none⟩ = some (.bool false) := hR.cell (i := 9) (by omega)
  have q10 : W.cell? ⟨q, 10, none⟩ = some (.int .i64 z) := hR.cell (i := 10) (by omega)
  clear hR
  have c36 : ∀ (W : World) (n k : Nat), n ≤ 999999 → k ≤ 6 → Calls Tryd.prog 36 #[.int .i64 (n : Int), .int .i64 (k : Int)] W fun e w' => e = .returned (.string (pdB n k)) ∧ Below W.heap.size W w' := fun W n k hn hk => pad6_any W n k hn hk
  have c34 := fun W' => none34_any W'
  have zy : (pdB yn 4).size = 4 := pdB_size _ _
  have zm : (pdB mn 2).size = 2 := pdB_size _ _
  have zdd : (pdB dn 2).size = 2 := pdB_size _ _
  have zym : (pdB yn 4 ++ pdB mn 2).size = 6 := by rw [ByteArray.size_append, zy, zm]
  have zymd : (pdB yn 4 ++ pdB mn 2 ++ pdB dn 2).size = 8 := by rw [ByteArray.size_append, zym, zdd]
  have c46 := fun W' => text46_any W' hn min sn cn pn b1 b2 b3 b4 b5 b6
  have ht := tT_size hn min sn cn pn b6
  have hpI : decide ((0 : Int) < (pn : Int)) = true := by simp; omega
  generalize tT hn min sn cn pn = TX at *
  have hcat1 : ¬ (9223372036854775807 < (pdB yn 4).size + TX.size) := by rw [zy]; omega
  have hcat2 : (pdB yn 4).size + TX.size ≤ 9223372036854775807 := by omega
  have hSs : S.size ≤ 21 := by rw [← hS, ByteArray.size_append, zy]; omega
  unfold t5 at c46
  unfold mv at *
  have HS : Hid _ := hS
  go_enter Tryd.func23, Tryd.ntmps23
  go_wp2_with (go_at_call 51; refine Stop.mk ?_)
  refine Stop.out ((c51 _).mono ?_)
  rintro e W2 ⟨rfl, hb2⟩
  have HM2 : Hid _ := HM.out.on hb2
  clear hb2 c51 HM q0 q1 q2 q3 q4 q5 q6 q7 q8 q9 q10
  have hR := HM2.out.r
  rw [hq] at hR
  have q0 : W2.cell? ⟨q, 0, none⟩ = some (.int .i64 (yn : Int)) := hR.cell (i := 0) (by omega)
  have q1 : W2.cell? ⟨q, 1, none⟩ = some (.int .i64 (mn : Int)) := hR.cell (i := 1) (by omega)
  have q2 : W2.cell? ⟨q, 2, none⟩ = some (.int .i64 (dn : Int)) := hR.cell (i := 2) (by omega)
  have q3 : W2.cell? ⟨q, 3, none⟩ = some (.int .i64 1) := hR.cell (i := 3) (by omega)
  have q4 : W2.cell? ⟨q, 4, none⟩ = some (.int .i64 (hn : Int)) := hR.cell (i := 4) (by omega)
  have q5 : W2.cell? ⟨q, 5, none⟩ = some (.int .i64 (min : Int)) := hR.cell (i := 5) (by omega)
  have q6 : W2.cell? ⟨q, 6, none⟩ = some (.int .i64 (sn : Int)) := hR.cell (i := 6) (by omega)
  have q7 : W2.cell? ⟨q, 7, none⟩ = some (.int .i64 (cn : Int)) := hR.cell (i := 7) (by omega)
  have q8 : W2.cell? ⟨q, 8, none⟩ = some (.int .i64 (pn : Int)) := hR.cell (i := 8) (by omega)
  have q9 : W2.cell? ⟨q, 9, none⟩ = some (.bool false) := hR.cell (i := 9) (by omega)
  have q10 : W2.cell? ⟨q, 10, none⟩ = some (.int .i64 z) := hR.cell (i := 10) (by omega)
  clear hR
  go_wp2_with (go_at_call 36; refine Stop.mk ?_)
  refine Stop.out ((c36 _ yn 4 (by omega) (by omega)).mono ?_)
  rintro e W3 ⟨rfl, hb⟩
  have HM3 : Hid _ := HM2.out.on hb
  clear hb HM2 q0 q1 q2 q3 q4 q5 q6 q7 q8 q9 q10
  have hR := HM3.out.r
  rw [hq] at hR
  have q0 : W3.cell? ⟨q, 0, none⟩ = some (.int .i64 (yn : Int)) := hR.cell (i := 0) (by omega)
  have q1 : W3.cell? ⟨q, 1, none⟩ = some (.int .i64 (mn : Int)) := hR.cell (i := 1) (by omega)
  have q2 : W3.cell? ⟨q, 2, none⟩ = some (.int .i64 (dn : Int)) := hR.cell (i := 2) (by omega)
  have q3 : W3.cell? ⟨q, 3, none⟩ = some (.int .i64 1) := hR.cell (i := 3) (by omega)
  have q4 : W3.cell? ⟨q, 4, none⟩ = some (.int .i64 (hn : Int)) := hR.cell (i := 4) (by omega)
  have q5 : W3.cell? ⟨q, 5, none⟩ = some (.int .i64 (min : Int)) := hR.cell (i := 5) (by omega)
  have q6 : W3.cell? ⟨q, 6, none⟩ = some (.int .i64 (sn : Int)) := hR.cell (i := 6) (by omega)
  have q7 : W3.cell? ⟨q, 7, none⟩ = some (.int .i64 (cn : Int)) := hR.cell (i := 7) (by omega)
  have q8 : W3.cell? ⟨q, 8, none⟩ = some (.int .i64 (pn : Int)) := hR.cell (i := 8) (by omega)
  have q9 : W3.cell? ⟨q, 9, none⟩ = some (.bool false) := hR.cell (i := 9) (by omega)
  have q10 : W3.cell? ⟨q, 10, none⟩ = some (.int .i64 z) := hR.cell (i := 10) (by omega)
  clear hR
  go_wp2_with (go_at_call 46; refine Stop.mk ?_)
  refine Stop.out ((c46 _).mono ?_)
  rintro e W4 ⟨rfl, hb⟩
  have HM4 : Hid _ := HM3.out.on hb
  clear hb HM3 q0 q1 q2 q3 q4 q5 q6 q7 q8 q9 q10
  have hR := HM4.out.r
  rw [hq] at hR
  have q0 : W4.cell? ⟨q, 0, none⟩ = some (.int .i64 (yn : Int)) := hR.cell (i := 0) (by omega)
  have q1 : W4.cell? ⟨q, 1, none⟩ = some (.int .i64 (mn : Int)) := hR.cell (i := 1) (by omega)
  have q2 : W4.cell? ⟨q, 2, none⟩ = some (.int .i64 (dn : Int)) := hR.cell (i := 2) (by omega)
  have q3 : W4.cell? ⟨q, 3, none⟩ = some (.int .i64 1) := hR.cell (i := 3) (by omega)
  have q4 : W4.cell? ⟨q, 4, none⟩ = some (.int .i64 (hn : Int)) := hR.cell (i := 4) (by omega)
  have q5 : W4.cell? ⟨q, 5, none⟩ = some (.int .i64 (min : Int)) := hR.cell (i := 5) (by omega)
  have q6 : W4.cell? ⟨q, 6, none⟩ = some (.int .i64 (sn : Int)) := hR.cell (i := 6) (by omega)
  have q7 : W4.cell? ⟨q, 7, none⟩ = some (.int .i64 (cn : Int)) := hR.cell (i := 7) (by omega)
  have q8 : W4.cell? ⟨q, 8, none⟩ = some (.int .i64 (pn : Int)) := hR.cell (i := 8) (by omega)
  have q9 : W4.cell? ⟨q, 9, none⟩ = some (.bool false) := hR.cell (i := 9) (by omega)
  have q10 : W4.cell? ⟨q, 10, none⟩ = some (.int .i64 z) := hR.cell (i := 10) (by omega)
  clear hR
  go_wp2_with (go_at_call 34; refine Stop.mk ?_)
  refine Stop.out ((c34 _).mono ?_)
  rintro e W9 ⟨rfl, hb⟩
  have HM9 : Hid _ := HM4.out.on hb
  clear hb
  have hM9 := HM9.out
  have hE9 := hM9.e
  have hB9 := hM9.b
  rw [hq] at hE9 hB9
  have s0 : W9.cell? ⟨q + 1, 0, none⟩ = some (.slice none 0 0) := hE9.cell (i := 0) (by omega)
  have s1 : W9.cell? ⟨q + 1, 1, none⟩ = some (.int .i64 0) := hE9.cell (i := 1) (by omega)
  have sf := fun i => hE9.frozen i
  have HB9 : Hid _ := hB9
  clear hM9 hE9 hB9
  go_wp2
  refine bodyPost_ret (v := .tuple #[.string (S), .agg #[.slice none 0 0, .int .i64 0]]) (by simp [results, Tryd.results23, go_sem, s0, s1]) rfl ⟨_, rfl, rfl, ?_⟩
  rw [hq]
  exact (HB9.out.setCell (p := ⟨q + 1, 0, none⟩) (Nat.le_succ _) _).setCell (p := ⟨q + 1, 1, none⟩) (Nat.le_succ _) _

set_option maxRecDepth 100000 in
set_option maxHeartbeats 2000000 in
theorem prt23_1tn (w : World) (yn mn dn hn min sn cn pn : Nat) (z : Int) (a1 : yn ≤ 9999) (b1 : hn ≤ 99) (b2 : min ≤ 99) (b3 : sn ≤ 99) (b4 : cn ≤ 999999) (b5 : 1 ≤ pn) (b6 : pn ≤ 9) (hz : z < 0) (hz2 : -720 ≤ z) (A B : Nat) (hA : - z / 60 = (A : Int)) (hB0 : - z % 60 = (B : Int)) (c51 : ∀ W, Calls Tryd.prog 51 #[mv yn mn dn 1 hn min sn cn pn true z] W fun e w' => e = .returned (.int .i64 (-1)) ∧ Below W.heap.size W w') (S : ByteArray) (hS : (pdB yn 4) ++ tT hn min sn cn pn = S) : Calls Tryd.prog 23 #[mv yn mn dn 1 hn min sn cn pn true z] w (PostF w (.string (S ++ ⟨#[45]⟩ ++ pdB A 2 ++ pdB B 2)) none) := by
  obtain ⟨q, hq⟩ : ∃ q, w.heap.size = q := ⟨_, rfl⟩
  obtain ⟨W1, hW1⟩ : ∃ W1, w.alloc (.cells #[.int .i64 (yn : Int), .int .i64 (mn : Int), .int .i64 (dn : Int), .int .i64 1, .int .i64 (hn : Int), .int .i64 (min : Int), .int .i64 (sn : Int), .int .i64 (cn : Int), .int .i64 (pn : Int), .bool true, .int .i64 z] 50) = W1 := ⟨_, rfl⟩
  obtain ⟨W, hW⟩ : ∃ W, W1.alloc (.cells #[.slice none 0 0, .int .i64 0] 37) = W := ⟨_, rfl⟩
  have hs1 : W1.heap.size = q + 1 := by rw [← hW1, ← hq]; simp
  have HM : Hid (MN w W 50 11 (mf yn mn dn 1 hn min sn cn pn true z)) := by
    show MN _ _ _ _ _
    rw [← hW, ← hW1]
    exact MN.start w _ 50
  have hR := HM.out.r
  rw [hq] at hR
  have q0 : W.cell? ⟨q, 0, none⟩ = some (.int .i64 (yn : Int)) := hR.cell (i := 0) (by omega)
  have q1 : W.cell? ⟨q, 1, none⟩ = some (.int .i64 (mn : Int)) := hR.cell (i := 1) (by omega)
  have q2 : W.cell? ⟨q, 2, none⟩ = some (.int .i64 (dn : Int)) := hR.cell (i := 2) (by omega)
  have q3 : W.cell? ⟨q, 3, none⟩ = some (.int .i64 1) := hR.cell (i := 3) (by omega)
  have q4 : W.cell? ⟨q, 4, none⟩ = some (.int .i64 (hn : Int)) := hR.cell (i := 4) (by omega)
  have q5 : W.cell? ⟨q, 5, none⟩ = some (.int .i64 (min : Int)) := hR.cell (i := 5) (by omega)
  have q6 : W.cell? ⟨q, 6, none⟩ = some (.int .i64 (sn : Int)) := hR.cell (i := 6) (by omega)
  have q7 : W.cell? ⟨q, 7, none⟩ = some (.int .i64 (cn : Int)) := hR.cell (i := 7) (by omega)
  have q8 : W.cell? ⟨q, 8, none⟩ = some (.int .i64 (pn : Int)) := hR.cell (i := 8) (by omega)
  have q9 : W.cell? ⟨q, 9, none⟩ = some (.bool true) := hR.cell (i := 9) (by omega)
  have q10 : W.cell? ⟨q, 10, none⟩ = some (.int .i64 z) := hR.cell (i := 10) (by omega)
  clear hR
  have c36 : ∀ (W : World) (n k : Nat), n ≤ 999999 → k ≤ 6 → Calls Tryd.prog 36 #[.int .i64 (n : Int), .int .i64 (k : Int)] W fun e w' => e = .returned (.string (pdB n k)) ∧ Below W.heap.size W w' := fun W n k hn hk => pad6_any W n k hn hk
  have c34 := fun W' => none34_any W'
  have zy : (pdB yn 4).size = 4 := pdB_size _ _
  have zm : (pdB mn 2).size = 2 := pdB_size _ _
  have zdd : (pdB dn 2).size = 2 := pdB_size _ _
  have zym : (pdB yn 4 ++ pdB mn 2).size = 6 := by rw [ByteArray.size_append, zy, zm]
  have zymd : (pdB yn 4 ++ pdB mn 2 ++ pdB dn 2).size = 8 := by rw [ByteArray.size_append, zym, zdd]
  have c46 := fun W' => text46_any W' hn min sn cn pn b1 b2 b3 b4 b5 b6
  have ht := tT_size hn min sn cn pn b6
  have hpI : decide ((0 : Int) < (pn : Int)) = true := by simp; omega
  generalize tT hn min sn cn pn = TX at *
  have hcat1 : ¬ (9223372036854775807 < (pdB yn 4).size + TX.size) := by rw [zy]; omega
  have hcat2 : (pdB yn 4).size + TX.size ≤ 9223372036854775807 := by omega
  have hSs : S.size ≤ 21 := by rw [← hS, ByteArray.size_append, zy]; omega
  unfold t5 at c46
  have hA9 : A ≤ 99 := by omega
  have hB9 : B ≤ 99 := by omega
  have zA : (pdB A 2).size = 2 := pdB_size _ _
  have zB : (pdB B 2).size = 2 := pdB_size _ _
  obtain ⟨ns, hns⟩ : ∃ ns, S.size = ns := ⟨_, rfl⟩
  have y1 : (S ++ (⟨#[45]⟩ : ByteArray)).size = ns + 1 := by rw [ByteArray.size_append, hns]; rfl
  have y2 : (S ++ (⟨#[45]⟩ : ByteArray) ++ pdB A 2).size = ns + 3 := by rw [ByteArray.size_append, y1, zA]
  rw [hns] at hSs
  have w1 : ¬ (9223372036854775807 < ns + 1) := by omega
  have w2 : ¬ (9223372036854775807 < ns + 1 + 2) := by omega
  have w3 : ¬ (9223372036854775807 < ns + 3 + 2) := by omega
  have w1' : ns + 1 ≤ 9223372036854775807 := by omega
  have w2' : ns + 1 + 2 ≤ 9223372036854775807 := by omega
  have w3' : ns + 3 + 2 ≤ 9223372036854775807 := by omega
  have hzI : decide (z < 0) = true := by simp; omega
  have hFA : Fit6 (A : Int) 2 := ⟨A, 2, rfl, rfl, by omega, by omega, by omega, by omega⟩
  have hFB : Fit6 (B : Int) 2 := ⟨B, 2, rfl, rfl, by omega, by omega, by omega, by omega⟩
  have c36z : ∀ (W : World) (nI kI : Int), Fit6 nI kI → Calls Tryd.prog 36 #[.int .i64 nI, .int .i64 kI] W fun e w' => e = .returned (.string (pdB nI.toNat kI.toNat)) ∧ Below W.heap.size W w' := by
    rintro W nI kI ⟨n, k, rfl, rfl, _, _, hk, hn⟩
    exact pad6_any W n k hn hk
  obtain ⟨zn, hzn⟩ : ∃ zn : Int, - z = zn := ⟨_, rfl⟩
  have hz0 : 0 ≤ zn := by omega
  have hz9 : zn ≤ 720 := by omega
  have fz : IntKind.i64.wrap zn = zn := by rw [IntKind.wrap_i64]; omega
  rw [hzn] at hA hB0
  have f3 : Int.tdiv zn 60 = (A : Int) := by rw [Int.tdiv_eq_ediv_of_nonneg (by omega)]; exact hA
  have f2 : Int.tmod zn 60 = (B : Int) := by rw [Int.tmod_eq_emod_of_nonneg (by omega)]; exact hB0
  have fA : IntKind.i64.wrap (A : Int) = (A : Int) := by rw [IntKind.wrap_i64]; omega
  have fB : IntKind.i64.wrap (B : Int) = (B : Int) := by rw [IntKind.wrap_i64]; omega
  have hqq : q + 1 ≠ q := by omega
  unfold mv at *
  have HS : Hid _ := hS
  go_enter Tryd.func23, Tryd.ntmps23
  go_wp2_with (go_at_call 51; refine Stop.mk ?_)
  refine Stop.out ((c51 _).mono ?_)
  rintro e W2 ⟨rfl, hb2⟩
  have HM2 : Hid _ := HM.out.on hb2
  clear hb2 c51 HM q0 q1 q2 q3 q4 q5 q6 q7 q8 q9 q10
  have hR := HM2.out.r
  rw [hq] at hR
  have q0 : W2.cell? ⟨q, 0, none⟩ = some (.int .i64 (yn : Int)) := hR.cell (i := 0) (by omega)
  have q1 : W2.cell? ⟨q, 1, none⟩ = some (.int .i64 (mn : Int)) := hR.cell (i := 1) (by omega)
  have q2 : W2.cell? ⟨q, 2, none⟩ = some (.int .i64 (dn : Int)) := hR.cell (i := 2) (by omega)
  have q3 : W2.cell? ⟨q, 3, none⟩ = some (.int .i64 1) := hR.cell (i := 3) (by omega)
  have q4 : W2.cell? ⟨q, 4, none⟩ = some (.int .i64 (hn : Int)) := hR.cell (i := 4) (by omega)
  have q5 : W2.cell? ⟨q, 5, none⟩ = some (.int .i64 (min : Int)) := hR.cell (i := 5) (by omega)
  have q6 : W2.cell? ⟨q, 6, none⟩ = some (.int .i64 (sn : Int)) := hR.cell (i := 6) (by omega)
  have q7 : W2.cell? ⟨q, 7, none⟩ = some (.int .i64 (cn : Int)) := hR.cell (i := 7) (by omega)
  have q8 : W2.cell? ⟨q, 8, none⟩ = some (.int .i64 (pn : Int)) := hR.cell (i := 8) (by omega)
  have q9 : W2.cell? ⟨q, 9, none⟩ = some (.bool true) := hR.cell (i := 9) (by omega)
  have q10 : W2.cell? ⟨q, 10, none⟩ = some (.int .i64 z) := hR.cell (i := 10) (by omega)
  clear hR
  go_wp2_with (go_at_call 36; refine Stop.mk ?_)
  refine Stop.out ((c36 _ yn 4 (by omega) (by omega)).mono ?_)
  rintro e W3 ⟨rfl, hb⟩
  have HM3 : Hid _ := HM2.out.on hb
  clear hb HM2 q0 q1 q2 q3 q4 q5 q6 q7 q8 q9 q10
  have hR := HM3.out.r
  rw [hq] at hR
  have q0 : W3.cell? ⟨q, 0, none⟩ = some (.int .i64 (yn : Int)) := hR.cell (i := 0) (by omega)
  have q1 : W3.cell? ⟨q, 1, none⟩ = some (.int .i64 (mn : Int)) := hR.cell (i := 1) (by omega)
  have q2 : W3.cell? ⟨q, 2, none⟩ = some (.int .i64 (dn : Int)) := hR.cell (i := 2) (by omega)
  have q3 : W3.cell? ⟨q, 3, none⟩ = some (.int .i64 1) := hR.cell (i := 3) (by omega)
  have q4 : W3.cell? ⟨q, 4, none⟩ = some (.int .i64 (hn : Int)) := hR.cell (i := 4) (by omega)
  have q5 : W3.cell? ⟨q, 5, none⟩ = some (.int .i64 (min : Int)) := hR.cell (i := 5) (by omega)
  have q6 : W3.cell? ⟨q, 6, none⟩ = some (.int .i64 (sn : Int)) := hR.cell (i := 6) (by omega)
  have q7 : W3.cell? ⟨q, 7, none⟩ = some (.int .i64 (cn : Int)) := hR.cell (i := 7) (by omega)
  have q8 : W3.cell? ⟨q, 8, none⟩ = some (.int .i64 (pn : Int)) := hR.cell (i := 8) (by omega)
  have q9 : W3.cell? ⟨q, 9, none⟩ = some (.bool true) := hR.cell (i := 9) (by omega)
  have q10 : W3.cell? ⟨q, 10, none⟩ = some (.int .i64 z) := hR.cell (i := 10) (by omega)
  clear hR
  go_wp2_with (go_at_call 46; refine Stop.mk ?_)
  refine Stop.out ((c46 _).mono ?_)
  rintro e W4 ⟨rfl, hb⟩
  have HM4 : Hid _ := HM3.out.on hb
  clear hb HM3 q0 q1 q2 q3 q4 q5 q6 q7 q8 q9 q10
  have hR := HM4.out.r
  rw [hq] at hR
  have q0 : W4.cell? ⟨q, 0, none⟩ = some (.int .i64 (yn : Int)) := hR.cell (i := 0) (by omega)
  have q1 : W4.cell? ⟨q, 1, none⟩ = some (.int .i64 (mn : Int)) := hR.cell (i := 1) (by omega)
  have q2 : W4.cell? ⟨q, 2, none⟩ = some (.int .i64 (dn : Int)) := hR.cell (i := 2) (by omega)
  have q3 : W4.cell? ⟨q, 3, none⟩ = some (.int .i64 1) := hR.cell (i := 3) (by omega)
  have q4 : W4.cell? ⟨q, 4, none⟩ = some (.int .i64 (hn : Int)) := hR.cell (i := 4) (by omega)
  have q5 : W4.cell? ⟨q, 5, none⟩ = some (.int .i64 (min : Int)) := hR.cell (i := 5) (by omega)
  have q6 : W4.cell? ⟨q, 6, none⟩ = some (.int .i64 (sn : Int)) := hR.cell (i := 6) (by omega)
  have q7 : W4.cell? ⟨q, 7, none⟩ = some (.int .i64 (cn : Int)) := hR.cell (i := 7) (by omega)
  have q8 : W4.cell? ⟨q, 8, none⟩ = some (.int .i64 (pn : Int)) := hR.cell (i := 8) (by omega)
  have q9 : W4.cell? ⟨q, 9, none⟩ = some (.bool true) := hR.cell (i := 9) (by omega)
  have q10 : W4.cell? ⟨q, 10, none⟩ = some (.int .i64 z) := hR.cell (i := 10) (by omega)
  clear hR
  have hM := HM4.out
  have hB : MN w W4.drew 50 11 (mf yn mn dn 1 hn min sn cn pn true z) := ⟨hM.r, hM.e, hM.b.drew⟩
  go_wp2
  go_region_held3 (fun w' => w'.cell? ⟨q, 10, none⟩ = some (.int .i64 z)) (first | exact hB.c10 hq | exact (cell_set_off hqq).trans (hB.c10 hq) | exact (cell_set_off hqq).trans ((cell_set_off hqq).trans (hB.c10 hq))) (first | (go_at_call 36; refine (c36z _ _ _ ?_).mono ?_; (focus (first | exact hFA | exact hFB)); rintro e W6 ⟨rfl, hb6⟩; replace hB := hB.on hb6) | (go_at_call 34; refine (c34 _).mono ?_; rintro e W6 ⟨rfl, hb6⟩; replace hB := hB.on hb6; have hE6 := hB.e; rw [hq] at hE6; have s0 : W6.cell? ⟨q + 1, 0, none⟩ = some (.slice none 0 0) := hE6.cell (i := 0) (by omega); have s1 : W6.cell? ⟨q + 1, 1, none⟩ = some (.int .i64 0) := hE6.cell (i := 1) (by omega); have sf := fun i => hE6.frozen i; clear hE6))
  all_goals
    have hB10 := hB.b
    rw [hq] at hB10
    go_wp2
    refine bodyPost_ret (v := .tuple #[.string (S ++ ⟨#[45]⟩ ++ pdB A 2 ++ pdB B 2), .agg #[.slice none 0 0, .int .i64 0]]) (by simp [results, Tryd.results23, go_sem, s0, s1]) rfl ⟨_, rfl, rfl, ?_⟩
    rw [hq]
    exact (hB10.setCell (p := ⟨q + 1, 0, none⟩) (Nat.le_succ _) _).setCell (p := ⟨q + 1, 1, none⟩) (Nat.le_succ _) _

set_option maxRecDepth 100000 in
set_option maxHeartbeats 2000000 in
theorem prt23_1tp (w : World) (yn mn dn hn min sn cn pn : Nat) (z : Int) (a1 : yn ≤ 9999) (b1 : hn ≤ 99) (b2 : min ≤ 99) (b3 : sn ≤ 99) (b4 : cn ≤ 999999) (b5 : 1 ≤ pn) (b6 : pn ≤ 9) (hz : 0 ≤ z) (hz2 : z ≤ 840) (A B : Nat) (hA : z / 60 = (A : Int)) (hB0 : z % 60 = (B : Int)) (c51 : ∀ W, Calls Tryd.prog 51 #[mv yn mn dn 1 hn min sn cn pn true z] W fun e w' => e = .returned (.int .i64 (-1)) ∧ Below W.heap.size W w') (S : ByteArray) (hS : (pdB yn 4) ++ tT hn min sn cn pn = S) : Calls Tryd.prog 23 #[mv yn mn dn 1 hn min sn cn pn true z] w (PostF w (.string (S ++ ⟨#[43]⟩ ++ pdB A 2 ++ pdB B 2)) none) := by
  obtain ⟨q, hq⟩ : ∃ q, w.heap.size = q := ⟨_, rfl⟩
  obtain ⟨W1, hW1⟩ : ∃ W1, w.alloc (.cells #[.int .i64 (yn : Int), .int .i64 (mn : Int), .int .i64 (dn : Int), .int .i64 1, .int .i64 (hn : Int), .int .i64 (min : Int), .int .i64 (sn : Int), .int .i64 (cn : Int), .int .i64 (pn : Int), .bool true, .int .i64 z] 50) = W1 := ⟨_, rfl⟩
  obtain ⟨W, hW⟩ : ∃ W, W1.alloc (.cells #[.slice none 0 0, .int .i64 0] 37) = W := ⟨_, rfl⟩
  have hs1 : W1.heap.size = q + 1 := by rw [← hW1, ← hq]; simp
  have HM : Hid (MN w W 50 11 (mf yn mn dn 1 hn min sn cn pn true z)) := by
    show MN _ _ _ _ _
    rw [← hW, ← hW1]
    exact MN.start w _ 50
  have hR := HM.out.r
  rw [hq] at hR
  have q0 : W.cell? ⟨q, 0, none⟩ = some (.int .i64 (yn : Int)) := hR.cell (i := 0) (by omega)
  have q1 : W.cell? ⟨q, 1, none⟩ = some (.int .i64 (mn : Int)) := hR.cell (i := 1) (by omega)
  have q2 : W.cell? ⟨q, 2, none⟩ = some (.int .i64 (dn : Int)) := hR.cell (i := 2) (by omega)
  have q3 : W.cell? ⟨q, 3, none⟩ = some (.int .i64 1) := hR.cell (i := 3) (by omega)
  have q4 : W.cell? ⟨q, 4, none⟩ = some (.int .i64 (hn : Int)) := hR.cell (i := 4) (by omega)
  have q5 : W.cell? ⟨q, 5, none⟩ = some (.int .i64 (min : Int)) := hR.cell (i := 5) (by omega)
  have q6 : W.cell? ⟨q, 6, none⟩ = some (.int .i64 (sn : Int)) := hR.cell (i := 6) (by omega)
  have q7 : W.cell? ⟨q, 7, none⟩ = some (.int .i64 (cn : Int)) := hR.cell (i := 7) (by omega)
  have q8 : W.cell? ⟨q, 8, none⟩ = some (.int .i64 (pn : Int)) := hR.cell (i := 8) (by omega)
  have q9 : W.cell? ⟨q, 9, none⟩ = some (.bool true) := hR.cell (i := 9) (by omega)
  have q10 : W.cell? ⟨q, 10, none⟩ = some (.int .i64 z) := hR.cell (i := 10) (by omega)
  clear hR
  have c36 : ∀ (W : World) (n k : Nat), n ≤ 999999 → k ≤ 6 → Calls Tryd.prog 36 #[.int .i64 (n : Int), .int .i64 (k : Int)] W fun e w' => e = .returned (.string (pdB n k)) ∧ Below W.heap.size W w' := fun W n k hn hk => pad6_any W n k hn hk
  have c34 := fun W' => none34_any W'
  have zy : (pdB yn 4).size = 4 := pdB_size _ _
  have zm : (pdB mn 2).size = 2 := pdB_size _ _
  have zdd : (pdB dn 2).size = 2 := pdB_size _ _
  have zym : (pdB yn 4 ++ pdB mn 2).size = 6 := by rw [ByteArray.size_append, zy, zm]
  have zymd : (pdB yn 4 ++ pdB mn 2 ++ pdB dn 2).size = 8 := by rw [ByteArray.size_append, zym, zdd]
  have c46 := fun W' => text46_any W' hn min sn cn pn b1 b2 b3 b4 b5 b6
  have ht := tT_size hn min sn cn pn b6
  have hpI : decide ((0 : Int) < (pn : Int)) = true := by simp; omega
  generalize tT hn min sn cn pn = TX at *
  have hcat1 : ¬ (9223372036854775807 < (pdB yn 4).size + TX.size) := by rw [zy]; omega
  have hcat2 : (pdB yn 4).size + TX.size ≤ 9223372036854775807 := by omega
  have hSs : S.size ≤ 21 := by rw [← hS, ByteArray.size_append, zy]; omega
  unfold t5 at c46
  have hA9 : A ≤ 99 := by omega
  have hB9 : B ≤ 99 := by omega
  have zA : (pdB A 2).size = 2 := pdB_size _ _
  have zB : (pdB B 2).size = 2 := pdB_size _ _
  obtain ⟨ns, hns⟩ : ∃ ns, S.size = ns := ⟨_, rfl⟩
  have y1 : (S ++ (⟨#[43]⟩ : ByteArray)).size = ns + 1 := by rw [ByteArray.size_append, hns]; rfl
  have y2 : (S ++ (⟨#[43]⟩ : ByteArray) ++ pdB A 2).size = ns + 3 := by rw [ByteArray.size_append, y1, zA]
  rw [hns] at hSs
  have w1 : ¬ (9223372036854775807 < ns + 1) := by omega
  have w2 : ¬ (9223372036854775807 < ns + 1 + 2) := by omega
  have w3 : ¬ (9223372036854775807 < ns + 3 + 2) := by omega
  have w1' : ns + 1 ≤ 9223372036854775807 := by omega
  have w2' : ns + 1 + 2 ≤ 9223372036854775807 := by omega
  have w3' : ns + 3 + 2 ≤ 9223372036854775807 := by omega
  have hzI : decide (z < 0) = false := by simp; omega
  have hFA : Fit6 (A : Int) 2 := ⟨A, 2, rfl, rfl, by omega, by omega, by omega, by omega⟩
  have hFB : Fit6 (B : Int) 2 := ⟨B, 2, rfl, rfl, by omega, by omega, by omega, by omega⟩
  have c36z : ∀ (W : World) (nI kI : Int), Fit6 nI kI → Calls Tryd.prog 36 #[.int .i64 nI, .int .i64 kI] W fun e w' => e = .returned (.string (pdB nI.toNat kI.toNat)) ∧ Below W.heap.size W w' := by
    rintro W nI kI ⟨n, k, rfl, rfl, _, _, hk, hn⟩
    exact pad6_any W n k hn hk
  have f3 : Int.tdiv z 60 = (A : Int) := by rw [Int.tdiv_eq_ediv_of_nonneg (by omega)]; exact hA
  have f2 : Int.tmod z 60 = (B : Int) := by rw [Int.tmod_eq_emod_of_nonneg (by omega)]; exact hB0
  have fA : IntKind.i64.wrap (A : Int) = (A : Int) := by rw [IntKind.wrap_i64]; omega
  have fB : IntKind.i64.wrap (B : Int) = (B : Int) := by rw [IntKind.wrap_i64]; omega
  have hqq : q + 1 ≠ q := by omega
  unfold mv at *
  have HS : Hid _ := hS
  go_enter Tryd.func23, Tryd.ntmps23
  go_wp2_with (go_at_call 51; refine Stop.mk ?_)
  refine Stop.out ((c51 _).mono ?_)
  rintro e W2 ⟨rfl, hb2⟩
  have HM2 : Hid _ := HM.out.on hb2
  clear hb2 c51 HM q0 q1 q2 q3 q4 q5 q6 q7 q8 q9 q10
  have hR := HM2.out.r
  rw [hq] at hR
  have q0 : W2.cell? ⟨q, 0, none⟩ = some (.int .i64 (yn : Int)) := hR.cell (i := 0) (by omega)
  have q1 : W2.cell? ⟨q, 1, none⟩ = some (.int .i64 (mn : Int)) := hR.cell (i := 1) (by omega)
  have q2 : W2.cell? ⟨q, 2, none⟩ = some (.int .i64 (dn : Int)) := hR.cell (i := 2) (by omega)
  have q3 : W2.cell? ⟨q, 3, none⟩ = some (.int .i64 1) := hR.cell (i := 3) (by omega)
  have q4 : W2.cell? ⟨q, 4, none⟩ = some (.int .i64 (hn : Int)) := hR.cell (i := 4) (by omega)
  have q5 : W2.cell? ⟨q, 5, none⟩ = some (.int .i64 (min : Int)) := hR.cell (i := 5) (by omega)
  have q6 : W2.cell? ⟨q, 6, none⟩ = some (.int .i64 (sn : Int)) := hR.cell (i := 6) (by omega)
  have q7 : W2.cell? ⟨q, 7, none⟩ = some (.int .i64 (cn : Int)) := hR.cell (i := 7) (by omega)
  have q8 : W2.cell? ⟨q, 8, none⟩ = some (.int .i64 (pn : Int)) := hR.cell (i := 8) (by omega)
  have q9 : W2.cell? ⟨q, 9, none⟩ = some (.bool true) := hR.cell (i := 9) (by omega)
  have q10 : W2.cell? ⟨q, 10, none⟩ = some (.int .i64 z) := hR.cell (i := 10) (by omega)
  clear hR
  go_wp2_with (go_at_call 36; refine Stop.mk ?_)
  refine Stop.out ((c36 _ yn 4 (by omega) (by omega)).mono ?_)
  rintro e W3 ⟨rfl, hb⟩
  have HM3 : Hid _ := HM2.out.on hb
  clear hb HM2 q0 q1 q2 q3 q4 q5 q6 q7 q8 q9 q10
  have hR := HM3.out.r
  rw [hq] at hR
  have q0 : W3.cell? ⟨q, 0, none⟩ = some (.int .i64 (yn : Int)) := hR.cell (i := 0) (by omega)
  have q1 : W3.cell? ⟨q, 1, none⟩ = some (.int .i64 (mn : Int)) := hR.cell (i := 1) (by omega)
  have q2 : W3.cell? ⟨q, 2, none⟩ = some (.int .i64 (dn : Int)) := hR.cell (i := 2) (by omega)
  have q3 : W3.cell? ⟨q, 3, none⟩ = some (.int .i64 1) := hR.cell (i := 3) (by omega)
  have q4 : W3.cell? ⟨q, 4, none⟩ = some (.int .i64 (hn : Int)) := hR.cell (i := 4) (by omega)
  have q5 : W3.cell? ⟨q, 5, none⟩ = some (.int .i64 (min : Int)) := hR.cell (i := 5) (by omega)
  have q6 : W3.cell? ⟨q, 6, none⟩ = some (.int .i64 (sn : Int)) := hR.cell (i := 6) (by omega)
  have q7 : W3.cell? ⟨q, 7, none⟩ = some (.int .i64 (cn : Int)) := hR.cell (i := 7) (by omega)
  have q8 : W3.cell? ⟨q, 8, none⟩ = some (.int .i64 (pn : Int)) := hR.cell (i := 8) (by omega)
  have q9 : W3.cell? ⟨q, 9, none⟩ = some (.bool true) := hR.cell (i := 9) (by omega)
  have q10 : W3.cell? ⟨q, 10, none⟩ = some (.int .i64 z) := hR.cell (i := 10) (by omega)
  clear hR
  go_wp2_with (go_at_call 46; refine Stop.mk ?_)
  refine Stop.out ((c46 _).mono ?_)
  rintro e W4 ⟨rfl, hb⟩
  have HM4 : Hid _ := HM3.out.on hb
  clear hb HM3 q0 q1 q2 q3 q4 q5 q6 q7 q8 q9 q10
  have hR := HM4.out.r
  rw [hq] at hR
  have q0 : W4.cell? ⟨q, 0, none⟩ = some (.int .i64 (yn : Int)) := hR.cell (i := 0) (by omega)
  have q1 : W4.cell? ⟨q, 1, none⟩ = some (.int .i64 (mn : Int)) := hR.cell (i := 1) (by omega)
  have q2 : W4.cell? ⟨q, 2, none⟩ = some (.int .i64 (dn : Int)) := hR.cell (i := 2) (by omega)
  have q3 : W4.cell? ⟨q, 3, none⟩ = some (.int .i64 1) := hR.cell (i := 3) (by omega)
  have q4 : W4.cell? ⟨q, 4, none⟩ = some (.int .i64 (hn : Int)) := hR.cell (i := 4) (by omega)
  have q5 : W4.cell? ⟨q, 5, none⟩ = some (.int .i64 (min : Int)) := hR.cell (i := 5) (by omega)
  have q6 : W4.cell? ⟨q, 6, none⟩ = some (.int .i64 (sn : Int)) := hR.cell (i := 6) (by omega)
  have q7 : W4.cell? ⟨q, 7, none⟩ = some (.int .i64 (cn : Int)) := hR.cell (i := 7) (by omega)
  have q8 : W4.cell? ⟨q, 8, none⟩ = some (.int .i64 (pn : Int)) := hR.cell (i := 8) (by omega)
  have q9 : W4.cell? ⟨q, 9, none⟩ = some (.bool true) := hR.cell (i := 9) (by omega)
  have q10 : W4.cell? ⟨q, 10, none⟩ = some (.int .i64 z) := hR.cell (i := 10) (by omega)
  clear hR
  have hM := HM4.out
  have hB : MN w W4.drew 50 11 (mf yn mn dn 1 hn min sn cn pn true z) := ⟨hM.r, hM.e, hM.b.drew⟩
  go_wp2
  go_region_held3 (fun w' => w'.cell? ⟨q, 10, none⟩ = some (.int .i64 z)) (first | exact hB.c10 hq | exact (cell_set_off hqq).trans (hB.c10 hq) | exact (cell_set_off hqq).trans ((cell_set_off hqq).trans (hB.c10 hq))) (first | (go_at_call 36; refine (c36z _ _ _ ?_).mono ?_; (focus (first | exact hFA | exact hFB)); rintro e W6 ⟨rfl, hb6⟩; replace hB := hB.on hb6) | (go_at_call 34; refine (c34 _).mono ?_; rintro e W6 ⟨rfl, hb6⟩; replace hB := hB.on hb6; have hE6 := hB.e; rw [hq] at hE6; have s0 : W6.cell? ⟨q + 1, 0, none⟩ = some (.slice none 0 0) := hE6.cell (i := 0) (by omega); have s1 : W6.cell? ⟨q + 1, 1, none⟩ = some (.int .i64 0) := hE6.cell (i := 1) (by omega); have sf := fun i => hE6.frozen i; clear hE6))
  all_goals
    have hB10 := hB.b
    rw [hq] at hB10
    go_wp2
    refine bodyPost_ret (v := .tuple #[.string (S ++ ⟨#[43]⟩ ++ pdB A 2 ++ pdB B 2), .agg #[.slice none 0 0, .int .i64 0]]) (by simp [results, Tryd.results23, go_sem, s0, s1]) rfl ⟨_, rfl, rfl, ?_⟩
    rw [hq]
    exact (hB10.setCell (p := ⟨q + 1, 0, none⟩) (Nat.le_succ _) _).setCell (p := ⟨q + 1, 1, none⟩) (Nat.le_succ _) _

set_option maxRecDepth 100000 in
set_option maxHeartbeats 2000000 in
theorem prt23_2zf (w : World) (yn mn dn : Nat) (z : Int) (a1 : yn ≤ 9999) (a2 : mn ≤ 99) (c51 : ∀ W, Calls Tryd.prog 51 #[mv yn mn dn 2 0 0 0 0 0 false z] W fun e w' => e = .returned (.int .i64 (-1)) ∧ Below W.heap.size W w') (S : ByteArray) (hS : (pdB yn 4 ++ pdB mn 2) = S) : Calls Tryd.prog 23 #[mv yn mn dn 2 0 0 0 0 0 false z] w (PostF w (.string (S)) none) := by
  obtain ⟨q, hq⟩ : ∃ q, w.heap.size = q := ⟨_, rfl⟩
  obtain ⟨W1, hW1⟩ : ∃ W1, w.alloc (.cells #[.int .i64 (yn : Int), .int .i64 (mn : Int), .int .i64 (dn : Int), .int .i64 2, .int .i64 0, .int .i64 0, .int .i64 0, .int .i64 0, .int .i64 0, .bool false, .int .i64 z] 50) = W1 := ⟨_, rfl⟩
  obtain ⟨W, hW⟩ : ∃ W, W1.alloc (.cells #[.slice none 0 0, .int .i64 0] 37) = W := ⟨_, rfl⟩
  have hs1 : W1.heap.size = q + 1 := by rw [← hW1, ← hq]; simp
  have HM : Hid (MN w W 50 11 (mf yn mn dn 2 0 0 0 0 0 false z)) := by
    show MN _ _ _ _ _
    rw [← hW, ← hW1]
    exact MN.start w _ 50
  have hR := HM.out.r
  rw [hq] at hR
  have q0 : W.cell? ⟨q, 0, none⟩ = some (.int .i64 (yn : Int)) := hR.cell (i := 0) (by omega)
  have q1 : W.cell? ⟨q, 1, none⟩ = some (.int .i64 (mn : Int)) := hR.cell (i := 1) (by omega)
  have q2 : W.cell? ⟨q, 2, none⟩ = some (.int .i64 (dn : Int)) := hR.cell (i := 2) (by omega)
  have q3 : W.cell? ⟨q, 3, none⟩ = some (.int .i64 2) := hR.cell (i := 3) (by omega)
  have q4 : W.cell? ⟨q, 4, none⟩ = some (.int .i64 0) := hR.cell (i := 4) (by omega)
  have q5 : W.cell? ⟨q, 5, none⟩ = some (.int .i64 0) := hR.cell (i := 5) (by omega)
  have q6 : W.cell? ⟨q, 6, none⟩ = some (.int .i64 0) := hR.cell (i := 6) (by omega)
  have q7 : W.cell? ⟨q, 7, none⟩ = some (.int .i64 0) := hR.cell (i := 7) (by omega)
  have q8 : W.cell? ⟨q, 8, none⟩ = some (.int .i64 0) := hR.cell (i := 8) (by omega)
  have q9 : W.cell? ⟨q, 9, none⟩ = some (.bool false) := hR.cell (i := 9) (by omega)
  have q10 : W.cell? ⟨q, 10, none⟩ = some (.int .i64 z) := hR.cell (i := 10) (by omega)
  clear hR
  have c36 : ∀ (W : World) (n k : Nat), n ≤ 999999 → k ≤ 6 → Calls Tryd.prog 36 #[.int .i64 (n : Int), .int .i64 (k : Int)] W fun e w' => e = .returned (.string (pdB n k)) ∧ Below W.heap.size W w' := fun W n k hn hk => pad6_any W n k hn hk
  have c34 := fun W' => none34_any W'
  have zy : (pdB yn 4).size = 4 := pdB_size _ _
  have zm : (pdB mn 2).size = 2 := pdB_size _ _
  have zdd : (pdB dn 2).size = 2 := pdB_size _ _
  have zym : (pdB yn 4 ++ pdB mn 2).size = 6 := by rw [ByteArray.size_append, zy, zm]
  have zymd : (pdB yn 4 ++ pdB mn 2 ++ pdB dn 2).size = 8 := by rw [ByteArray.size_append, zym, zdd]
  have hSs : S.size ≤ 21 := by rw [← hS, zym]; omega
  unfold mv at *
  have HS : Hid _ := hS
  go_enter Tryd.func23, Tryd.ntmps23
  go_wp2_with (go_at_call 51; refine Stop.mk ?_)
  refine Stop.out ((c51 _).mono ?_)
  rintro e W2 ⟨rfl, hb2⟩
  have HM2 : Hid _ := HM.out.on hb2
  clear hb2 c51 HM q0 q1 q2 q3 q4 q5 q6 q7 q8 q9 q10
  have hR := HM2.out.r
  rw [hq] at hR
  have q0 : W2.cell? ⟨q, 0, none⟩ = some (.int .i64 (yn : Int)) := hR.cell (i := 0) (by omega)
  have q1 : W2.cell? ⟨q, 1, none⟩ = some (.int .i64 (mn : Int)) := hR.cell (i := 1) (by omega)
  have q2 : W2.cell? ⟨q, 2, none⟩ = some (.int .i64 (dn : Int)) := hR.cell (i := 2) (by omega)
  have q3 : W2.cell? ⟨q, 3, none⟩ = some (.int .i64 2) := hR.cell (i := 3) (by omega)
  have q4 : W2.cell? ⟨q, 4, none⟩ = some (.int .i64 0) := hR.cell (i := 4) (by omega)
  have q5 : W2.cell? ⟨q, 5, none⟩ = some (.int .i64 0) := hR.cell (i := 5) (by omega)
  have q6 : W2.cell? ⟨q, 6, none⟩ = some (.int .i64 0) := hR.cell (i := 6) (by omega)
  have q7 : W2.cell? ⟨q, 7, none⟩ = some (.int .i64 0) := hR.cell (i := 7) (by omega)
  have q8 : W2.cell? ⟨q, 8, none⟩ = some (.int .i64 0) := hR.cell (i := 8) (by omega)
  have q9 : W2.cell? ⟨q, 9, none⟩ = some (.bool false) := hR.cell (i := 9) (by omega)
  have q10 : W2.cell? ⟨q, 10, none⟩ = some (.int .i64 z) := hR.cell (i := 10) (by omega)
  clear hR
  go_wp2_with (go_at_call 36; refine Stop.mk ?_)
  refine Stop.out ((c36 _ yn 4 (by omega) (by omega)).mono ?_)
  rintro e W3 ⟨rfl, hb⟩
  have HM3 : Hid _ := HM2.out.on hb
  clear hb HM2 q0 q1 q2 q3 q4 q5 q6 q7 q8 q9 q10
  have hR := HM3.out.r
  rw [hq] at hR
  have q0 : W3.cell? ⟨q, 0, none⟩ = some (.int .i64 (yn : Int)) := hR.cell (i := 0) (by omega)
  have q1 : W3.cell? ⟨q, 1, none⟩ = some (.int .i64 (mn : Int)) := hR.cell (i := 1) (by omega)
  have q2 : W3.cell? ⟨q, 2, none⟩ = some (.int .i64 (dn : Int)) := hR.cell (i := 2) (by omega)
  have q3 : W3.cell? ⟨q, 3, none⟩ = some (.int .i64 2) := hR.cell (i := 3) (by omega)
  have q4 : W3.cell? ⟨q, 4, none⟩ = some (.int .i64 0) := hR.cell (i := 4) (by omega)
  have q5 : W3.cell? ⟨q, 5, none⟩ = some (.int .i64 0) := hR.cell (i := 5) (by omega)
  have q6 : W3.cell? ⟨q, 6, none⟩ = some (.int .i64 0) := hR.cell (i := 6) (by omega)
  have q7 : W3.cell? ⟨q, 7, none⟩ = some (.int .i64 0) := hR.cell (i := 7) (by omega)
  have q8 : W3.cell? ⟨q, 8, none⟩ = some (.int .i64 0) := hR.cell (i := 8) (by omega)
  have q9 : W3.cell? ⟨q, 9, none⟩ = some (.bool false) := hR.cell (i := 9) (by omega)
  have q10 : W3.cell? ⟨q, 10, none⟩ = some (.int .i64 z) := hR.cell (i := 10) (by omega)
  clear hR
  go_wp2_with (go_at_call 36; refine Stop.mk ?_)
  refine Stop.out ((c36 _ mn 2 (by omega) (by omega)).mono ?_)
  rintro e W4 ⟨rfl, hb⟩
  have HM4 : Hid _ := HM3.out.on hb
  clear hb HM3 q0 q1 q2 q3 q4 q5 q6 q7 q8 q9 q10
  have hR := HM4.out.r
  rw [hq] at hR
  have q0 : W4.cell? ⟨q, 0, none⟩ = some (.int .i64 (yn : Int)) := hR.cell (i := 0) (by omega)
  have q1 : W4.cell? ⟨q, 1, none⟩ = some (.int .i64 (mn : Int)) := hR.cell (i := 1) (by omega)
  have q2 : W4.cell? ⟨q, 2, none⟩ = some (.int .i64 (dn : Int)) := hR.cell (i := 2) (by omega)
  have q3 : W4.cell? ⟨q, 3, none⟩ = some (.int .i64 2) := hR.cell (i := 3) (by omega)
  have q4 : W4.cell? ⟨q, 4, none⟩ = some (.int .i64 0) := hR.cell (i := 4) (by omega)
  have q5 : W4.cell? ⟨q, 5, none⟩ = some (.int .i64 0) := hR.cell (i := 5) (by omega)
  have q6 : W4.cell? ⟨q, 6, none⟩ = some (.int .i64 0) := hR.cell (i := 6) (by omega)
  have q7 : W4.cell? ⟨q, 7, none⟩ = some (.int .i64 0) := hR.cell (i := 7) (by omega)
  have q8 : W4.cell? ⟨q, 8, none⟩ = some (.int .i64 0) := hR.cell (i := 8) (by omega)
  have q9 : W4.cell? ⟨q, 9, none⟩ = some (.bool false) := hR.cell (i := 9) (by omega)
  have q10 : W4.cell? ⟨q, 10, none⟩ = some (.int .i64 z) := hR.cell (i := 10) (by omega)
  clear hR
  go_wp2_with (go_at_call 34; refine Stop.mk ?_)
  refine Stop.out ((c34 _).mono ?_)
  rintro e W9 ⟨rfl, hb⟩
  have HM9 : Hid _ := HM4.out.on hb
  clear hb
  have hM9 := HM9.out
  have hE9 := hM9.e
  have hB9 := hM9.b
  rw [hq] at hE9 hB9
  have s0 : W9.cell? ⟨q + 1, 0, none⟩ = some (.slice none 0 0) := hE9.cell (i := 0) (by omega)
  have s1 : W9.cell? ⟨q + 1, 1, none⟩ = some (.int .i64 0) := hE9.cell (i := 1) (by omega)
  have sf := fun i => hE9.frozen i
  have HB9 : Hid _ := hB9
  clear hM9 hE9 hB9
  go_wp2
  refine bodyPost_ret (v := .tuple #[.string (S), .agg #[.slice none 0 0, .int .i64 0]]) (by simp [results, Tryd.results23, go_sem, s0, s1]) rfl ⟨_, rfl, rfl, ?_⟩
  rw [hq]
  exact (HB9.out.setCell (p := ⟨q + 1, 0, none⟩) (Nat.le_succ _) _).setCell (p := ⟨q + 1, 1, none⟩) (Nat.le_succ _) _

set_option maxRecDepth 100000 in
set_option maxHeartbeats 2000000 in
theorem prt23_2zn (w : World) (yn mn dn : Nat) (z : Int) (a1 : yn ≤ 9999) (a2 : mn ≤ 99) (hz : z < 0) (hz2 : -720 ≤ z) (A B : Nat) (hA : - z / 60 = (A : Int)) (hB0 : - z % 60 = (B : Int)) (c51 : ∀ W, Calls Tryd.prog 51 #[mv yn mn dn 2 0 0 0 0 0 true z] W fun e w' => e = .returned (.int .i64 (-1)) ∧ Below W.heap.size W w') (S : ByteArray) (hS : (pdB yn 4 ++ pdB mn 2) = S) : Calls Tryd.prog 23 #[mv yn mn dn 2 0 0 0 0 0 true z] w (PostF w (.string (S ++ ⟨#[45]⟩ ++ pdB A 2 ++ pdB B 2)) none) := by
  obtain ⟨q, hq⟩ : ∃ q, w.heap.size = q := ⟨_, rfl⟩
  obtain ⟨W1, hW1⟩ : ∃ W1, w.alloc (.cells #[.int .i64 (yn : Int), .int .i64 (mn : Int), .int .i64 (dn : Int), .int .i64 2, .int .i64 0, .int .i64 0, .int .i64 0, .int .i64 0, .int .i64 0, .bool true, .int .i64 z] 50) = W1 := ⟨_, rfl⟩
  obtain ⟨W, hW⟩ : ∃ W, W1.alloc (.cells #[.slice none 0 0, .int .i64 0] 37) = W := ⟨_, rfl⟩
  have hs1 : W1.heap.size = q + 1 := by rw [← hW1, ← hq]; simp
  have HM : Hid (MN w W 50 11 (mf yn mn dn 2 0 0 0 0 0 true z)) := by
    show MN _ _ _ _ _
    rw [← hW, ← hW1]
    exact MN.start w _ 50
  have hR := HM.out.r
  rw [hq] at hR
  have q0 : W.cell? ⟨q, 0, none⟩ = some (.int .i64 (yn : Int)) := hR.cell (i := 0) (by omega)
  have q1 : W.cell? ⟨q, 1, none⟩ = some (.int .i64 (mn : Int)) := hR.cell (i := 1) (by omega)
  have q2 : W.cell? ⟨q, 2, none⟩ = some (.int .i64 (dn : Int)) := hR.cell (i := 2) (by omega)
  have q3 : W.cell? ⟨q, 3, none⟩ = some (.int .i64 2) := hR.cell (i := 3) (by omega)
  have q4 : W.cell? ⟨q, 4, none⟩ = some (.int .i64 0) := hR.cell (i := 4) (by omega)
  have q5 : W.cell? ⟨q, 5, none⟩ = some (.int .i64 0) := hR.cell (i := 5) (by omega)
  have q6 : W.cell? ⟨q, 6, none⟩ = some (.int .i64 0) := hR.cell (i := 6) (by omega)
  have q7 : W.cell? ⟨q, 7, none⟩ = some (.int .i64 0) := hR.cell (i := 7) (by omega)
  have q8 : W.cell? ⟨q, 8, none⟩ = some (.int .i64 0) := hR.cell (i := 8) (by omega)
  have q9 : W.cell? ⟨q, 9, none⟩ = some (.bool true) := hR.cell (i := 9) (by omega)
  have q10 : W.cell? ⟨q, 10, none⟩ = some (.int .i64 z) := hR.cell (i := 10) (by omega)
  clear hR
  have c36 : ∀ (W : World) (n k : Nat), n ≤ 999999 → k ≤ 6 → Calls Tryd.prog 36 #[.int .i64 (n : Int), .int .i64 (k : Int)] W fun e w' => e = .returned (.string (pdB n k)) ∧ Below W.heap.size W w' := fun W n k hn hk => pad6_any W n k hn hk
  have c34 := fun W' => none34_any W'
  have zy : (pdB yn 4).size = 4 := pdB_size _ _
  have zm : (pdB mn 2).size = 2 := pdB_size _ _
  have zdd : (pdB dn 2).size = 2 := pdB_size _ _
  have zym : (pdB yn 4 ++ pdB mn 2).size = 6 := by rw [ByteArray.size_append, zy, zm]
  have zymd : (pdB yn 4 ++ pdB mn 2 ++ pdB dn 2).size = 8 := by rw [ByteArray.size_append, zym, zdd]
  have hSs : S.size ≤ 21 := by rw [← hS, zym]; omega
  have hA9 : A ≤ 99 := by omega
  have hB9 : B ≤ 99 := by omega
  have zA : (pdB A 2).size = 2 := pdB_size _ _
  have zB : (pdB B 2).size = 2 := pdB_size _ _
  obtain ⟨ns, hns⟩ : ∃ ns, S.size = ns := ⟨_, rfl⟩
  have y1 : (S ++ (⟨#[45]⟩ : ByteArray)).size = ns + 1 := by rw [ByteArray.size_append, hns]; rfl
  have y2 : (S ++ (⟨#[45]⟩ : ByteArray) ++ pdB A 2).size = ns + 3 := by rw [ByteArray.size_append, y1, zA]
  rw [hns] at hSs
  have w1 : ¬ (9223372036854775807 < ns + 1) := by omega
  have w2 : ¬ (9223372036854775807 < ns + 1 + 2) := by omega
  have w3 : ¬ (9223372036854775807 < ns + 3 + 2) := by omega
  have w1' : ns + 1 ≤ 9223372036854775807 := by omega
  have w2' : ns + 1 + 2 ≤ 9223372036854775807 := by omega
  have w3' : ns + 3 + 2 ≤ 9223372036854775807 := by omega
  have hzI : decide (z < 0) = true := by simp; omega
  have hFA : Fit6 (A : Int) 2 := ⟨A, 2, rfl, rfl, by omega, by omega, by omega, by omega⟩
  have hFB : Fit6 (B : Int) 2 := ⟨B, 2, rfl, rfl, by omega, by omega, by omega, by omega⟩
  have c36z : ∀ (W : World) (nI kI : Int), Fit6 nI kI → Calls Tryd.prog 36 #[.int .i64 nI, .int .i64 kI] W fun e w' => e = .returned (.string (pdB nI.toNat kI.toNat)) ∧ Below W.heap.size W w' := by
    rintro W nI kI ⟨n, k, rfl, rfl, _, _, hk, hn⟩
    exact pad6_any W n k hn hk
  obtain ⟨zn, hzn⟩ : ∃ zn : Int, - z = zn := ⟨_, rfl⟩
  have hz0 : 0 ≤ zn := by omega
  have hz9 : zn ≤ 720 := by omega
  have fz : IntKind.i64.wrap zn = zn := by rw [IntKind.wrap_i64]; omega
  rw [hzn] at hA hB0
  have f3 : Int.tdiv zn 60 = (A : Int) := by rw [Int.tdiv_eq_ediv_of_nonneg (by omega)]; exact hA
  have f2 : Int.tmod zn 60 = (B : Int) := by rw [Int.tmod_eq_emod_of_nonneg (by omega)]; exact hB0
  have fA : IntKind.i64.wrap (A : Int) = (A : Int) := by rw [IntKind.wrap_i64]; omega
  have fB : IntKind.i64.wrap (B : Int) = (B : Int) := by rw [IntKind.wrap_i64]; omega
  have hqq : q + 1 ≠ q := by omega
  unfold mv at *
  have HS : Hid _ := hS
  go_enter Tryd.func23, Tryd.ntmps23
  go_wp2_with (go_at_call 51; refine Stop.mk ?_)
  refine Stop.out ((c51 _).mono ?_)
  rintro e W2 ⟨rfl, hb2⟩
  have HM2 : Hid _ := HM.out.on hb2
  clear hb2 c51 HM q0 q1 q2 q3 q4 q5 q6 q7 q8 q9 q10
  have hR := HM2.out.r
  rw [hq] at hR
  have q0 : W2.cell? ⟨q, 0, none⟩ = some (.int .i64 (yn : Int)) := hR.cell (i := 0) (by omega)
  have q1 : W2.cell? ⟨q, 1, none⟩ = some (.int .i64 (mn : Int)) := hR.cell (i := 1) (by omega)
  have q2 : W2.cell? ⟨q, 2, none⟩ = some (.int .i64 (dn : Int)) := hR.cell (i := 2) (by omega)
  have q3 : W2.cell? ⟨q, 3, none⟩ = some (.int .i64 2) := hR.cell (i := 3) (by omega)
  have q4 : W2.cell? ⟨q, 4, none⟩ = some (.int .i64 0) := hR.cell (i := 4) (by omega)
  have q5 : W2.cell? ⟨q, 5, none⟩ = some (.int .i64 0) := hR.cell (i := 5) (by omega)
  have q6 : W2.cell? ⟨q, 6, none⟩ = some (.int .i64 0) := hR.cell (i := 6) (by omega)
  have q7 : W2.cell? ⟨q, 7, none⟩ = some (.int .i64 0) := hR.cell (i := 7) (by omega)
  have q8 : W2.cell? ⟨q, 8, none⟩ = some (.int .i64 0) := hR.cell (i := 8) (by omega)
  have q9 : W2.cell? ⟨q, 9, none⟩ = some (.bool true) := hR.cell (i := 9) (by omega)
  have q10 : W2.cell? ⟨q, 10, none⟩ = some (.int .i64 z) := hR.cell (i := 10) (by omega)
  clear hR
  go_wp2_with (go_at_call 36; refine Stop.mk ?_)
  refine Stop.out ((c36 _ yn 4 (by omega) (by omega)).mono ?_)
  rintro e W3 ⟨rfl, hb⟩
  have HM3 : Hid _ := HM2.out.on hb
  clear hb HM2 q0 q1 q2 q3 q4 q5 q6 q7 q8 q9 q10
  have hR := HM3.out.r
  rw [hq] at hR
  have q0 : W3.cell? ⟨q, 0, none⟩ = some (.int .i64 (yn : Int)) := hR.cell (i := 0) (by omega)
  have q1 : W3.cell? ⟨q, 1, none⟩ = some (.int .i64 (mn : Int)) := hR.cell (i := 1) (by omega)
  have q2 : W3.cell? ⟨q, 2, none⟩ = some (.int .i64 (dn : Int)) := hR.cell (i := 2) (by omega)
  have q3 : W3.cell? ⟨q, 3, none⟩ = some (.int .i64 2) := hR.cell (i := 3) (by omega)
  have q4 : W3.cell? ⟨q, 4, none⟩ = some (.int .i64 0) := hR.cell (i := 4) (by omega)
  have q5 : W3.cell? ⟨q, 5, none⟩ = some (.int .i64 0) := hR.cell (i := 5) (by omega)
  have q6 : W3.cell? ⟨q, 6, none⟩ = some (.int .i64 0) := hR.cell (i := 6) (by omega)
  have q7 : W3.cell? ⟨q, 7, none⟩ = some (.int .i64 0) := hR.cell (i := 7) (by omega)
  have q8 : W3.cell? ⟨q, 8, none⟩ = some (.int .i64 0) := hR.cell (i := 8) (by omega)
  have q9 : W3.cell? ⟨q, 9, none⟩ = some (.bool true) := hR.cell (i := 9) (by omega)
  have q10 : W3.cell? ⟨q, 10, none⟩ = some (.int .i64 z) := hR.cell (i := 10) (by omega)
  clear hR
  go_wp2_with (go_at_call 36; refine Stop.mk ?_)
  refine Stop.out ((c36 _ mn 2 (by omega) (by omega)).mono ?_)
  rintro e W4 ⟨rfl, hb⟩
  have HM4 : Hid _ := HM3.out.on hb
  clear hb HM3 q0 q1 q2 q3 q4 q5 q6 q7 q8 q9 q10
  have hR := HM4.out.r
  rw [hq] at hR
  have q0 : W4.cell? ⟨q, 0, none⟩ = some (.int .i64 (yn : Int)) := hR.cell (i := 0) (by omega)
  have q1 : W4.cell? ⟨q, 1, none⟩ = some (.int .i64 (mn : Int)) := hR.cell (i := 1) (by omega)
  have q2 : W4.cell? ⟨q, 2, none⟩ = some (.int .i64 (dn : Int)) := hR.cell (i := 2) (by omega)
  have q3 : W4.cell? ⟨q, 3, none⟩ = some (.int .i64 2) := hR.cell (i := 3) (by omega)
  have q4 : W4.cell? ⟨q, 4, none⟩ = some (.int .i64 0) := hR.cell (i := 4) (by omega)
  have q5 : W4.cell? ⟨q, 5, none⟩ = some (.int .i64 0) := hR.cell (i := 5) (by omega)
  have q6 : W4.cell? ⟨q, 6, none⟩ = some (.int .i64 0) := hR.cell (i := 6) (by omega)
  have q7 : W4.cell? ⟨q, 7, none⟩ = some (.int .i64 0) := hR.cell (i := 7) (by omega)
  have q8 : W4.cell? ⟨q, 8, none⟩ = some (.int .i64 0) := hR.cell (i := 8) (by omega)
  have q9 : W4.cell? ⟨q, 9, none⟩ = some (.bool true) := hR.cell (i := 9) (by omega)
  have q10 : W4.cell? ⟨q, 10, none⟩ = some (.int .i64 z) := hR.cell (i := 10) (by omega)
  clear hR
  have hM := HM4.out
  have hB : MN w W4.drew 50 11 (mf yn mn dn 2 0 0 0 0 0 true z) := ⟨hM.r, hM.e, hM.b.drew⟩
  go_wp2
  go_region_held3 (fun w' => w'.cell? ⟨q, 10, none⟩ = some (.int .i64 z)) (first | exact hB.c10 hq | exact (cell_set_off hqq).trans (hB.c10 hq) | exact (cell_set_off hqq).trans ((cell_set_off hqq).trans (hB.c10 hq))) (first | (go_at_call 36; refine (c36z _ _ _ ?_).mono ?_; (focus (first | exact hFA | exact hFB)); rintro e W6 ⟨rfl, hb6⟩; replace hB := hB.on hb6) | (go_at_call 34; refine (c34 _).mono ?_; rintro e W6 ⟨rfl, hb6⟩; replace hB := hB.on hb6; have hE6 := hB.e; rw [hq] at hE6; have s0 : W6.cell? ⟨q + 1, 0, none⟩ = some (.slice none 0 0) := hE6.cell (i := 0) (by omega); have s1 : W6.cell? ⟨q + 1, 1, none⟩ = some (.int .i64 0) := hE6.cell (i := 1) (by omega); have sf := fun i => hE6.frozen i; clear hE6))
  all_goals
    have hB10 := hB.b
    rw [hq] at hB10
    go_wp2
    refine bodyPost_ret (v := .tuple #[.string (S ++ ⟨#[45]⟩ ++ pdB A 2 ++ pdB B 2), .agg #[.slice none 0 0, .int .i64 0]]) (by simp [results, Tryd.results23, go_sem, s0, s1]) rfl ⟨_, rfl, rfl, ?_⟩
    rw [hq]
    exact (hB10.setCell (p := ⟨q + 1, 0, none⟩) (Nat.le_succ _) _).setCell (p := ⟨q + 1, 1, none⟩) (Nat.le_succ _) _

set_option maxRecDepth 100000 in
set_option maxHeartbeats 2000000 in
theorem prt23_2zp (w : World) (yn mn dn : Nat) (z : Int) (a1 : yn ≤ 9999) (a2 : mn ≤ 99) (hz : 0 ≤ z) (hz2 : z ≤ 840) (A B : Nat) (hA : z / 60 = (A : Int)) (hB0 : z % 60 = (B : Int)) (c51 : ∀ W, Calls Tryd.prog 51 #[mv yn mn dn 2 0 0 0 0 0 true z] W fun e w' => e = .returned (.int .i64 (-1)) ∧ Below W.heap.size W w') (S : ByteArray) (hS : (pdB yn 4 ++ pdB mn 2) = S) : Calls Tryd.prog 23 #[mv yn mn dn 2 0 0 0 0 0 true z] w (PostF w (.string (S ++ ⟨#[43]⟩ ++ pdB A 2 ++ pdB B 2)) none) := by
  obtain ⟨q, hq⟩ : ∃ q, w.heap.size = q := ⟨_, rfl⟩
  obtain ⟨W1, hW1⟩ : ∃ W1, w.alloc (.cells #[.int .i64 (yn : Int), .int .i64 (mn : Int), .int .i64 (dn : Int), .int .i64 2, .int .i64 0, .int .i64 0, .int .i64 0, .int .i64 0, .int .i64 0, .bool true, .int .i64 z] 50) = W1 := ⟨_, rfl⟩
  obtain ⟨W, hW⟩ : ∃ W, W1.alloc (.cells #[.slice none 0 0, .int .i64 0] 37) = W := ⟨_, rfl⟩
  have hs1 : W1.heap.size = q + 1 := by rw [← hW1, ← hq]; simp
  have HM : Hid (MN w W 50 11 (mf yn mn dn 2 0 0 0 0 0 true z)) := by
    show MN _ _ _ _ _
    rw [← hW, ← hW1]
    exact MN.start w _ 50
  have hR := HM.out.r
  rw [hq] at hR
  have q0 : W.cell? ⟨q, 0, none⟩ = some (.int .i64 (yn : Int)) := hR.cell (i := 0) (by omega)
  have q1 : W.cell? ⟨q, 1, none⟩ = some (.int .i64 (mn : Int)) := hR.cell (i := 1) (by omega)
  have q2 : W.cell? ⟨q, 2, none⟩ = some (.int .i64 (dn : Int)) := hR.cell (i := 2) (by omega)
  have q3 : W.cell? ⟨q, 3, none⟩ = some (.int .i64 2) := hR.cell (i := 3) (by omega)
  have q4 : W.cell? ⟨q, 4, none⟩ = some (.int .i64 0) := hR.cell (i := 4) (by omega)
  have q5 : W.cell? ⟨q, 5, none⟩ = some (.int .i64 0) := hR.cell (i := 5) (by omega)
  have q6 : W.cell? ⟨q, 6, none⟩ = some (.int .i64 0) := hR.cell (i := 6) (by omega)
  have q7 : W.cell? ⟨q, 7, none⟩ = some (.int .i64 0) := hR.cell (i := 7) (by omega)
  have q8 : W.cell? ⟨q, 8, none⟩ = some (.int .i64 0) := hR.cell (i := 8) (by omega)
  have q9 : W.cell? ⟨q, 9, none⟩ = some (.bool true) := hR.cell (i := 9) (by omega)
  have q10 : W.cell? ⟨q, 10, none⟩ = some (.int .i64 z) := hR.cell (i := 10) (by omega)
  clear hR
  have c36 : ∀ (W : World) (n k : Nat), n ≤ 999999 → k ≤ 6 → Calls Tryd.prog 36 #[.int .i64 (n : Int), .int .i64 (k : Int)] W fun e w' => e = .returned (.string (pdB n k)) ∧ Below W.heap.size W w' := fun W n k hn hk => pad6_any W n k hn hk
  have c34 := fun W' => none34_any W'
  have zy : (pdB yn 4).size = 4 := pdB_size _ _
  have zm : (pdB mn 2).size = 2 := pdB_size _ _
  have zdd : (pdB dn 2).size = 2 := pdB_size _ _
  have zym : (pdB yn 4 ++ pdB mn 2).size = 6 := by rw [ByteArray.size_append, zy, zm]
  have zymd : (pdB yn 4 ++ pdB mn 2 ++ pdB dn 2).size = 8 := by rw [ByteArray.size_append, zym, zdd]
  have hSs : S.size ≤ 21 := by rw [← hS, zym]; omega
  have hA9 : A ≤ 99 := by omega
  have hB9 : B ≤ 99 := by omega
  have zA : (pdB A 2).size = 2 := pdB_size _ _
  have zB : (pdB B 2).size = 2 := pdB_size _ _
  obtain ⟨ns, hns⟩ : ∃ ns, S.size = ns := ⟨_, rfl⟩
  have y1 : (S ++ (⟨#[43]⟩ : ByteArray)).size = ns + 1 := by rw [ByteArray.size_append, hns]; rfl
  have y2 : (S ++ (⟨#[43]⟩ : ByteArray) ++ pdB A 2).size = ns + 3 := by rw [ByteArray.size_append, y1, zA]
  rw [hns] at hSs
  have w1 : ¬ (9223372036854775807 < ns + 1) := by omega
  have w2 : ¬ (9223372036854775807 < ns + 1 + 2) := by omega
  have w3 : ¬ (9223372036854775807 < ns + 3 + 2) := by omega
  have w1' : ns + 1 ≤ 9223372036854775807 := by omega
  have w2' : ns + 1 + 2 ≤ 9223372036854775807 := by omega
  have w3' : ns + 3 + 2 ≤ 9223372036854775807 := by omega
  have hzI : decide (z < 0) = false := by simp; omega
  have hFA : Fit6 (A : Int) 2 := ⟨A, 2, rfl, rfl, by omega, by omega, by omega, by omega⟩
  have hFB : Fit6 (B : Int) 2 := ⟨B, 2, rfl, rfl, by omega, by omega, by omega, by omega⟩
  have c36z : ∀ (W : World) (nI kI : Int), Fit6 nI kI → Calls Tryd.prog 36 #[.int .i64 nI, .int .i64 kI] W fun e w' => e = .returned (.string (pdB nI.toNat kI.toNat)) ∧ Below W.heap.size W w' := by
    rintro W nI kI ⟨n, k, rfl, rfl, _, _, hk, hn⟩
    exact pad6_any W n k hn hk
  have f3 : Int.tdiv z 60 = (A : Int) := by rw [Int.tdiv_eq_ediv_of_nonneg (by omega)]; exact hA
  have f2 : Int.tmod z 60 = (B : Int) := by rw [Int.tmod_eq_emod_of_nonneg (by omega)]; exact hB0
  have fA : IntKind.i64.wrap (A : Int) = (A : Int) := by rw [IntKind.wrap_i64]; omega
  have fB : IntKind.i64.wrap (B : Int) = (B : Int) := by rw [IntKind.wrap_i64]; omega
  have hqq : q + 1 ≠ q := by omega
  unfold mv at *
  have HS : Hid _ := hS
  go_enter Tryd.func23, Tryd.ntmps23
  go_wp2_with (go_at_call 51; refine Stop.mk ?_)
  refine Stop.out ((c51 _).mono ?_)
  rintro e W2 ⟨rfl, hb2⟩
  have HM2 : Hid _ := HM.out.on hb2
  clear hb2 c51 HM q0 q1 q2 q3 q4 q5 q6 q7 q8 q9 q10
  have hR := HM2.out.r
  rw [hq] at hR
  have q0 : W2.cell? ⟨q, 0, none⟩ = some (.int .i64 (yn : Int)) := hR.cell (i := 0) (by omega)
  have q1 : W2.cell? ⟨q, 1, none⟩ = some (.int .i64 (mn : Int)) := hR.cell (i := 1) (by omega)
  have q2 : W2.cell? ⟨q, 2, none⟩ = some (.int .i64 (dn : Int)) := hR.cell (i := 2) (by omega)
  have q3 : W2.cell? ⟨q, 3, none⟩ = some (.int .i64 2) := hR.cell (i := 3) (by omega)
  have q4 : W2.cell? ⟨q, 4, none⟩ = some (.int .i64 0) := hR.cell (i := 4) (by omega)
  have q5 : W2.cell? ⟨q, 5, none⟩ = some (.int .i64 0) := hR.cell (i := 5) (by omega)
  have q6 : W2.cell? ⟨q, 6, none⟩ = some (.int .i64 0) := hR.cell (i := 6) (by omega)
  have q7 : W2.cell? ⟨q, 7, none⟩ = some (.int .i64 0) := hR.cell (i := 7) (by omega)
  have q8 : W2.cell? ⟨q, 8, none⟩ = some (.int .i64 0) := hR.cell (i := 8) (by omega)
  have q9 : W2.cell? ⟨q, 9, none⟩ = some (.bool true) := hR.cell (i := 9) (by omega)
  have q10 : W2.cell? ⟨q, 10, none⟩ = some (.int .i64 z) := hR.cell (i := 10) (by omega)
  clear hR
  go_wp2_with (go_at_call 36; refine Stop.mk ?_)
  refine Stop.out ((c36 _ yn 4 (by omega) (by omega)).mono ?_)
  rintro e W3 ⟨rfl, hb⟩
  have HM3 : Hid _ := HM2.out.on hb
  clear hb HM2 q0 q1 q2 q3 q4 q5 q6 q7 q8 q9 q10
  have hR := HM3.out.r
  rw [hq] at hR
  have q0 : W3.cell? ⟨q, 0, none⟩ = some (.int .i64 (yn : Int)) := hR.cell (i := 0) (by omega)
  have q1 : W3.cell? ⟨q, 1, none⟩ = some (.int .i64 (mn : Int)) := hR.cell (i := 1) (by omega)
  have q2 : W3.cell? ⟨q, 2, none⟩ = some (.int .i64 (dn : Int)) := hR.cell (i := 2) (by omega)
  have q3 : W3.cell? ⟨q, 3, none⟩ = some (.int .i64 2) := hR.cell (i := 3) (by omega)
  have q4 : W3.cell? ⟨q, 4, none⟩ = some (.int .i64 0) := hR.cell (i := 4) (by omega)
  have q5 : W3.cell? ⟨q, 5, none⟩ = some (.int .i64 0) := hR.cell (i := 5) (by omega)
  have q6 : W3.cell? ⟨q, 6, none⟩ = some (.int .i64 0) := hR.cell (i := 6) (by omega)
  have q7 : W3.cell? ⟨q, 7, none⟩ = some (.int .i64 0) := hR.cell (i := 7) (by omega)
  have q8 : W3.cell? ⟨q, 8, none⟩ = some (.int .i64 0) := hR.cell (i := 8) (by omega)
  have q9 : W3.cell? ⟨q, 9, none⟩ = some (.bool true) := hR.cell (i := 9) (by omega)
  have q10 : W3.cell? ⟨q, 10, none⟩ = some (.int .i64 z) := hR.cell (i := 10) (by omega)
  clear hR
  go_wp2_with (go_at_call 36; refine Stop.mk ?_)
  refine Stop.out ((c36 _ mn 2 (by omega) (by omega)).mono ?_)
  rintro e W4 ⟨rfl, hb⟩
  have HM4 : Hid _ := HM3.out.on hb
  clear hb HM3 q0 q1 q2 q3 q4 q5 q6 q7 q8 q9 q10
  have hR := HM4.out.r
  rw [hq] at hR
  have q0 : W4.cell? ⟨q, 0, none⟩ = some (.int .i64 (yn : Int)) := hR.cell (i := 0) (by omega)
  have q1 : W4.cell? ⟨q, 1, none⟩ = some (.int .i64 (mn : Int)) := hR.cell (i := 1) (by omega)
  have q2 : W4.cell? ⟨q, 2, none⟩ = some (.int .i64 (dn : Int)) := hR.cell (i := 2) (by omega)
  have q3 : W4.cell? ⟨q, 3, none⟩ = some (.int .i64 2) := hR.cell (i := 3) (by omega)
  have q4 : W4.cell? ⟨q, 4, none⟩ = some (.int .i64 0) := hR.cell (i := 4) (by omega)
  have q5 : W4.cell? ⟨q, 5, none⟩ = some (.int .i64 0) := hR.cell (i := 5) (by omega)
  have q6 : W4.cell? ⟨q, 6, none⟩ = some (.int .i64 0) := hR.cell (i := 6) (by omega)
  have q7 : W4.cell? ⟨q, 7, none⟩ = some (.int .i64 0) := hR.cell (i := 7) (by omega)
  have q8 : W4.cell? ⟨q, 8, none⟩ = some (.int .i64 0) := hR.cell (i := 8) (by omega)
  have q9 : W4.cell? ⟨q, 9, none⟩ = some (.bool true) := hR.cell (i := 9) (by omega)
  have q10 : W4.cell? ⟨q, 10, none⟩ = some (.int .i64 z) := hR.cell (i := 10) (by omega)
  clear hR
  have hM := HM4.out
  have hB : MN w W4.drew 50 11 (mf yn mn dn 2 0 0 0 0 0 true z) := ⟨hM.r, hM.e, hM.b.drew⟩
  go_wp2
  go_region_held3 (fun w' => w'.cell? ⟨q, 10, none⟩ = some (.int .i64 z)) (first | exact hB.c10 hq | exact (cell_set_off hqq).trans (hB.c10 hq) | exact (cell_set_off hqq).trans ((cell_set_off hqq).trans (hB.c10 hq))) (first | (go_at_call 36; refine (c36z _ _ _ ?_).mono ?_; (focus (first | exact hFA | exact hFB)); rintro e W6 ⟨rfl, hb6⟩; replace hB := hB.on hb6) | (go_at_call 34; refine (c34 _).mono ?_; rintro e W6 ⟨rfl, hb6⟩; replace hB := hB.on hb6; have hE6 := hB.e; rw [hq] at hE6; have s0 : W6.cell? ⟨q + 1, 0, none⟩ = some (.slice none 0 0) := hE6.cell (i := 0) (by omega); have s1 : W6.cell? ⟨q + 1, 1, none⟩ = some (.int .i64 0) := hE6.cell (i := 1) (by omega); have sf := fun i => hE6.frozen i; clear hE6))
  all_goals
    have hB10 := hB.b
    rw [hq] at hB10
    go_wp2
    refine bodyPost_ret (v := .tuple #[.string (S ++ ⟨#[43]⟩ ++ pdB A 2 ++ pdB B 2), .agg #[.slice none 0 0, .int .i64 0]]) (by simp [results, Tryd.results23, go_sem, s0, s1]) rfl ⟨_, rfl, rfl, ?_⟩
    rw [hq]
    exact (hB10.setCell (p := ⟨q + 1, 0, none⟩) (Nat.le_succ _) _).setCell (p := ⟨q + 1, 1, none⟩) (Nat.le_succ _) _

set_option maxRecDepth 100000 in
set_option maxHeartbeats 2000000 in
theorem prt23_2tf (w : World) (yn mn dn hn min sn cn pn : Nat) (z : Int) (a1 : yn ≤ 9999) (a2 : mn ≤ 99) (b1 : hn ≤ 99) (b2 : min ≤ 99) (b3 : sn ≤ 99) (b4 : cn ≤ 999999) (b5 : 1 ≤ pn) (b6 : pn ≤ 9) (c51 : ∀ W, Calls Tryd.prog 51 #[mv yn mn dn 2 hn min sn cn pn false z] W fun e w' => e = .returned (.int .i64 (-1)) ∧ Below W.heap.size W w') (S : ByteArray) (hS : (pdB yn 4 ++ pdB mn 2) ++ tT hn min sn cn pn = S) : Calls Tryd.prog 23 #[mv yn mn dn 2 hn min sn cn pn false z] w (PostF w (.string (S)) none) := by
  obtain ⟨q, hq⟩ : ∃ q, w.heap.size = q := ⟨_, rfl⟩
  obtain ⟨W1, hW1⟩ : ∃ W1, w.alloc (.cells #[.int .i64 (yn : Int), .int .i64 (mn : Int), .int .i64 (dn : Int), .int .i64 2, .int .i64 (hn : Int), .int .i64 (min : Int), .int .i64 (sn : Int), .int .i64 (cn : Int), .int .i64 (pn : Int), .bool false, .int .i64 z] 50) = W1 := ⟨_, rfl⟩
  obtain ⟨W, hW⟩ : ∃ W, W1.alloc (.cells #[.slice none 0 0, .int .i64 0] 37) = W := ⟨_, rfl⟩
  have hs1 : W1.heap.size = q + 1 := by rw [← hW1, ← hq]; simp
  have HM : Hid (MN w W 50 11 (mf yn mn dn 2 hn min sn cn pn false z)) := by
    show MN _ _ _ _ _
    rw [← hW, ← hW1]
    exact MN.start w _ 50
  have hR := HM.out.r
  rw [hq] at hR
  have q0 : W.cell? ⟨q, 0, none⟩ = some (.int .i64 (yn : Int)) := hR.cell (i := 0) (by omega)
  have q1 : W.cell? ⟨q, 1, none⟩ = some (.int .i64 (mn : Int)) := hR.cell (i := 1) (by omega)
  have q2 : W.cell? ⟨q, 2, none⟩ = some (.int .i64 (dn : Int)) := hR.cell (i := 2) (by omega)
  have q3 : W.cell? ⟨q, 3, none⟩ = some (.int .i64 2) := hR.cell (i := 3) (by omega)
  have q4 : W.cell? ⟨q, 4, none⟩ = some (.int .i64 (hn : Int)) := hR.cell (i := 4) (by omega)
  have q5 : W.cell? ⟨q, 5, none⟩ = some (.int .i64 (min : Int)) := hR.cell (i := 5) (by omega)
  have q6 : W.cell? ⟨q, 6, none⟩ = some (.int .i64 (sn : Int)) := hR.cell (i := 6) (by omega)
  have q7 : W.cell? ⟨q, 7, none⟩ = some (.int .i64 (cn : Int)) := hR.cell (i := 7) (by omega)
  have q8 : W.cell? ⟨q, 8, none⟩ = some (.int .i64 (pn : Int)) := hR.cell (i := 8) (by omega)
  have q9 : W.cell? ⟨q, 9, none⟩ = some (.bool false) := hR.cell (i := 9) (by omega)
  have q10 : W.cell? ⟨q, 10, none⟩ = some (.int .i64 z) := hR.cell (i := 10) (by omega)
  clear hR
  have c36 : ∀ (W : World) (n k : Nat), n ≤ 999999 → k ≤ 6 → Calls Tryd.prog 36 #[.int .i64 (n : Int), .int .i64 (k : Int)] W fun e w' => e = .returned (.string (pdB n k)) ∧ Below W.heap.size W w' := fun W n k hn hk => pad6_any W n k hn hk
  have c34 := fun W' => none34_any W'
  have zy : (pdB yn 4).size = 4 := pdB_size _ _
  have zm : (pdB mn 2).size = 2 := pdB_size _ _
  have zdd : (pdB dn 2).size = 2 := pdB_size _ _
  have zym : (pdB yn 4 ++ pdB mn 2).size = 6 := by rw [ByteArray.size_append, zy, zm]
  have zymd : (pdB yn 4 ++ pdB mn 2 ++ pdB dn 2).size = 8 := by rw [ByteArray.size_append, zym, zdd]
  have c46 := fun W' => text46_any W' hn min sn cn pn b1 b2 b3 b4 b5 b6
  have ht := tT_size hn min sn cn pn b6
  have hpI : decide ((0 : Int) < (pn : Int)) = true := by simp; omega
  generalize tT hn min sn cn pn = TX at *
  have hcat1 : ¬ (9223372036854775807 < (pdB yn 4 ++ pdB mn 2).size + TX.size) := by rw [zym]; omega
  have hcat2 : (pdB yn 4 ++ pdB mn 2).size + TX.size ≤ 9223372036854775807 := by omega
  have hSs : S.size ≤ 21 := by rw [← hS, ByteArray.size_append, zym]; omega
  unfold t5 at c46
  unfold mv at *
  have HS : Hid _ := hS
  go_enter Tryd.func23, Tryd.ntmps23
  go_wp2_with (go_at_call 51; refine Stop.mk ?_)
  refine Stop.out ((c51 _).mono ?_)
  rintro e W2 ⟨rfl, hb2⟩
  have HM2 : Hid _ := HM.out.on hb2
  clear hb2 c51 HM q0 q1 q2 q3 q4 q5 q6 q7 q8 q9 q10
  have hR := HM2.out.r
  rw [hq] at hR
  have q0 : W2.cell? ⟨q, 0, none⟩ = some (.int .i64 (yn : Int)) := hR.cell (i := 0) (by omega)
  have q1 : W2.cell? ⟨q, 1, none⟩ = some (.int .i64 (mn : Int)) := hR.cell (i := 1) (by omega)
  have q2 : W2.cell? ⟨q, 2, none⟩ = some (.int .i64 (dn : Int)) := hR.cell (i := 2) (by omega)
  have q3 : W2.cell? ⟨q, 3, none⟩ = some (.int .i64 2) := hR.cell (i := 3) (by omega)
  have q4 : W2.cell? ⟨q, 4, none⟩ = some (.int .i64 (hn : Int)) := hR.cell (i := 4) (by omega)
  have q5 : W2.cell? ⟨q, 5, none⟩ = some (.int .i64 (min : Int)) := hR.cell (i := 5) (by omega)
  have q6 : W2.cell? ⟨q, 6, none⟩ = some (.int .i64 (sn : Int)) := hR.cell (i := 6) (by omega)
  have q7 : W2.cell? ⟨q, 7, none⟩ = some (.int .i64 (cn : Int)) := hR.cell (i := 7) (by omega)
  have q8 : W2.cell? ⟨q, 8, none⟩ = some (.int .i64 (pn : Int)) := hR.cell (i := 8) (by omega)
  have q9 : W2.cell? ⟨q, 9, none⟩ = some (.bool false) := hR.cell (i := 9) (by omega)
  have q10 : W2.cell? ⟨q, 10, none⟩ = some (.int .i64 z) := hR.cell (i := 10) (by omega)
  clear hR
  go_wp2_with (go_at_call 36; refine Stop.mk ?_)
  refine Stop.out ((c36 _ yn 4 (by omega) (by omega)).mono ?_)
  rintro e W3 ⟨rfl, hb⟩
  have HM3 : Hid _ := HM2.out.on hb
  clear hb HM2 q0 q1 q2 q3 q4 q5 q6 q7 q8 q9 q10
  have hR := HM3.out.r
  rw [hq] at hR
  have q0 : W3.cell? ⟨q, 0, none⟩ = some (.int .i64 (yn : Int)) := hR.cell (i := 0) (by omega)
  have q1 : W3.cell? ⟨q, 1, none⟩ = some (.int .i64 (mn : Int)) := hR.cell (i := 1) (by omega)
  have q2 : W3.cell? ⟨q, 2, none⟩ = some (.int .i64 (dn : Int)) := hR.cell (i := 2) (by omega)
  have q3 : W3.cell? ⟨q, 3, none⟩ = some (.int .i64 2) := hR.cell (i := 3) (by omega)
  have q4 : W3.cell? ⟨q, 4, none⟩ = some (.int .i64 (hn : Int)) := hR.cell (i := 4) (by omega)
  have q5 : W3.cell? ⟨q, 5, none⟩ = some (.int .i64 (min : Int)) := hR.cell (i := 5) (by omega)
  have q6 : W3.cell? ⟨q, 6, none⟩ = some (.int .i64 (sn : Int)) := hR.cell (i := 6) (by omega)
  have q7 : W3.cell? ⟨q, 7, none⟩ = some (.int .i64 (cn : Int)) := hR.cell (i := 7) (by omega)
  have q8 : W3.cell? ⟨q, 8, none⟩ = some (.int .i64 (pn : Int)) := hR.cell (i := 8) (by omega)
  have q9 : W3.cell? ⟨q, 9, none⟩ = some (.bool false) := hR.cell (i := 9) (by omega)
  have q10 : W3.cell? ⟨q, 10, none⟩ = some (.int .i64 z) := hR.cell (i := 10) (by omega)
  clear hR
  go_wp2_with (go_at_call 36; refine Stop.mk ?_)
  refine Stop.out ((c36 _ mn 2 (by omega) (by omega)).mono ?_)
  rintro e W4 ⟨rfl, hb⟩
  have HM4 : Hid _ := HM3.out.on hb
  clear hb HM3 q0 q1 q2 q3 q4 q5 q6 q7 q8 q9 q10
  have hR := HM4.out.r
  rw [hq] at hR
  have q0 : W4.cell? ⟨q, 0, none⟩ = some (.int .i64 (yn : Int)) := hR.cell (i := 0) (by omega)
  have q1 : W4.cell? ⟨q, 1, none⟩ = some (.int .i64 (mn : Int)) := hR.cell (i := 1) (by omega)
  have q2 : W4.cell? ⟨q, 2, none⟩ = some (.int .i64 (dn : Int)) := hR.cell (i := 2) (by omega)
  have q3 : W4.cell? ⟨q, 3, none⟩ = some (.int .i64 2) := hR.cell (i := 3) (by omega)
  have q4 : W4.cell? ⟨q, 4, none⟩ = some (.int .i64 (hn : Int)) := hR.cell (i := 4) (by omega)
  have q5 : W4.cell? ⟨q, 5, none⟩ = some (.int .i64 (min : Int)) := hR.cell (i := 5) (by omega)
  have q6 : W4.cell? ⟨q, 6, none⟩ = some (.int .i64 (sn : Int)) := hR.cell (i := 6) (by omega)
  have q7 : W4.cell? ⟨q, 7, none⟩ = some (.int .i64 (cn : Int)) := hR.cell (i := 7) (by omega)
  have q8 : W4.cell? ⟨q, 8, none⟩ = some (.int .i64 (pn : Int)) := hR.cell (i := 8) (by omega)
  have q9 : W4.cell? ⟨q, 9, none⟩ = some (.bool false) := hR.cell (i := 9) (by omega)
  have q10 : W4.cell? ⟨q, 10, none⟩ = some (.int .i64 z) := hR.cell (i := 10) (by omega)
  clear hR
  go_wp2_with (go_at_call 46; refine Stop.mk ?_)
  refine Stop.out ((c46 _).mono ?_)
  rintro e W5 ⟨rfl, hb⟩
  have HM5 : Hid _ := HM4.out.on hb
  clear hb HM4 q0 q1 q2 q3 q4 q5 q6 q7 q8 q9 q10
  have hR := HM5.out.r
  rw [hq] at hR
  have q0 : W5.cell? ⟨q, 0, none⟩ = some (.int .i64 (yn : Int)) := hR.cell (i := 0) (by omega)
  have q1 : W5.cell? ⟨q, 1, none⟩ = some (.int .i64 (mn : Int)) := hR.cell (i := 1) (by omega)
  have q2 : W5.cell? ⟨q, 2, none⟩ = some (.int .i64 (dn : Int)) := hR.cell (i := 2) (by omega)
  have q3 : W5.cell? ⟨q, 3, none⟩ = some (.int .i64 2) := hR.cell (i := 3) (by omega)
  have q4 : W5.cell? ⟨q, 4, none⟩ = some (.int .i64 (hn : Int)) := hR.cell (i := 4) (by omega)
  have q5 : W5.cell? ⟨q, 5, none⟩ = some (.int .i64 (min : Int)) := hR.cell (i := 5) (by omega)
  have q6 : W5.cell? ⟨q, 6, none⟩ = some (.int .i64 (sn : Int)) := hR.cell (i := 6) (by omega)
  have q7 : W5.cell? ⟨q, 7, none⟩ = some (.int .i64 (cn : Int)) := hR.cell (i := 7) (by omega)
  have q8 : W5.cell? ⟨q, 8, none⟩ = some (.int .i64 (pn : Int)) := hR.cell (i := 8) (by omega)
  have q9 : W5.cell? ⟨q, 9, none⟩ = some (.bool false) := hR.cell (i := 9) (by omega)
  have q10 : W5.cell? ⟨q, 10, none⟩ = some (.int .i64 z) := hR.cell (i := 10) (by omega)
  clear hR
  go_wp2_with (go_at_call 34; refine Stop.mk ?_)
  refine Stop.out ((c34 _).mono ?_)
  rintro e W9 ⟨rfl, hb⟩
  have HM9 : Hid _ := HM5.out.on hb
  clear hb
  have hM9 := HM9.out
  have hE9 := hM9.e
  have hB9 := hM9.b
  rw [hq] at hE9 hB9
  have s0 : W9.cell? ⟨q + 1, 0, none⟩ = some (.slice none 0 0) := hE9.cell (i := 0) (by omega)
  have s1 : W9.cell? ⟨q + 1, 1, none⟩ = some (.int .i64 0) := hE9.cell (i := 1) (by omega)
  have sf := fun i => hE9.frozen i
  have HB9 : Hid _ := hB9
  clear hM9 hE9 hB9
  go_wp2
  refine bodyPost_ret (v := .tuple #[.string (S), .agg #[.slice none 0 0, .int .i64 0]]) (by simp [results, Tryd.results23, go_sem, s0, s1]) rfl ⟨_, rfl, rfl, ?_⟩
  rw [hq]
  exact (HB9.out.setCell (p := ⟨q + 1, 0, none⟩) (Nat.le_succ _) _).setCell (p := ⟨q + 1, 1, none⟩) (Nat.le_succ _) _

set_option maxRecDepth 100000 in
set_option maxHeartbeats 2000000 in
theorem prt23_2tn (w : World) (yn mn dn hn min sn cn pn : Nat) (z : Int) (a1 : yn ≤ 9999) (a2 : mn ≤ 99) (b1 : hn ≤ 99) (b2 : min ≤ 99) (b3 : sn ≤ 99) (b4 : cn ≤ 999999) (b5 : 1 ≤ pn) (b6 : pn ≤ 9) (hz : z < 0) (hz2 : -720 ≤ z) (A B : Nat) (hA : - z / 60 = (A : Int)) (hB0 : - z % 60 = (B : Int)) (c51 : ∀ W, Calls Tryd.prog 51 #[mv yn mn dn 2 hn min sn cn pn true z] W fun e w' => e = .returned (.int .i64 (-1)) ∧ Below W.heap.size W w') (S : ByteArray) (hS : (pdB yn 4 ++ pdB mn 2) ++ tT hn min sn cn pn = S) : Calls Tryd.prog 23 #[mv yn mn dn 2 hn min sn cn pn true z] w (PostF w (.string (S ++ ⟨#[45]⟩ ++ pdB A 2 ++ pdB B 2)) none) := by
  obtain ⟨q, hq⟩ : ∃ q, w.heap.size = q := ⟨_, rfl⟩
  obtain ⟨W1, hW1⟩ : ∃ W1, w.alloc (.cells #[.int .i64 (yn : Int), .int .i64 (mn : Int), .int .i64 (dn : Int), .int .i64 2, .int .i64 (hn : Int), .int .i64 (min : Int), .int .i64 (sn : Int), .int .i64 (cn : Int), .int .i64 (pn : Int), .bool true, .int .i64 z] 50) = W1 := ⟨_, rfl⟩
  obtain ⟨W, hW⟩ : ∃ W, W1.alloc (.cells #[.slice none 0 0, .int .i64 0] 37) = W := ⟨_, rfl⟩
  have hs1 : W1.heap.size = q + 1 := by rw [← hW1, ← hq]; simp
  have HM : Hid (MN w W 50 11 (mf yn mn dn 2 hn min sn cn pn true z)) := by
    show MN _ _ _ _ _
    rw [← hW, ← hW1]
    exact MN.start w _ 50
  have hR := HM.out.r
  rw [hq] at hR
  have q0 : W.cell? ⟨q, 0, none⟩ = some (.int .i64 (yn : Int)) := hR.cell (i := 0) (by omega)
  have q1 : W.cell? ⟨q, 1, none⟩ = some (.int .i64 (mn : Int)) := hR.cell (i := 1) (by omega)
  have q2 : W.cell? ⟨q, 2, none⟩ = some (.int .i64 (dn : Int)) := hR.cell (i := 2) (by omega)
  have q3 : W.cell? ⟨q, 3, none⟩ = some (.int .i64 2) := hR.cell (i := 3) (by omega)
  have q4 : W.cell? ⟨q, 4, none⟩ = some (.int .i64 (hn : Int)) := hR.cell (i := 4) (by omega)
  have q5 : W.cell? ⟨q, 5, none⟩ = some (.int .i64 (min : Int)) := hR.cell (i := 5) (by omega)
  have q6 : W.cell? ⟨q, 6, none⟩ = some (.int .i64 (sn : Int)) := hR.cell (i := 6) (by omega)
  have q7 : W.cell? ⟨q, 7, none⟩ = some (.int .i64 (cn : Int)) := hR.cell (i := 7) (by omega)
  have q8 : W.cell? ⟨q, 8, none⟩ = some (.int .i64 (pn : Int)) := hR.cell (i := 8) (by omega)
  have q9 : W.cell? ⟨q, 9, none⟩ = some (.bool true) := hR.cell (i := 9) (by omega)
  have q10 : W.cell? ⟨q, 10, none⟩ = some (.int .i64 z) := hR.cell (i := 10) (by omega)
  clear hR
  have c36 : ∀ (W : World) (n k : Nat), n ≤ 999999 → k ≤ 6 → Calls Tryd.prog 36 #[.int .i64 (n : Int), .int .i64 (k : Int)] W fun e w' => e = .returned (.string (pdB n k)) ∧ Below W.heap.size W w' := fun W n k hn hk => pad6_any W n k hn hk
  have c34 := fun W' => none34_any W'
  have zy : (pdB yn 4).size = 4 := pdB_size _ _
  have zm : (pdB mn 2).size = 2 := pdB_size _ _
  have zdd : (pdB dn 2).size = 2 := pdB_size _ _
  have zym : (pdB yn 4 ++ pdB mn 2).size = 6 := by rw [ByteArray.size_append, zy, zm]
  have zymd : (pdB yn 4 ++ pdB mn 2 ++ pdB dn 2).size = 8 := by rw [ByteArray.size_append, zym, zdd]
  have c46 := fun W' => text46_any W' hn min sn cn pn b1 b2 b3 b4 b5 b6
  have ht := tT_size hn min sn cn pn b6
  have hpI : decide ((0 : Int) < (pn : Int)) = true := by simp; omega
  generalize tT hn min sn cn pn = TX at *
  have hcat1 : ¬ (9223372036854775807 < (pdB yn 4 ++ pdB mn 2).size + TX.size) := by rw [zym]; omega
  have hcat2 : (pdB yn 4 ++ pdB mn 2).size + TX.size ≤ 9223372036854775807 := by omega
  have hSs : S.size ≤ 21 := by rw [← hS, ByteArray.size_append, zym]; omega
  unfold t5 at c46
  have hA9 : A ≤ 99 := by omega
  have hB9 : B ≤ 99 := by omega
  have zA : (pdB A 2).size = 2 := pdB_size _ _
  have zB : (pdB B 2).size = 2 := pdB_size _ _
  obtain ⟨ns, hns⟩ : ∃ ns, S.size = ns := ⟨_, rfl⟩
  have y1 : (S ++ (⟨#[45]⟩ : ByteArray)).size = ns + 1 := by rw [ByteArray.size_append, hns]; rfl
  have y2 : (S ++ (⟨#[45]⟩ : ByteArray) ++ pdB A 2).size = ns + 3 := by rw [ByteArray.size_append, y1, zA]
  rw [hns] at hSs
  have w1 : ¬ (9223372036854775807 < ns + 1) := by omega
  have w2 : ¬ (9223372036854775807 < ns + 1 + 2) := by omega
  have w3 : ¬ (9223372036854775807 < ns + 3 + 2) := by omega
  have w1' : ns + 1 ≤ 9223372036854775807 := by omega
  have w2' : ns + 1 + 2 ≤ 9223372036854775807 := by omega
  have w3' : ns + 3 + 2 ≤ 9223372036854775807 := by omega
  have hzI : decide (z < 0) = true := by simp; omega
  have hFA : Fit6 (A : Int) 2 := ⟨A, 2, rfl, rfl, by omega, by omega, by omega, by omega⟩
  have hFB : Fit6 (B : Int) 2 := ⟨B, 2, rfl, rfl, by omega, by omega, by omega, by omega⟩
  have c36z : ∀ (W : World) (nI kI : Int), Fit6 nI kI → Calls Tryd.prog 36 #[.int .i64 nI, .int .i64 kI] W fun e w' => e = .returned (.string (pdB nI.toNat kI.toNat)) ∧ Below W.heap.size W w' := by
    rintro W nI kI ⟨n, k, rfl, rfl, _, _, hk, hn⟩
    exact pad6_any W n k hn hk
  obtain ⟨zn, hzn⟩ : ∃ zn : Int, - z = zn := ⟨_, rfl⟩
  have hz0 : 0 ≤ zn := by omega
  have hz9 : zn ≤ 720 := by omega
  have fz : IntKind.i64.wrap zn = zn := by rw [IntKind.wrap_i64]; omega
  rw [hzn] at hA hB0
  have f3 : Int.tdiv zn 60 = (A : Int) := by rw [Int.tdiv_eq_ediv_of_nonneg (by omega)]; exact hA
  have f2 : Int.tmod zn 60 = (B : Int) := by rw [Int.tmod_eq_emod_of_nonneg (by omega)]; exact hB0
  have fA : IntKind.i64.wrap (A : Int) = (A : Int) := by rw [IntKind.wrap_i64]; omega
  have fB : IntKind.i64.wrap (B : Int) = (B : Int) := by rw [IntKind.wrap_i64]; omega
  have hqq : q + 1 ≠ q := by omega
  unfold mv at *
  have HS : Hid _ := hS
  go_enter Tryd.func23, Tryd.ntmps23
  go_wp2_with (go_at_call 51; refine Stop.mk ?_)
  refine Stop.out ((c51 _).mono ?_)
  rintro e W2 ⟨rfl, hb2⟩
  have HM2 : Hid _ := HM.out.on hb2
  clear hb2 c51 HM q0 q1 q2 q3 q4 q5 q6 q7 q8 q9 q10
  have hR := HM2.out.r
  rw [hq] at hR
  have q0 : W2.cell? ⟨q, 0, none⟩ = some (.int .i64 (yn : Int)) := hR.cell (i := 0) (by omega)
  have q1 : W2.cell? ⟨q, 1, none⟩ = some (.int .i64 (mn : Int)) := hR.cell (i := 1) (by omega)
  have q2 : W2.cell? ⟨q, 2, none⟩ = some (.int .i64 (dn : Int)) := hR.cell (i := 2) (by omega)
  have q3 : W2.cell? ⟨q, 3, none⟩ = some (.int .i64 2) := hR.cell (i := 3) (by omega)
  have q4 : W2.cell? ⟨q, 4, none⟩ = some (.int .i64 (hn : Int)) := hR.cell (i := 4) (by omega)
  have q5 : W2.cell? ⟨q, 5, none⟩ = some (.int .i64 (min : Int)) := hR.cell (i := 5) (by omega)
  have q6 : W2.cell? ⟨q, 6, none⟩ = some (.int .i64 (sn : Int)) := hR.cell (i := 6) (by omega)
  have q7 : W2.cell? ⟨q, 7, none⟩ = some (.int .i64 (cn : Int)) := hR.cell (i := 7) (by omega)
  have q8 : W2.cell? ⟨q, 8, none⟩ = some (.int .i64 (pn : Int)) := hR.cell (i := 8) (by omega)
  have q9 : W2.cell? ⟨q, 9, none⟩ = some (.bool true) := hR.cell (i := 9) (by omega)
  have q10 : W2.cell? ⟨q, 10, none⟩ = some (.int .i64 z) := hR.cell (i := 10) (by omega)
  clear hR
  go_wp2_with (go_at_call 36; refine Stop.mk ?_)
  refine Stop.out ((c36 _ yn 4 (by omega) (by omega)).mono ?_)
  rintro e W3 ⟨rfl, hb⟩
  have HM3 : Hid _ := HM2.out.on hb
  clear hb HM2 q0 q1 q2 q3 q4 q5 q6 q7 q8 q9 q10
  have hR := HM3.out.r
  rw [hq] at hR
  have q0 : W3.cell? ⟨q, 0, none⟩ = some (.int .i64 (yn : Int)) := hR.cell (i := 0) (by omega)
  have q1 : W3.cell? ⟨q, 1, none⟩ = some (.int .i64 (mn : Int)) := hR.cell (i := 1) (by omega)
  have q2 : W3.cell? ⟨q, 2, none⟩ = some (.int .i64 (dn : Int)) := hR.cell (i := 2) (by omega)
  have q3 : W3.cell? ⟨q, 3, none⟩ = some (.int .i64 2) := hR.cell (i := 3) (by omega)
  have q4 : W3.cell? ⟨q, 4, none⟩ = some (.int .i64 (hn : Int)) := hR.cell (i := 4) (by omega)
  have q5 : W3.cell? ⟨q, 5, none⟩ = some (.int .i64 (min : Int)) := hR.cell (i := 5) (by omega)
  have q6 : W3.cell? ⟨q, 6, none⟩ = some (.int .i64 (sn : Int)) := hR.cell (i := 6) (by omega)
  have q7 : W3.cell? ⟨q, 7, none⟩ = some (.int .i64 (cn : Int)) := hR.cell (i := 7) (by omega)
  have q8 : W3.cell? ⟨q, 8, none⟩ = some (.int .i64 (pn : Int)) := hR.cell (i := 8) (by omega)
  have q9 : W3.cell? ⟨q, 9, none⟩ = some (.bool true) := hR.cell (i := 9) (by omega)
  have q10 : W3.cell? ⟨q, 10, none⟩ = some (.int .i64 z) := hR.cell (i := 10) (by omega)
  clear hR
  go_wp2_with (go_at_call 36; refine Stop.mk ?_)
  refine Stop.out ((c36 _ mn 2 (by omega) (by omega)).mono ?_)
  rintro e W4 ⟨rfl, hb⟩
  have HM4 : Hid _ := HM3.out.on hb
  clear hb HM3 q0 q1 q2 q3 q4 q5 q6 q7 q8 q9 q10
  have hR := HM4.out.r
  rw [hq] at hR
  have q0 : W4.cell? ⟨q, 0, none⟩ = some (.int .i64 (yn : Int)) := hR.cell (i := 0) (by omega)
  have q1 : W4.cell? ⟨q, 1, none⟩ = some (.int .i64 (mn : Int)) := hR.cell (i := 1) (by omega)
  have q2 : W4.cell? ⟨q, 2, none⟩ = some (.int .i64 (dn : Int)) := hR.cell (i := 2) (by omega)
  have q3 : W4.cell? ⟨q, 3, none⟩ = some (.int .i64 2) := hR.cell (i := 3) (by omega)
  have q4 : W4.cell? ⟨q, 4, none⟩ = some (.int .i64 (hn : Int)) := hR.cell (i := 4) (by omega)
  have q5 : W4.cell? ⟨q, 5, none⟩ = some (.int .i64 (min : Int)) := hR.cell (i := 5) (by omega)
  have q6 : W4.cell? ⟨q, 6, none⟩ = some (.int .i64 (sn : Int)) := hR.cell (i := 6) (by omega)
  have q7 : W4.cell? ⟨q, 7, none⟩ = some (.int .i64 (cn : Int)) := hR.cell (i := 7) (by omega)
  have q8 : W4.cell? ⟨q, 8, none⟩ = some (.int .i64 (pn : Int)) := hR.cell (i := 8) (by omega)
  have q9 : W4.cell? ⟨q, 9, none⟩ = some (.bool true) := hR.cell (i := 9) (by omega)
  have q10 : W4.cell? ⟨q, 10, none⟩ = some (.int .i64 z) := hR.cell (i := 10) (by omega)
  clear hR
  go_wp2_with (go_at_call 46; refine Stop.mk ?_)
  refine Stop.out ((c46 _).mono ?_)
  rintro e W5 ⟨rfl, hb⟩
  have HM5 : Hid _ := HM4.out.on hb
  clear hb HM4 q0 q1 q2 q3 q4 q5 q6 q7 q8 q9 q10
  have hR := HM5.out.r
  rw [hq] at hR
  have q0 : W5.cell? ⟨q, 0, none⟩ = some (.int .i64 (yn : Int)) := hR.cell (i := 0) (by omega)
  have q1 : W5.cell? ⟨q, 1, none⟩ = some (.int .i64 (mn : Int)) := hR.cell (i := 1) (by omega)
  have q2 : W5.cell? ⟨q, 2, none⟩ = some (.int .i64 (dn : Int)) := hR.cell (i := 2) (by omega)
  have q3 : W5.cell? ⟨q, 3, none⟩ = some (.int .i64 2) := hR.cell (i := 3) (by omega)
  have q4 : W5.cell? ⟨q, 4, none⟩ = some (.int .i64 (hn : Int)) := hR.cell (i := 4) (by omega)
  have q5 : W5.cell? ⟨q, 5, none⟩ = some (.int .i64 (min : Int)) := hR.cell (i := 5) (by omega)
  have q6 : W5.cell? ⟨q, 6, none⟩ = some (.int .i64 (sn : Int)) := hR.cell (i := 6) (by omega)
  have q7 : W5.cell? ⟨q, 7, none⟩ = some (.int .i64 (cn : Int)) := hR.cell (i := 7) (by omega)
  have q8 : W5.cell? ⟨q, 8, none⟩ = some (.int .i64 (pn : Int)) := hR.cell (i := 8) (by omega)
  have q9 : W5.cell? ⟨q, 9, none⟩ = some (.bool true) := hR.cell (i := 9) (by omega)
  have q10 : W5.cell? ⟨q, 10, none⟩ = some (.int .i64 z) := hR.cell (i := 10) (by omega)
  clear hR
  have hM := HM5.out
  have hB : MN w W5.drew 50 11 (mf yn mn dn 2 hn min sn cn pn true z) := ⟨hM.r, hM.e, hM.b.drew⟩
  go_wp2
  go_region_held3 (fun w' => w'.cell? ⟨q, 10, none⟩ = some (.int .i64 z)) (first | exact hB.c10 hq | exact (cell_set_off hqq).trans (hB.c10 hq) | exact (cell_set_off hqq).trans ((cell_set_off hqq).trans (hB.c10 hq))) (first | (go_at_call 36; refine (c36z _ _ _ ?_).mono ?_; (focus (first | exact hFA | exact hFB)); rintro e W6 ⟨rfl, hb6⟩; replace hB := hB.on hb6) | (go_at_call 34; refine (c34 _).mono ?_; rintro e W6 ⟨rfl, hb6⟩; replace hB := hB.on hb6; have hE6 := hB.e; rw [hq] at hE6; have s0 : W6.cell? ⟨q + 1, 0, none⟩ = some (.slice none 0 0) := hE6.cell (i := 0) (by omega); have s1 : W6.cell? ⟨q + 1, 1, none⟩ = some (.int .i64 0) := hE6.cell (i := 1) (by omega); have sf := fun i => hE6.frozen i; clear hE6))
  all_goals
    have hB10 := hB.b
    rw [hq] at hB10
    go_wp2
    refine bodyPost_ret (v := .tuple #[.string (S ++ ⟨#[45]⟩ ++ pdB A 2 ++ pdB B 2), .agg #[.slice none 0 0, .int .i64 0]]) (by simp [results, Tryd.results23, go_sem, s0, s1]) rfl ⟨_, rfl, rfl, ?_⟩
    rw [hq]
    exact (hB10.setCell (p := ⟨q + 1, 0, none⟩) (Nat.le_succ _) _).setCell (p := ⟨q + 1, 1, none⟩) (Nat.le_succ _) _

set_option maxRecDepth 100000 in
set_option maxHeartbeats 2000000 in
theorem prt23_2tp (w : World) (yn mn dn hn min sn cn pn : Nat) (z : Int) (a1 : yn ≤ 9999) (a2 : mn ≤ 99) (b1 : hn ≤ 99) (b2 : min ≤ 99) (b3 : sn ≤ 99) (b4 : cn ≤ 999999) (b5 : 1 ≤ pn) (b6 : pn ≤ 9) (hz : 0 ≤ z) (hz2 : z ≤ 840) (A B : Nat) (hA : z / 60 = (A : Int)) (hB0 : z % 60 = (B : Int)) (c51 : ∀ W, Calls Tryd.prog 51 #[mv yn mn dn 2 hn min sn cn pn true z] W fun e w' => e = .returned (.int .i64 (-1)) ∧ Below W.heap.size W w') (S : ByteArray) (hS : (pdB yn 4 ++ pdB mn 2) ++ tT hn min sn cn pn = S) : Calls Tryd.prog 23 #[mv yn mn dn 2 hn min sn cn pn true z] w (PostF w (.string (S ++ ⟨#[43]⟩ ++ pdB A 2 ++ pdB B 2)) none) := by
  obtain ⟨q, hq⟩ : ∃ q, w.heap.size = q := ⟨_, rfl⟩
  obtain ⟨W1, hW1⟩ : ∃ W1, w.alloc (.cells #[.int .i64 (yn : Int), .int .i64 (mn : Int), .int .i64 (dn : Int), .int .i64 2, .int .i64 (hn : Int), .int .i64 (min : Int), .int .i64 (sn : Int), .int .i64 (cn : Int), .int .i64 (pn : Int), .bool true, .int .i64 z] 50) = W1 := ⟨_, rfl⟩
  obtain ⟨W, hW⟩ : ∃ W, W1.alloc (.cells #[.slice none 0 0, .int .i64 0] 37) = W := ⟨_, rfl⟩
  have hs1 : W1.heap.size = q + 1 := by rw [← hW1, ← hq]; simp
  have HM : Hid (MN w W 50 11 (mf yn mn dn 2 hn min sn cn pn true z)) := by
    show MN _ _ _ _ _
    rw [← hW, ← hW1]
    exact MN.start w _ 50
  have hR := HM.out.r
  rw [hq] at hR
  have q0 : W.cell? ⟨q, 0, none⟩ = some (.int .i64 (yn : Int)) := hR.cell (i := 0) (by omega)
  have q1 : W.cell? ⟨q, 1, none⟩ = some (.int .i64 (mn : Int)) := hR.cell (i := 1) (by omega)
  have q2 : W.cell? ⟨q, 2, none⟩ = some (.int .i64 (dn : Int)) := hR.cell (i := 2) (by omega)
  have q3 : W.cell? ⟨q, 3, none⟩ = some (.int .i64 2) := hR.cell (i := 3) (by omega)
  have q4 : W.cell? ⟨q, 4, none⟩ = some (.int .i64 (hn : Int)) := hR.cell (i := 4) (by omega)
  have q5 : W.cell? ⟨q, 5, none⟩ = some (.int .i64 (min : Int)) := hR.cell (i := 5) (by omega)
  have q6 : W.cell? ⟨q, 6, none⟩ = some (.int .i64 (sn : Int)) := hR.cell (i := 6) (by omega)
  have q7 : W.cell? ⟨q, 7, none⟩ = some (.int .i64 (cn : Int)) := hR.cell (i := 7) (by omega)
  have q8 : W.cell? ⟨q, 8, none⟩ = some (.int .i64 (pn : Int)) := hR.cell (i := 8) (by omega)
  have q9 : W.cell? ⟨q, 9, none⟩ = some (.bool true) := hR.cell (i := 9) (by omega)
  have q10 : W.cell? ⟨q, 10, none⟩ = some (.int .i64 z) := hR.cell (i := 10) (by omega)
  clear hR
  have c36 : ∀ (W : World) (n k : Nat), n ≤ 999999 → k ≤ 6 → Calls Tryd.prog 36 #[.int .i64 (n : Int), .int .i64 (k : Int)] W fun e w' => e = .returned (.string (pdB n k)) ∧ Below W.heap.size W w' := fun W n k hn hk => pad6_any W n k hn hk
  have c34 := fun W' => none34_any W'
  have zy : (pdB yn 4).size = 4 := pdB_size _ _
  have zm : (pdB mn 2).size = 2 := pdB_size _ _
  have zdd : (pdB dn 2).size = 2 := pdB_size _ _
  have zym : (pdB yn 4 ++ pdB mn 2).size = 6 := by rw [ByteArray.size_append, zy, zm]
  have zymd : (pdB yn 4 ++ pdB mn 2 ++ pdB dn 2).size = 8 := by rw [ByteArray.size_append, zym, zdd]
  have c46 := fun W' => text46_any W' hn min sn cn pn b1 b2 b3 b4 b5 b6
  have ht := tT_size hn min sn cn pn b6
  have hpI : decide ((0 : Int) < (pn : Int)) = true := by simp; omega
  generalize tT hn min sn cn pn = TX at *
  have hcat1 : ¬ (9223372036854775807 < (pdB yn 4 ++ pdB mn 2).size + TX.size) := by rw [zym]; omega
  have hcat2 : (pdB yn 4 ++ pdB mn 2).size + TX.size ≤ 9223372036854775807 := by omega
  have hSs : S.size ≤ 21 := by rw [← hS, ByteArray.size_append, zym]; omega
  unfold t5 at c46
  have hA9 : A ≤ 99 := by omega
  have hB9 : B ≤ 99 := by omega
  have zA : (pdB A 2).size = 2 := pdB_size _ _
  have zB : (pdB B 2).size = 2 := pdB_size _ _
  obtain ⟨ns, hns⟩ : ∃ ns, S.size = ns := ⟨_, rfl⟩
  have y1 : (S ++ (⟨#[43]⟩ : ByteArray)).size = ns + 1 := by rw [ByteArray.size_append, hns]; rfl
  have y2 : (S ++ (⟨#[43]⟩ : ByteArray) ++ pdB A 2).size = ns + 3 := by rw [ByteArray.size_append, y1, zA]
  rw [hns] at hSs
  have w1 : ¬ (9223372036854775807 < ns + 1) := by omega
  have w2 : ¬ (9223372036854775807 < ns + 1 + 2) := by omega
  have w3 : ¬ (9223372036854775807 < ns + 3 + 2) := by omega
  have w1' : ns + 1 ≤ 9223372036854775807 := by omega
  have w2' : ns + 1 + 2 ≤ 9223372036854775807 := by omega
  have w3' : ns + 3 + 2 ≤ 9223372036854775807 := by omega
  have hzI : decide (z < 0) = false := by simp; omega
  have hFA : Fit6 (A : Int) 2 := ⟨A, 2, rfl, rfl, by omega, by omega, by omega, by omega⟩
  have hFB : Fit6 (B : Int) 2 := ⟨B, 2, rfl, rfl, by omega, by omega, by omega, by omega⟩
  have c36z : ∀ (W : World) (nI kI : Int), Fit6 nI kI → Calls Tryd.prog 36 #[.int .i64 nI, .int .i64 kI] W fun e w' => e = .returned (.string (pdB nI.toNat kI.toNat)) ∧ Below W.heap.size W w' := by
    rintro W nI kI ⟨n, k, rfl, rfl, _, _, hk, hn⟩
    exact pad6_any W n k hn hk
  have f3 : Int.tdiv z 60 = (A : Int) := by rw [Int.tdiv_eq_ediv_of_nonneg (by omega)]; exact hA
  have f2 : Int.tmod z 60 = (B : Int) := by rw [Int.tmod_eq_emod_of_nonneg (by omega)]; exact hB0
  have fA : IntKind.i64.wrap (A : Int) = (A : Int) := by rw [IntKind.wrap_i64]; omega
  have fB : IntKind.i64.wrap (B : Int) = (B : Int) := by rw [IntKind.wrap_i64]; omega
  have hqq : q + 1 ≠ q := by omega
  unfold mv at *
  have HS : Hid _ := hS
  go_enter Tryd.func23, Tryd.ntmps23
  go_wp2_with (go_at_call 51; refine Stop.mk ?_)
  refine Stop.out ((c51 _).mono ?_)
  rintro e W2 ⟨rfl, hb2⟩
  have HM2 : Hid _ := HM.out.on hb2
  clear hb2 c51 HM q0 q1 q2 q3 q4 q5 q6 q7 q8 q9 q10
  have hR := HM2.out.r
  rw [hq] at hR
  have q0 : W2.cell? ⟨q, 0, none⟩ = some (.int .i64 (yn : Int)) := hR.cell (i := 0) (by omega)
  have q1 : W2.cell? ⟨q, 1, none⟩ = some (.int .i64 (mn : Int)) := hR.cell (i := 1) (by omega)
  have q2 : W2.cell? ⟨q, 2, none⟩ = some (.int .i64 (dn : Int)) := hR.cell (i := 2) (by omega)
  have q3 : W2.cell? ⟨q, 3, none⟩ = some (.int .i64 2) := hR.cell (i := 3) (by omega)
  have q4 : W2.cell? ⟨q, 4, none⟩ = some (.int .i64 (hn : Int)) := hR.cell (i := 4) (by omega)
  have q5 : W2.cell? ⟨q, 5, none⟩ = some (.int .i64 (min : Int)) := hR.cell (i := 5) (by omega)
  have q6 : W2.cell? ⟨q, 6, none⟩ = some (.int .i64 (sn : Int)) := hR.cell (i := 6) (by omega)
  have q7 : W2.cell? ⟨q, 7, none⟩ = some (.int .i64 (cn : Int)) := hR.cell (i := 7) (by omega)
  have q8 : W2.cell? ⟨q, 8, none⟩ = some (.int .i64 (pn : Int)) := hR.cell (i := 8) (by omega)
  have q9 : W2.cell? ⟨q, 9, none⟩ = some (.bool true) := hR.cell (i := 9) (by omega)
  have q10 : W2.cell? ⟨q, 10, none⟩ = some (.int .i64 z) := hR.cell (i := 10) (by omega)
  clear hR
  go_wp2_with (go_at_call 36; refine Stop.mk ?_)
  refine Stop.out ((c36 _ yn 4 (by omega) (by omega)).mono ?_)
  rintro e W3 ⟨rfl, hb⟩
  have HM3 : Hid _ := HM2.out.on hb
  clear hb HM2 q0 q1 q2 q3 q4 q5 q6 q7 q8 q9 q10
  have hR := HM3.out.r
  rw [hq] at hR
  have q0 : W3.cell? ⟨q, 0, none⟩ = some (.int .i64 (yn : Int)) := hR.cell (i := 0) (by omega)
  have q1 : W3.cell? ⟨q, 1, none⟩ = some (.int .i64 (mn : Int)) := hR.cell (i := 1) (by omega)
  have q2 : W3.cell? ⟨q, 2, none⟩ = some (.int .i64 (dn : Int)) := hR.cell (i := 2) (by omega)
  have q3 : W3.cell? ⟨q, 3, none⟩ = some (.int .i64 2) := hR.cell (i := 3) (by omega)
  have q4 : W3.cell? ⟨q, 4, none⟩ = some (.int .i64 (hn : Int)) := hR.cell (i := 4) (by omega)
  have q5 : W3.cell? ⟨q, 5, none⟩ = some (.int .i64 (min : Int)) := hR.cell (i := 5) (by omega)
  have q6 : W3.cell? ⟨q, 6, none⟩ = some (.int .i64 (sn : Int)) := hR.cell (i := 6) (by omega)
  have q7 : W3.cell? ⟨q, 7, none⟩ = some (.int .i64 (cn : Int)) := hR.cell (i := 7) (by omega)
  have q8 : W3.cell? ⟨q, 8, none⟩ = some (.int .i64 (pn : Int)) := hR.cell (i := 8) (by omega)
  have q9 : W3.cell? ⟨q, 9, none⟩ = some (.bool true) := hR.cell (i := 9) (by omega)
  have q10 : W3.cell? ⟨q, 10, none⟩ = some (.int .i64 z) := hR.cell (i := 10) (by omega)
  clear hR
  go_wp2_with (go_at_call 36; refine Stop.mk ?_)
  refine Stop.out ((c36 _ mn 2 (by omega) (by omega)).mono ?_)
  rintro e W4 ⟨rfl, hb⟩
  have HM4 : Hid _ := HM3.out.on hb
  clear hb HM3 q0 q1 q2 q3 q4 q5 q6 q7 q8 q9 q10
  have hR := HM4.out.r
  rw [hq] at hR
  have q0 : W4.cell? ⟨q, 0, none⟩ = some (.int .i64 (yn : Int)) := hR.cell (i := 0) (by omega)
  have q1 : W4.cell? ⟨q, 1, none⟩ = some (.int .i64 (mn : Int)) := hR.cell (i := 1) (by omega)
  have q2 : W4.cell? ⟨q, 2, none⟩ = some (.int .i64 (dn : Int)) := hR.cell (i := 2) (by omega)
  have q3 : W4.cell? ⟨q, 3, none⟩ = some (.int .i64 2) := hR.cell (i := 3) (by omega)
  have q4 : W4.cell? ⟨q, 4, none⟩ = some (.int .i64 (hn : Int)) := hR.cell (i := 4) (by omega)
  have q5 : W4.cell? ⟨q, 5, none⟩ = some (.int .i64 (min : Int)) := hR.cell (i := 5) (by omega)
  have q6 : W4.cell? ⟨q, 6, none⟩ = some (.int .i64 (sn : Int)) := hR.cell (i := 6) (by omega)
  have q7 : W4.cell? ⟨q, 7, none⟩ = some (.int .i64 (cn : Int)) := hR.cell (i := 7) (by omega)
  have q8 : W4.cell? ⟨q, 8, none⟩ = some (.int .i64 (pn : Int)) := hR.cell (i := 8) (by omega)
  have q9 : W4.cell? ⟨q, 9, none⟩ = some (.bool true) := hR.cell (i := 9) (by omega)
  have q10 : W4.cell? ⟨q, 10, none⟩ = some (.int .i64 z) := hR.cell (i := 10) (by omega)
  clear hR
  go_wp2_with (go_at_call 46; refine Stop.mk ?_)
  refine Stop.out ((c46 _).mono ?_)
  rintro e W5 ⟨rfl, hb⟩
  have HM5 : Hid _ := HM4.out.on hb
  clear hb HM4 q0 q1 q2 q3 q4 q5 q6 q7 q8 q9 q10
  have hR := HM5.out.r
  rw [hq] at hR
  have q0 : W5.cell? ⟨q, 0, none⟩ = some (.int .i64 (yn : Int)) := hR.cell (i := 0) (by omega)
  have q1 : W5.cell? ⟨q, 1, none⟩ = some (.int .i64 (mn : Int)) := hR.cell (i := 1) (by omega)
  have q2 : W5.cell? ⟨q, 2, none⟩ = some (.int .i64 (dn : Int)) := hR.cell (i := 2) (by omega)
  have q3 : W5.cell? ⟨q, 3, none⟩ = some (.int .i64 2) := hR.cell (i := 3) (by omega)
  have q4 : W5.cell? ⟨q, 4, none⟩ = some (.int .i64 (hn : Int)) := hR.cell (i := 4) (by omega)
  have q5 : W5.cell? ⟨q, 5, none⟩ = some (.int .i64 (min : Int)) := hR.cell (i := 5) (by omega)
  have q6 : W5.cell? ⟨q, 6, none⟩ = some (.int .i64 (sn : Int)) := hR.cell (i := 6) (by omega)
  have q7 : W5.cell? ⟨q, 7, none⟩ = some (.int .i64 (cn : Int)) := hR.cell (i := 7) (by omega)
  have q8 : W5.cell? ⟨q, 8, none⟩ = some (.int .i64 (pn : Int)) := hR.cell (i := 8) (by omega)
  have q9 : W5.cell? ⟨q, 9, none⟩ = some (.bool true) := hR.cell (i := 9) (by omega)
  have q10 : W5.cell? ⟨q, 10, none⟩ = some (.int .i64 z) := hR.cell (i := 10) (by omega)
  clear hR
  have hM := HM5.out
  have hB : MN w W5.drew 50 11 (mf yn mn dn 2 hn min sn cn pn true z) := ⟨hM.r, hM.e, hM.b.drew⟩
  go_wp2
  go_region_held3 (fun w' => w'.cell? ⟨q, 10, none⟩ = some (.int .i64 z)) (first | exact hB.c10 hq | exact (cell_set_off hqq).trans (hB.c10 hq) | exact (cell_set_off hqq).trans ((cell_set_off hqq).trans (hB.c10 hq))) (first | (go_at_call 36; refine (c36z _ _ _ ?_).mono ?_; (focus (first | exact hFA | exact hFB)); rintro e W6 ⟨rfl, hb6⟩; replace hB := hB.on hb6) | (go_at_call 34; refine (c34 _).mono ?_; rintro e W6 ⟨rfl, hb6⟩; replace hB := hB.on hb6; have hE6 := hB.e; rw [hq] at hE6; have s0 : W6.cell? ⟨q + 1, 0, none⟩ = some (.slice none 0 0) := hE6.cell (i := 0) (by omega); have s1 : W6.cell? ⟨q + 1, 1, none⟩ = some (.int .i64 0) := hE6.cell (i := 1) (by omega); have sf := fun i => hE6.frozen i; clear hE6))
  all_goals
    have hB10 := hB.b
    rw [hq] at hB10
    go_wp2
    refine bodyPost_ret (v := .tuple #[.string (S ++ ⟨#[43]⟩ ++ pdB A 2 ++ pdB B 2), .agg #[.slice none 0 0, .int .i64 0]]) (by simp [results, Tryd.results23, go_sem, s0, s1]) rfl ⟨_, rfl, rfl, ?_⟩
    rw [hq]
    exact (hB10.setCell (p := ⟨q + 1, 0, none⟩) (Nat.le_succ _) _).setCell (p := ⟨q + 1, 1, none⟩) (Nat.le_succ _) _

set_option maxRecDepth 100000 in
set_option maxHeartbeats 2000000 in
theorem prt23_3zf (w : World) (yn mn dn : Nat) (z : Int) (a1 : yn ≤ 9999) (a2 : mn ≤ 99) (a3 : dn ≤ 99) (c51 : ∀ W, Calls Tryd.prog 51 #[mv yn mn dn 3 0 0 0 0 0 false z] W fun e w' => e = .returned (.int .i64 (-1)) ∧ Below W.heap.size W w') (S : ByteArray) (hS : (pdB yn 4 ++ pdB mn 2 ++ pdB dn 2) = S) : Calls Tryd.prog 23 #[mv yn mn dn 3 0 0 0 0 0 false z] w (PostF w (.string (S)) none) := by
  obtain ⟨q, hq⟩ : ∃ q, w.heap.size = q := ⟨_, rfl⟩
  obtain ⟨W1, hW1⟩ : ∃ W1, w.alloc (.cells #[.int .i64 (yn : Int), .int .i64 (mn : Int), .int .i64 (dn : Int), .int .i64 3, .int .i64 0, .int .i64 0, .int .i64 0, .int .i64 0, .int .i64 0, .bool false, .int .i64 z] 50) = W1 := ⟨_, rfl⟩
  obtain ⟨W, hW⟩ : ∃ W, W1.alloc (.cells #[.slice none 0 0, .int .i64 0] 37) = W := ⟨_, rfl⟩
  have hs1 : W1.heap.size = q + 1 := by rw [← hW1, ← hq]; simp
  have HM : Hid (MN w W 50 11 (mf yn mn dn 3 0 0 0 0 0 false z)) := by
    show MN _ _ _ _ _
    rw [← hW, ← hW1]
    exact MN.start w _ 50
  have hR := HM.out.r
  rw [hq] at hR
  have q0 : W.cell? ⟨q, 0, none⟩ = some (.int .i64 (yn : Int)) := hR.cell (i := 0) (by omega)
  have q1 : W.cell? ⟨q, 1, none⟩ = some (.int .i64 (mn : Int)) := hR.cell (i := 1) (by omega)
  have q2 : W.cell? ⟨q, 2, none⟩ = some (.int .i64 (dn : Int)) := hR.cell (i := 2) (by omega)
  have q3 : W.cell? ⟨q, 3, none⟩ = some (.int .i64 3) := hR.cell (i := 3) (by omega)
  have q4 : W.cell? ⟨q, 4, none⟩ = some (.int .i64 0) := hR.cell (i := 4) (by omega)
  have q5 : W.cell? ⟨q, 5, none⟩ = some (.int .i64 0) := hR.cell (i := 5) (by omega)
  have q6 : W.cell? ⟨q, 6, none⟩ = some (.int .i64 0) := hR.cell (i := 6) (by omega)
  have q7 : W.cell? ⟨q, 7, none⟩ = some (.int .i64 0) := hR.cell (i := 7) (by omega)
  have q8 : W.cell? ⟨q, 8, none⟩ = some (.int .i64 0) := hR.cell (i := 8) (by omega)
  have q9 : W.cell? ⟨q, 9, none⟩ = some (.bool false) := hR.cell (i := 9) (by omega)
  have q10 : W.cell? ⟨q, 10, none⟩ = some (.int .i64 z) := hR.cell (i := 10) (by omega)
  clear hR
  have c36 : ∀ (W : World) (n k : Nat), n ≤ 999999 → k ≤ 6 → Calls Tryd.prog 36 #[.int .i64 (n : Int), .int .i64 (k : Int)] W fun e w' => e = .returned (.string (pdB n k)) ∧ Below W.heap.size W w' := fun W n k hn hk => pad6_any W n k hn hk
  have c34 := fun W' => none34_any W'
  have zy : (pdB yn 4).size = 4 := pdB_size _ _
  have zm : (pdB mn 2).size = 2 := pdB_size _ _
  have zdd : (pdB dn 2).size = 2 := pdB_size _ _
  have zym : (pdB yn 4 ++ pdB mn 2).size = 6 := by rw [ByteArray.size_append, zy, zm]
  have zymd : (pdB yn 4 ++ pdB mn 2 ++ pdB dn 2).size = 8 := by rw [ByteArray.size_append, zym, zdd]
  have hSs : S.size ≤ 21 := by rw [← hS, zymd]; omega
  unfold mv at *
  have HS : Hid _ := hS
  go_enter Tryd.func23, Tryd.ntmps23
  go_wp2_with (go_at_call 51; refine Stop.mk ?_)
  refine Stop.out ((c51 _).mono ?_)
  rintro e W2 ⟨rfl, hb2⟩
  have HM2 : Hid _ := HM.out.on hb2
  clear hb2 c51 HM q0 q1 q2 q3 q4 q5 q6 q7 q8 q9 q10
  have hR := HM2.out.r
  rw [hq] at hR
  have q0 : W2.cell? ⟨q, 0, none⟩ = some (.int .i64 (yn : Int)) := hR.cell (i := 0) (by omega)
  have q1 : W2.cell? ⟨q, 1, none⟩ = some (.int .i64 (mn : Int)) := hR.cell (i := 1) (by omega)
  have q2 : W2.cell? ⟨q, 2, none⟩ = some (.int .i64 (dn : Int)) := hR.cell (i := 2) (by omega)
  have q3 : W2.cell? ⟨q, 3, none⟩ = some (.int .i64 3) := hR.cell (i := 3) (by omega)
  have q4 : W2.cell? ⟨q, 4, none⟩ = some (.int .i64 0) := hR.cell (i := 4) (by omega)
  have q5 : W2.cell? ⟨q, 5, none⟩ = some (.int .i64 0) := hR.cell (i := 5) (by omega)
  have q6 : W2.cell? ⟨q, 6, none⟩ = some (.int .i64 0) := hR.cell (i := 6) (by omega)
  have q7 : W2.cell? ⟨q, 7, none⟩ = some (.int .i64 0) := hR.cell (i := 7) (by omega)
  have q8 : W2.cell? ⟨q, 8, none⟩ = some (.int .i64 0) := hR.cell (i := 8) (by omega)
  have q9 : W2.cell? ⟨q, 9, none⟩ = some (.bool false) := hR.cell (i := 9) (by omega)
  have q10 : W2.cell? ⟨q, 10, none⟩ = some (.int .i64 z) := hR.cell (i := 10) (by omega)
  clear hR
  go_wp2_with (go_at_call 36; refine Stop.mk ?_)
  refine Stop.out ((c36 _ yn 4 (by omega) (by omega)).mono ?_)
  rintro e W3 ⟨rfl, hb⟩
  have HM3 : Hid _ := HM2.out.on hb
  clear hb HM2 q0 q1 q2 q3 q4 q5 q6 q7 q8 q9 q10
  have hR := HM3.out.r
  rw [hq] at hR
  have q0 : W3.cell? ⟨q, 0, none⟩ = some (.int .i64 (yn : Int)) := hR.cell (i := 0) (by omega)
  have q1 : W3.cell? ⟨q, 1, none⟩ = some (.int .i64 (mn : Int)) := hR.cell (i := 1) (by omega)
  have q2 : W3.cell? ⟨q, 2, none⟩ = some (.int .i64 (dn : Int)) := hR.cell (i := 2) (by omega)
  have q3 : W3.cell? ⟨q, 3, none⟩ = some (.int .i64 3) := hR.cell (i := 3) (by omega)
  have q4 : W3.cell? ⟨q, 4, none⟩ = some (.int .i64 0) := hR.cell (i := 4) (by omega)
  have q5 : W3.cell? ⟨q, 5, none⟩ = some (.int .i64 0) := hR.cell (i := 5) (by omega)
  have q6 : W3.cell? ⟨q, 6, none⟩ = some (.int .i64 0) := hR.cell (i := 6) (by omega)
  have q7 : W3.cell? ⟨q, 7, none⟩ = some (.int .i64 0) := hR.cell (i := 7) (by omega)
  have q8 : W3.cell? ⟨q, 8, none⟩ = some (.int .i64 0) := hR.cell (i := 8) (by omega)
  have q9 : W3.cell? ⟨q, 9, none⟩ = some (.bool false) := hR.cell (i := 9) (by omega)
  have q10 : W3.cell? ⟨q, 10, none⟩ = some (.int .i64 z) := hR.cell (i := 10) (by omega)
  clear hR
  go_wp2_with (go_at_call 36; refine Stop.mk ?_)
  refine Stop.out ((c36 _ mn 2 (by omega) (by omega)).mono ?_)
  rintro e W4 ⟨rfl, hb⟩
  have HM4 : Hid _ := HM3.out.on hb
  clear hb HM3 q0 q1 q2 q3 q4 q5 q6 q7 q8 q9 q10
  have hR := HM4.out.r
  rw [hq] at hR
  have q0 : W4.cell? ⟨q, 0, none⟩ = some (.int .i64 (yn : Int)) := hR.cell (i := 0) (by omega)
  have q1 : W4.cell? ⟨q, 1, none⟩ = some (.int .i64 (mn : Int)) := hR.cell (i := 1) (by omega)
  have q2 : W4.cell? ⟨q, 2, none⟩ = some (.int .i64 (dn : Int)) := hR.cell (i := 2) (by omega)
  have q3 : W4.cell? ⟨q, 3, none⟩ = some (.int .i64 3) := hR.cell (i := 3) (by omega)
  have q4 : W4.cell? ⟨q, 4, none⟩ = some (.int .i64 0) := hR.cell (i := 4) (by omega)
  have q5 : W4.cell? ⟨q, 5, none⟩ = some (.int .i64 0) := hR.cell (i := 5) (by omega)
  have q6 : W4.cell? ⟨q, 6, none⟩ = some (.int .i64 0) := hR.cell (i := 6) (by omega)
  have q7 : W4.cell? ⟨q, 7, none⟩ = some (.int .i64 0) := hR.cell (i := 7) (by omega)
  have q8 : W4.cell? ⟨q, 8, none⟩ = some (.int .i64 0) := hR.cell (i := 8) (by omega)
  have q9 : W4.cell? ⟨q, 9, none⟩ = some (.bool false) := hR.cell (i := 9) (by omega)
  have q10 : W4.cell? ⟨q, 10, none⟩ = some (.int .i64 z) := hR.cell (i := 10) (by omega)
  clear hR
  go_wp2_with (go_at_call 36; refine Stop.mk ?_)
  refine Stop.out ((c36 _ dn 2 (by omega) (by omega)).mono ?_)
  rintro e W5 ⟨rfl, hb⟩
  have HM5 : Hid _ := HM4.out.on hb
  clear hb HM4 q0 q1 q2 q3 q4 q5 q6 q7 q8 q9 q10
  have hR := HM5.out.r
  rw [hq] at hR
  have q0 : W5.cell? ⟨q, 0, none⟩ = some (.int .i64 (yn : Int)) := hR.cell (i := 0) (by omega)
  have q1 : W5.cell? ⟨q, 1, none⟩ = some (.int .i64 (mn : Int)) := hR.cell (i := 1) (by omega)
  have q2 : W5.cell? ⟨q, 2, none⟩ = some (.int .i64 (dn : Int)) := hR.cell (i := 2) (by omega)
  have q3 : W5.cell? ⟨q, 3, none⟩ = some (.int .i64 3) := hR.cell (i := 3) (by omega)
  have q4 : W5.cell? ⟨q, 4, none⟩ = some (.int .i64 0) := hR.cell (i := 4) (by omega)
  have q5 : W5.cell? ⟨q, 5, none⟩ = some (.int .i64 0) := hR.cell (i := 5) (by omega)
  have q6 : W5.cell? ⟨q, 6, none⟩ = some (.int .i64 0) := hR.cell (i := 6) (by omega)
  have q7 : W5.cell? ⟨q, 7, none⟩ = some (.int .i64 0) := hR.cell (i := 7) (by omega)
  have q8 : W5.cell? ⟨q, 8, none⟩ = some (.int .i64 0) := hR.cell (i := 8) (by omega)
  have q9 : W5.cell? ⟨q, 9, none⟩ = some (.bool false) := hR.cell (i := 9) (by omega)
  have q10 : W5.cell? ⟨q, 10, none⟩ = some (.int .i64 z) := hR.cell (i := 10) (by omega)
  clear hR
  go_wp2_with (go_at_call 34; refine Stop.mk ?_)
  refine Stop.out ((c34 _).mono ?_)
  rintro e W9 ⟨rfl, hb⟩
  have HM9 : Hid _ := HM5.out.on hb
  clear hb
  have hM9 := HM9.out
  have hE9 := hM9.e
  have hB9 := hM9.b
  rw [hq] at hE9 hB9
  have s0 : W9.cell? ⟨q + 1, 0, none⟩ = some (.slice none 0 0) := hE9.cell (i := 0) (by omega)
  have s1 : W9.cell? ⟨q + 1, 1, none⟩ = some (.int .i64 0) := hE9.cell (i := 1) (by omega)
  have sf := fun i => hE9.frozen i
  have HB9 : Hid _ := hB9
  clear hM9 hE9 hB9
  go_wp2
  refine bodyPost_ret (v := .tuple #[.string (S), .agg #[.slice none 0 0, .int .i64 0]]) (by simp [results, Tryd.results23, go_sem, s0, s1]) rfl ⟨_, rfl, rfl, ?_⟩
  rw [hq]
  exact (HB9.out.setCell (p := ⟨q + 1, 0, none⟩) (Nat.le_succ _) _).setCell (p := ⟨q + 1, 1, none⟩) (Nat.le_succ _) _

set_option maxRecDepth 100000 in
set_option maxHeartbeats 2000000 in
theorem prt23_3zn (w : World) (yn mn dn : Nat) (z : Int) (a1 : yn ≤ 9999) (a2 : mn ≤ 99) (a3 : dn ≤ 99) (hz : z < 0) (hz2 : -720 ≤ z) (A B : Nat) (hA : - z / 60 = (A : Int)) (hB0 : - z % 60 = (B : Int)) (c51 : ∀ W, Calls Tryd.prog 51 #[mv yn mn dn 3 0 0 0 0 0 true z] W fun e w' => e = .returned (.int .i64 (-1)) ∧ Below W.heap.size W w') (S : ByteArray) (hS : (pdB yn 4 ++ pdB mn 2 ++ pdB dn 2) = S) : Calls Tryd.prog 23 #[mv yn mn dn 3 0 0 0 0 0 true z] w (PostF w (.string (S ++ ⟨#[45]⟩ ++ pdB A 2 ++ pdB B 2)) none) := by
  obtain ⟨q, hq⟩ : ∃ q, w.heap.size = q := ⟨_, rfl⟩
  obtain ⟨W1, hW1⟩ : ∃ W1, w.alloc (.cells #[.int .i64 (yn : Int), .int .i64 (mn : Int), .int .i64 (dn : Int), .int .i64 3, .int .i64 0, .int .i64 0, .int .i64 0, .int .i64 0, .int .i64 0, .bool true, .int .i64 z] 50) = W1 := ⟨_, rfl⟩
  obtain ⟨W, hW⟩ : ∃ W, W1.alloc (.cells #[.slice none 0 0, .int .i64 0] 37) = W := ⟨_, rfl⟩
  have hs1 : W1.heap.size = q + 1 := by rw [← hW1, ← hq]; simp
  have HM : Hid (MN w W 50 11 (mf yn mn dn 3 0 0 0 0 0 true z)) := by
    show MN _ _ _ _ _
    rw [← hW, ← hW1]
    exact MN.start w _ 50
  have hR := HM.out.r
  rw [hq] at hR
  have q0 : W.cell? ⟨q, 0, none⟩ = some (.int .i64 (yn : Int)) := hR.cell (i := 0) (by omega)
  have q1 : W.cell? ⟨q, 1, none⟩ = some (.int .i64 (mn : Int)) := hR.cell (i := 1) (by omega)
  have q2 : W.cell? ⟨q, 2, none⟩ = some (.int .i64 (dn : Int)) := hR.cell (i := 2) (by omega)
  have q3 : W.cell? ⟨q, 3, none⟩ = some (.int .i64 3) := hR.cell (i := 3) (by omega)
  have q4 : W.cell? ⟨q, 4, none⟩ = some (.int .i64 0) := hR.cell (i := 4) (by omega)
  have q5 : W.cell? ⟨q, 5, none⟩ = some (.int .i64 0) := hR.cell (i := 5) (by omega)
  have q6 : W.cell? ⟨q, 6, none⟩ = some (.int .i64 0) := hR.cell (i := 6) (by omega)
  have q7 : W.cell? ⟨q, 7, none⟩ = some (.int .i64 0) := hR.cell (i := 7) (by omega)
  have q8 : W.cell? ⟨q, 8, none⟩ = some (.int .i64 0) := hR.cell (i := 8) (by omega)
  have q9 : W.cell? ⟨q, 9, none⟩ = some (.bool true) := hR.cell (i := 9) (by omega)
  have q10 : W.cell? ⟨q, 10, none⟩ = some (.int .i64 z) := hR.cell (i := 10) (by omega)
  clear hR
  have c36 : ∀ (W : World) (n k : Nat), n ≤ 999999 → k ≤ 6 → Calls Tryd.prog 36 #[.int .i64 (n : Int), .int .i64 (k : Int)] W fun e w' => e = .returned (.string (pdB n k)) ∧ Below W.heap.size W w' := fun W n k hn hk => pad6_any W n k hn hk
  have c34 := fun W' => none34_any W'
  have zy : (pdB yn 4).size = 4 := pdB_size _ _
  have zm : (pdB mn 2).size = 2 := pdB_size _ _
  have zdd : (pdB dn 2).size = 2 := pdB_size _ _
  have zym : (pdB yn 4 ++ pdB mn 2).size = 6 := by rw [ByteArray.size_append, zy, zm]
  have zymd : (pdB yn 4 ++ pdB mn 2 ++ pdB dn 2).size = 8 := by rw [ByteArray.size_append, zym, zdd]
  have hSs : S.size ≤ 21 := by rw [← hS, zymd]; omega
  have hA9 : A ≤ 99 := by omega
  have hB9 : B ≤ 99 := by omega
  have zA : (pdB A 2).size = 2 := pdB_size _ _
  have zB : (pdB B 2).size = 2 := pdB_size _ _
  obtain ⟨ns, hns⟩ : ∃ ns, S.size = ns := ⟨_, rfl⟩
  have y1 : (S ++ (⟨#[45]⟩ : ByteArray)).size = ns + 1 := by rw [ByteArray.size_append, hns]; rfl
  have y2 : (S ++ (⟨#[45]⟩ : ByteArray) ++ pdB A 2).size = ns + 3 := by rw [ByteArray.size_append, y1, zA]
  rw [hns] at hSs
  have w1 : ¬ (9223372036854775807 < ns + 1) := by omega
  have w2 : ¬ (9223372036854775807 < ns + 1 + 2) := by omega
  have w3 : ¬ (9223372036854775807 < ns + 3 + 2) := by omega
  have w1' : ns + 1 ≤ 9223372036854775807 := by omega
  have w2' : ns + 1 + 2 ≤ 9223372036854775807 := by omega
  have w3' : ns + 3 + 2 ≤ 9223372036854775807 := by omega
  have hzI : decide (z < 0) = true := by simp; omega
  have hFA : Fit6 (A : Int) 2 := ⟨A, 2, rfl, rfl, by omega, by omega, by omega, by omega⟩
  have hFB : Fit6 (B : Int) 2 := ⟨B, 2, rfl, rfl, by omega, by omega, by omega, by omega⟩
  have c36z : ∀ (W : World) (nI kI : Int), Fit6 nI kI → Calls Tryd.prog 36 #[.int .i64 nI, .int .i64 kI] W fun e w' => e = .returned (.string (pdB nI.toNat kI.toNat)) ∧ Below W.heap.size W w' := by
    rintro W nI kI ⟨n, k, rfl, rfl, _, _, hk, hn⟩
    exact pad6_any W n k hn hk
  obtain ⟨zn, hzn⟩ : ∃ zn : Int, - z = zn := ⟨_, rfl⟩
  have hz0 : 0 ≤ zn := by omega
  have hz9 : zn ≤ 720 := by omega
  have fz : IntKind.i64.wrap zn = zn := by rw [IntKind.wrap_i64]; omega
  rw [hzn] at hA hB0
  have f3 : Int.tdiv zn 60 = (A : Int) := by rw [Int.tdiv_eq_ediv_of_nonneg (by omega)]; exact hA
  have f2 : Int.tmod zn 60 = (B : Int) := by rw [Int.tmod_eq_emod_of_nonneg (by omega)]; exact hB0
  have fA : IntKind.i64.wrap (A : Int) = (A : Int) := by rw [IntKind.wrap_i64]; omega
  have fB : IntKind.i64.wrap (B : Int) = (B : Int) := by rw [IntKind.wrap_i64]; omega
  have hqq : q + 1 ≠ q := by omega
  unfold mv at *
  have HS : Hid _ := hS
  go_enter Tryd.func23, Tryd.ntmps23
  go_wp2_with (go_at_call 51; refine Stop.mk ?_)
  refine Stop.out ((c51 _).mono ?_)
  rintro e W2 ⟨rfl, hb2⟩
  have HM2 : Hid _ := HM.out.on hb2
  clear hb2 c51 HM q0 q1 q2 q3 q4 q5 q6 q7 q8 q9 q10
  have hR := HM2.out.r
  rw [hq] at hR
  have q0 : W2.cell? ⟨q, 0, none⟩ = some (.int .i64 (yn : Int)) := hR.cell (i := 0) (by omega)
  have q1 : W2.cell? ⟨q, 1, none⟩ = some (.int .i64 (mn : Int)) := hR.cell (i := 1) (by omega)
  have q2 : W2.cell? ⟨q, 2, none⟩ = some (.int .i64 (dn : Int)) := hR.cell (i := 2) (by omega)
  have q3 : W2.cell? ⟨q, 3, none⟩ = some (.int .i64 3) := hR.cell (i := 3) (by omega)
  have q4 : W2.cell? ⟨q, 4, none⟩ = some (.int .i64 0) := hR.cell (i := 4) (by omega)
  have q5 : W2.cell? ⟨q, 5, none⟩ = some (.int .i64 0) := hR.cell (i := 5) (by omega)
  have q6 : W2.cell? ⟨q, 6, none⟩ = some (.int .i64 0) := hR.cell (i := 6) (by omega)
  have q7 : W2.cell? ⟨q, 7, none⟩ = some (.int .i64 0) := hR.cell (i := 7) (by omega)
  have q8 : W2.cell? ⟨q, 8, none⟩ = some (.int .i64 0) := hR.cell (i := 8) (by omega)
  have q9 : W2.cell? ⟨q, 9, none⟩ = some (.bool true) := hR.cell (i := 9) (by omega)
  have q10 : W2.cell? ⟨q, 10, none⟩ = some (.int .i64 z) := hR.cell (i := 10) (by omega)
  clear hR
  go_wp2_with (go_at_call 36; refine Stop.mk ?_)
  refine Stop.out ((c36 _ yn 4 (by omega) (by omega)).mono ?_)
  rintro e W3 ⟨rfl, hb⟩
  have HM3 : Hid _ := HM2.out.on hb
  clear hb HM2 q0 q1 q2 q3 q4 q5 q6 q7 q8 q9 q10
  have hR := HM3.out.r
  rw [hq] at hR
  have q0 : W3.cell? ⟨q, 0, none⟩ = some (.int .i64 (yn : Int)) := hR.cell (i := 0) (by omega)
  have q1 : W3.cell? ⟨q, 1, none⟩ = some (.int .i64 (mn : Int)) := hR.cell (i := 1) (by omega)
  have q2 : W3.cell? ⟨q, 2, none⟩ = some (.int .i64 (dn : Int)) := hR.cell (i := 2) (by omega)
  have q3 : W3.cell? ⟨q, 3, none⟩ = some (.int .i64 3) := hR.cell (i := 3) (by omega)
  have q4 : W3.cell? ⟨q, 4, none⟩ = some (.int .i64 0) := hR.cell (i := 4) (by omega)
  have q5 : W3.cell? ⟨q, 5, none⟩ = some (.int .i64 0) := hR.cell (i := 5) (by omega)
  have q6 : W3.cell? ⟨q, 6, none⟩ = some (.int .i64 0) := hR.cell (i := 6) (by omega)
  have q7 : W3.cell? ⟨q, 7, none⟩ = some (.int .i64 0) := hR.cell (i := 7) (by omega)
  have q8 : W3.cell? ⟨q, 8, none⟩ = some (.int .i64 0) := hR.cell (i := 8) (by omega)
  have q9 : W3.cell? ⟨q, 9, none⟩ = some (.bool true) := hR.cell (i := 9) (by omega)
  have q10 : W3.cell? ⟨q, 10, none⟩ = some (.int .i64 z) := hR.cell (i := 10) (by omega)
  clear hR
  go_wp2_with (go_at_call 36; refine Stop.mk ?_)
  refine Stop.out ((c36 _ mn 2 (by omega) (by omega)).mono ?_)
  rintro e W4 ⟨rfl, hb⟩
  have HM4 : Hid _ := HM3.out.on hb
  clear hb HM3 q0 q1 q2 q3 q4 q5 q6 q7 q8 q9 q10
  have hR := HM4.out.r
  rw [hq] at hR
  have q0 : W4.cell? ⟨q, 0, none⟩ = some (.int .i64 (yn : Int)) := hR.cell (i := 0) (by omega)
  have q1 : W4.cell? ⟨q, 1, none⟩ = some (.int .i64 (mn : Int)) := hR.cell (i := 1) (by omega)
  have q2 : W4.cell? ⟨q, 2, none⟩ = some (.int .i64 (dn : Int)) := hR.cell (i := 2) (by omega)
  have q3 : W4.cell? ⟨q, 3, none⟩ = some (.int .i64 3) := hR.cell (i := 3) (by omega)
  have q4 : W4.cell? ⟨q, 4, none⟩ = some (.int .i64 0) := hR.cell (i := 4) (by omega)
  have q5 : W4.cell? ⟨q, 5, none⟩ = some (.int .i64 0) := hR.cell (i := 5) (by omega)
  have q6 : W4.cell? ⟨q, 6, none⟩ = some (.int .i64 0) := hR.cell (i := 6) (by omega)
  have q7 : W4.cell? ⟨q, 7, none⟩ = some (.int .i64 0) := hR.cell (i := 7) (by omega)
  have q8 : W4.cell? ⟨q, 8, none⟩ = some (.int .i64 0) := hR.cell (i := 8) (by omega)
  have q9 : W4.cell? ⟨q, 9, none⟩ = some (.bool true) := hR.cell (i := 9) (by omega)
  have q10 : W4.cell? ⟨q, 10, none⟩ = some (.int .i64 z) := hR.cell (i := 10) (by omega)
  clear hR
  go_wp2_with (go_at_call 36; refine Stop.mk ?_)
  refine Stop.out ((c36 _ dn 2 (by omega) (by omega)).mono ?_)
  rintro e W5 ⟨rfl, hb⟩
  have HM5 : Hid _ := HM4.out.on hb
  clear hb HM4 q0 q1 q2 q3 q4 q5 q6 q7 q8 q9 q10
  have hR := HM5.out.r
  rw [hq] at hR
  have q0 : W5.cell? ⟨q, 0, none⟩ = some (.int .i64 (yn : Int)) := hR.cell (i := 0) (by omega)
  have q1 : W5.cell? ⟨q, 1, none⟩ = some (.int .i64 (mn : Int)) := hR.cell (i := 1) (by omega)
  have q2 : W5.cell? ⟨q, 2, none⟩ = some (.int .i64 (dn : Int)) := hR.cell (i := 2) (by omega)
  have q3 : W5.cell? ⟨q, 3, none⟩ = some (.int .i64 3) := hR.cell (i := 3) (by omega)
  have q4 : W5.cell? ⟨q, 4, none⟩ = some (.int .i64 0) := hR.cell (i := 4) (by omega)
  have q5 : W5.cell? ⟨q, 5, none⟩ = some (.int .i64 0) := hR.cell (i := 5) (by omega)
  have q6 : W5.cell? ⟨q, 6, none⟩ = some (.int .i64 0) := hR.cell (i := 6) (by omega)
  have q7 : W5.cell? ⟨q, 7, none⟩ = some (.int .i64 0) := hR.cell (i := 7) (by omega)
  have q8 : W5.cell? ⟨q, 8, none⟩ = some (.int .i64 0) := hR.cell (i := 8) (by omega)
  have q9 : W5.cell? ⟨q, 9, none⟩ = some (.bool true) := hR.cell (i := 9) (by omega)
  have q10 : W5.cell? ⟨q, 10, none⟩ = some (.int .i64 z) := hR.cell (i := 10) (by omega)
  clear hR
  have hM := HM5.out
  have hB : MN w W5.drew 50 11 (mf yn mn dn 3 0 0 0 0 0 true z) := ⟨hM.r, hM.e, hM.b.drew⟩
  go_wp2
  go_region_held3 (fun w' => w'.cell? ⟨q, 10, none⟩ = some (.int .i64 z)) (first | exact hB.c10 hq | exact (cell_set_off hqq).trans (hB.c10 hq) | exact (cell_set_off hqq).trans ((cell_set_off hqq).trans (hB.c10 hq))) (first | (go_at_call 36; refine (c36z _ _ _ ?_).mono ?_; (focus (first | exact hFA | exact hFB)); rintro e W6 ⟨rfl, hb6⟩; replace hB := hB.on hb6) | (go_at_call 34; refine (c34 _).mono ?_; rintro e W6 ⟨rfl, hb6⟩; replace hB := hB.on hb6; have hE6 := hB.e; rw [hq] at hE6; have s0 : W6.cell? ⟨q + 1, 0, none⟩ = some (.slice none 0 0) := hE6.cell (i := 0) (by omega); have s1 : W6.cell? ⟨q + 1, 1, none⟩ = some (.int .i64 0) := hE6.cell (i := 1) (by omega); have sf := fun i => hE6.frozen i; clear hE6))
  all_goals
    have hB10 := hB.b
    rw [hq] at hB10
    go_wp2
    refine bodyPost_ret (v := .tuple #[.string (S ++ ⟨#[45]⟩ ++ pdB A 2 ++ pdB B 2), .agg #[.slice none 0 0, .int .i64 0]]) (by simp [results, Tryd.results23, go_sem, s0, s1]) rfl ⟨_, rfl, rfl, ?_⟩
    rw [hq]
    exact (hB10.setCell (p := ⟨q + 1, 0, none⟩) (Nat.le_succ _) _).setCell (p := ⟨q + 1, 1, none⟩) (Nat.le_succ _) _

set_option maxRecDepth 100000 in
set_option maxHeartbeats 2000000 in
theorem prt23_3zp (w : World) (yn mn dn : Nat) (z : Int) (a1 : yn ≤ 9999) (a2 : mn ≤ 99) (a3 : dn ≤ 99) (hz : 0 ≤ z) (hz2 : z ≤ 840) (A B : Nat) (hA : z / 60 = (A : Int)) (hB0 : z % 60 = (B : Int)) (c51 : ∀ W, Calls Tryd.prog 51 #[mv yn mn dn 3 0 0 0 0 0 true z] W fun e w' => e = .returned (.int .i64 (-1)) ∧ Below W.heap.size W w') (S : ByteArray) (hS : (pdB yn 4 ++ pdB mn 2 ++ pdB dn 2) = S) : Calls Tryd.prog 23 #[mv yn mn dn 3 0 0 0 0 0 true z] w (PostF w (.string (S ++ ⟨#[43]⟩ ++ pdB A 2 ++ pdB B 2)) none) := by
  obtain ⟨q, hq⟩ : ∃ q, w.heap.size = q := ⟨_, rfl⟩
  obtain ⟨W1, hW1⟩ : ∃ W1, w.alloc (.cells #[.int .i64 (yn : Int), .int .i64 (mn : Int), .int .i64 (dn : Int), .int .i64 3, .int .i64 0, .int .i64 0, .int .i64 0, .int .i64 0, .int .i64 0, .bool true, .int .i64 z] 50) = W1 := ⟨_, rfl⟩
  obtain ⟨W, hW⟩ : ∃ W, W1.alloc (.cells #[.slice none 0 0, .int .i64 0] 37) = W := ⟨_, rfl⟩
  have hs1 : W1.heap.size = q + 1 := by rw [← hW1, ← hq]; simp
  have HM : Hid (MN w W 50 11 (mf yn mn dn 3 0 0 0 0 0 true z)) := by
    show MN _ _ _ _ _
    rw [← hW, ← hW1]
    exact MN.start w _ 50
  have hR := HM.out.r
  rw [hq] at hR
  have q0 : W.cell? ⟨q, 0, none⟩ = some (.int .i64 (yn : Int)) := hR.cell (i := 0) (by omega)
  have q1 : W.cell? ⟨q, 1, none⟩ = some (.int .i64 (mn : Int)) := hR.cell (i := 1) (by omega)
  have q2 : W.cell? ⟨q, 2, none⟩ = some (.int .i64 (dn : Int)) := hR.cell (i := 2) (by omega)
  have q3 : W.cell? ⟨q, 3, none⟩ = some (.int .i64 3) := hR.cell (i := 3) (by omega)
  have q4 : W.cell? ⟨q, 4, none⟩ = some (.int .i64 0) := hR.cell (i := 4) (by omega)
  have q5 : W.cell? ⟨q, 5, none⟩ = some (.int .i64 0) := hR.cell (i := 5) (by omega)
  have q6 : W.cell? ⟨q, 6, none⟩ = some (.int .i64 0) := hR.cell (i := 6) (by omega)
  have q7 : W.cell? ⟨q, 7, none⟩ = some (.int .i64 0) := hR.cell (i := 7) (by omega)
  have q8 : W.cell? ⟨q, 8, none⟩ = some (.int .i64 0) := hR.cell (i := 8) (by omega)
  have q9 : W.cell? ⟨q, 9, none⟩ = some (.bool true) := hR.cell (i := 9) (by omega)
  have q10 : W.cell? ⟨q, 10, none⟩ = some (.int .i64 z) := hR.cell (i := 10) (by omega)
  clear hR
  have c36 : ∀ (W : World) (n k : Nat), n ≤ 999999 → k ≤ 6 → Calls Tryd.prog 36 #[.int .i64 (n : Int), .int .i64 (k : Int)] W fun e w' => e = .returned (.string (pdB n k)) ∧ Below W.heap.size W w' := fun W n k hn hk => pad6_any W n k hn hk
  have c34 := fun W' => none34_any W'
  have zy : (pdB yn 4).size = 4 := pdB_size _ _
  have zm : (pdB mn 2).size = 2 := pdB_size _ _
  have zdd : (pdB dn 2).size = 2 := pdB_size _ _
  have zym : (pdB yn 4 ++ pdB mn 2).size = 6 := by rw [ByteArray.size_append, zy, zm]
  have zymd : (pdB yn 4 ++ pdB mn 2 ++ pdB dn 2).size = 8 := by rw [ByteArray.size_append, zym, zdd]
  have hSs : S.size ≤ 21 := by rw [← hS, zymd]; omega
  have hA9 : A ≤ 99 := by omega
  have hB9 : B ≤ 99 := by omega
  have zA : (pdB A 2).size = 2 := pdB_size _ _
  have zB : (pdB B 2).size = 2 := pdB_size _ _
  obtain ⟨ns, hns⟩ : ∃ ns, S.size = ns := ⟨_, rfl⟩
  have y1 : (S ++ (⟨#[43]⟩ : ByteArray)).size = ns + 1 := by rw [ByteArray.size_append, hns]; rfl
  have y2 : (S ++ (⟨#[43]⟩ : ByteArray) ++ pdB A 2).size = ns + 3 := by rw [ByteArray.size_append, y1, zA]
  rw [hns] at hSs
  have w1 : ¬ (9223372036854775807 < ns + 1) := by omega
  have w2 : ¬ (9223372036854775807 < ns + 1 + 2) := by omega
  have w3 : ¬ (9223372036854775807 < ns + 3 + 2) := by omega
  have w1' : ns + 1 ≤ 9223372036854775807 := by omega
  have w2' : ns + 1 + 2 ≤ 9223372036854775807 := by omega
  have w3' : ns + 3 + 2 ≤ 9223372036854775807 := by omega
  have hzI : decide (z < 0) = false := by simp; omega
  have hFA : Fit6 (A : Int) 2 := ⟨A, 2, rfl, rfl, by omega, by omega, by omega, by omega⟩
  have hFB : Fit6 (B : Int) 2 := ⟨B, 2, rfl, rfl, by omega, by omega, by omega, by omega⟩
  have c36z : ∀ (W : World) (nI kI : Int), Fit6 nI kI → Calls Tryd.prog 36 #[.int .i64 nI, .int .i64 kI] W fun e w' => e = .returned (.string (pdB nI.toNat kI.toNat)) ∧ Below W.heap.size W w' := by
    rintro W nI kI ⟨n, k, rfl, rfl, _, _, hk, hn⟩
    exact pad6_any W n k hn hk
  have f3 : Int.tdiv z 60 = (A : Int) := by rw [Int.tdiv_eq_ediv_of_nonneg (by omega)]; exact hA
  have f2 : Int.tmod z 60 = (B : Int) := by rw [Int.tmod_eq_emod_of_nonneg (by omega)]; exact hB0
  have fA : IntKind.i64.wrap (A : Int) = (A : Int) := by rw [IntKind.wrap_i64]; omega
  have fB : IntKind.i64.wrap (B : Int) = (B : Int) := by rw [IntKind.wrap_i64]; omega
  have hqq : q + 1 ≠ q := by omega
  unfold mv at *
  have HS : Hid _ := hS
  go_enter Tryd.func23, Tryd.ntmps23
  go_wp2_with (go_at_call 51; refine Stop.mk ?_)
  refine Stop.out ((c51 _).mono ?_)
  rintro e W2 ⟨rfl, hb2⟩
  have HM2 : Hid _ := HM.out.on hb2
  clear hb2 c51 HM q0 q1 q2 q3 q4 q5 q6 q7 q8 q9 q10
  have hR := HM2.out.r
  rw [hq] at hR
  have q0 : W2.cell? ⟨q, 0, none⟩ = some (.int .i64 (yn : Int)) := hR.cell (i := 0) (by omega)
  have q1 : W2.cell? ⟨q, 1, none⟩ = some (.int .i64 (mn : Int)) := hR.cell (i := 1) (by omega)
  have q2 : W2.cell? ⟨q, 2, none⟩ = some (.int .i64 (dn : Int)) := hR.cell (i := 2) (by omega)
  have q3 : W2.cell? ⟨q, 3, none⟩ = some (.int .i64 3) := hR.cell (i := 3) (by omega)
  have q4 : W2.cell? ⟨q, 4, none⟩ = some (.int .i64 0) := hR.cell (i := 4) (by omega)
  have q5 : W2.cell? ⟨q, 5, none⟩ = some (.int .i64 0) := hR.cell (i := 5) (by omega)
  have q6 : W2.cell? ⟨q, 6, none⟩ = some (.int .i64 0) := hR.cell (i := 6) (by omega)
  have q7 : W2.cell? ⟨q, 7, none⟩ = some (.int .i64 0) := hR.cell (i := 7) (by omega)
  have q8 : W2.cell? ⟨q, 8, none⟩ = some (.int .i64 0) := hR.cell (i := 8) (by omega)
  have q9 : W2.cell? ⟨q, 9, none⟩ = some (.bool true) := hR.cell (i := 9) (by omega)
  have q10 : W2.cell? ⟨q, 10, none⟩ = some (.int .i64 z) := hR.cell (i := 10) (by omega)
  clear hR
  go_wp2_with (go_at_call 36; refine Stop.mk ?_)
  refine Stop.out ((c36 _ yn 4 (by omega) (by omega)).mono ?_)
  rintro e W3 ⟨rfl, hb⟩
  have HM3 : Hid _ := HM2.out.on hb
  clear hb HM2 q0 q1 q2 q3 q4 q5 q6 q7 q8 q9 q10
  have hR := HM3.out.r
  rw [hq] at hR
  have q0 : W3.cell? ⟨q, 0, none⟩ = some (.int .i64 (yn : Int)) := hR.cell (i := 0) (by omega)
  have q1 : W3.cell? ⟨q, 1, none⟩ = some (.int .i64 (mn : Int)) := hR.cell (i := 1) (by omega)
  have q2 : W3.cell? ⟨q, 2, none⟩ = some (.int .i64 (dn : Int)) := hR.cell (i := 2) (by omega)
  have q3 : W3.cell? ⟨q, 3, none⟩ = some (.int .i64 3) := hR.cell (i := 3) (by omega)
  have q4 : W3.cell? ⟨q, 4, none⟩ = some (.int .i64 0) := hR.cell (i := 4) (by omega)
  have q5 : W3.cell? ⟨q, 5, none⟩ = some (.int .i64 0) := hR.cell (i := 5) (by omega)
  have q6 : W3.cell? ⟨q, 6, none⟩ = some (.int .i64 0) := hR.cell (i := 6) (by omega)
  have q7 : W3.cell? ⟨q, 7, none⟩ = some (.int .i64 0) := hR.cell (i := 7) (by omega)
  have q8 : W3.cell? ⟨q, 8, none⟩ = some (.int .i64 0) := hR.cell (i := 8) (by omega)
  have q9 : W3.cell? ⟨q, 9, none⟩ = some (.bool true) := hR.cell (i := 9) (by omega)
  have q10 : W3.cell? ⟨q, 10, none⟩ = some (.int .i64 z) := hR.cell (i := 10) (by omega)
  clear hR
  go_wp2_with (go_at_call 36; refine Stop.mk ?_)
  refine Stop.out ((c36 _ mn 2 (by omega) (by omega)).mono ?_)
  rintro e W4 ⟨rfl, hb⟩
  have HM4 : Hid _ := HM3.out.on hb
  clear hb HM3 q0 q1 q2 q3 q4 q5 q6 q7 q8 q9 q10
  have hR := HM4.out.r
  rw [hq] at hR
  have q0 : W4.cell? ⟨q, 0, none⟩ = some (.int .i64 (yn : Int)) := hR.cell (i := 0) (by omega)
  have q1 : W4.cell? ⟨q, 1, none⟩ = some (.int .i64 (mn : Int)) := hR.cell (i := 1) (by omega)
  have q2 : W4.cell? ⟨q, 2, none⟩ = some (.int .i64 (dn : Int)) := hR.cell (i := 2) (by omega)
  have q3 : W4.cell? ⟨q, 3, none⟩ = some (.int .i64 3) := hR.cell (i := 3) (by omega)
  have q4 : W4.cell? ⟨q, 4, none⟩ = some (.int .i64 0) := hR.cell (i := 4) (by omega)
  have q5 : W4.cell? ⟨q, 5, none⟩ = some (.int .i64 0) := hR.cell (i := 5) (by omega)
  have q6 : W4.cell? ⟨q, 6, none⟩ = some (.int .i64 0) := hR.cell (i := 6) (by omega)
  have q7 : W4.cell? ⟨q, 7, none⟩ = some (.int .i64 0) := hR.cell (i := 7) (by omega)
  have q8 : W4.cell? ⟨q, 8, none⟩ = some (.int .i64 0) := hR.cell (i := 8) (by omega)
  have q9 : W4.cell? ⟨q, 9, none⟩ = some (.bool true) := hR.cell (i := 9) (by omega)
  have q10 : W4.cell? ⟨q, 10, none⟩ = some (.int .i64 z) := hR.cell (i := 10) (by omega)
  clear hR
  go_wp2_with (go_at_call 36; refine Stop.mk ?_)
  refine Stop.out ((c36 _ dn 2 (by omega) (by omega)).mono ?_)
  rintro e W5 ⟨rfl, hb⟩
  have HM5 : Hid _ := HM4.out.on hb
  clear hb HM4 q0 q1 q2 q3 q4 q5 q6 q7 q8 q9 q10
  have hR := HM5.out.r
  rw [hq] at hR
  have q0 : W5.cell? ⟨q, 0, none⟩ = some (.int .i64 (yn : Int)) := hR.cell (i := 0) (by omega)
  have q1 : W5.cell? ⟨q, 1, none⟩ = some (.int .i64 (mn : Int)) := hR.cell (i := 1) (by omega)
  have q2 : W5.cell? ⟨q, 2, none⟩ = some (.int .i64 (dn : Int)) := hR.cell (i := 2) (by omega)
  have q3 : W5.cell? ⟨q, 3, none⟩ = some (.int .i64 3) := hR.cell (i := 3) (by omega)
  have q4 : W5.cell? ⟨q, 4, none⟩ = some (.int .i64 0) := hR.cell (i := 4) (by omega)
  have q5 : W5.cell? ⟨q, 5, none⟩ = some (.int .i64 0) := hR.cell (i := 5) (by omega)
  have q6 : W5.cell? ⟨q, 6, none⟩ = some (.int .i64 0) := hR.cell (i := 6) (by omega)
  have q7 : W5.cell? ⟨q, 7, none⟩ = some (.int .i64 0) := hR.cell (i := 7) (by omega)
  have q8 : W5.cell? ⟨q, 8, none⟩ = some (.int .i64 0) := hR.cell (i := 8) (by omega)
  have q9 : W5.cell? ⟨q, 9, none⟩ = some (.bool true) := hR.cell (i := 9) (by omega)
  have q10 : W5.cell? ⟨q, 10, none⟩ = some (.int .i64 z) := hR.cell (i := 10) (by omega)
  clear hR
  have hM := HM5.out
  have hB : MN w W5.drew 50 11 (mf yn mn dn 3 0 0 0 0 0 true z) := ⟨hM.r, hM.e, hM.b.drew⟩
  go_wp2
  go_region_held3 (fun w' => w'.cell? ⟨q, 10, none⟩ = some (.int .i64 z)) (first | exact hB.c10 hq | exact (cell_set_off hqq).trans (hB.c10 hq) | exact (cell_set_off hqq).trans ((cell_set_off hqq).trans (hB.c10 hq))) (first | (go_at_call 36; refine (c36z _ _ _ ?_).mono ?_; (focus (first | exact hFA | exact hFB)); rintro e W6 ⟨rfl, hb6⟩; replace hB := hB.on hb6) | (go_at_call 34; refine (c34 _).mono ?_; rintro e W6 ⟨rfl, hb6⟩; replace hB := hB.on hb6; have hE6 := hB.e; rw [hq] at hE6; have s0 : W6.cell? ⟨q + 1, 0, none⟩ = some (.slice none 0 0) := hE6.cell (i := 0) (by omega); have s1 : W6.cell? ⟨q + 1, 1, none⟩ = some (.int .i64 0) := hE6.cell (i := 1) (by omega); have sf := fun i => hE6.frozen i; clear hE6))
  all_goals
    have hB10 := hB.b
    rw [hq] at hB10
    go_wp2
    refine bodyPost_ret (v := .tuple #[.string (S ++ ⟨#[43]⟩ ++ pdB A 2 ++ pdB B 2), .agg #[.slice none 0 0, .int .i64 0]]) (by simp [results, Tryd.results23, go_sem, s0, s1]) rfl ⟨_, rfl, rfl, ?_⟩
    rw [hq]
    exact (hB10.setCell (p := ⟨q + 1, 0, none⟩) (Nat.le_succ _) _).setCell (p := ⟨q + 1, 1, none⟩) (Nat.le_succ _) _

set_option maxRecDepth 100000 in
set_option maxHeartbeats 2000000 in
theorem prt23_3tf (w : World) (yn mn dn hn min sn cn pn : Nat) (z : Int) (a1 : yn ≤ 9999) (a2 : mn ≤ 99) (a3 : dn ≤ 99) (b1 : hn ≤ 99) (b2 : min ≤ 99) (b3 : sn ≤ 99) (b4 : cn ≤ 999999) (b5 : 1 ≤ pn) (b6 : pn ≤ 9) (c51 : ∀ W, Calls Tryd.prog 51 #[mv yn mn dn 3 hn min sn cn pn false z] W fun e w' => e = .returned (.int .i64 (-1)) ∧ Below W.heap.size W w') (S : ByteArray) (hS : (pdB yn 4 ++ pdB mn 2 ++ pdB dn 2) ++ tT hn min sn cn pn = S) : Calls Tryd.prog 23 #[mv yn mn dn 3 hn min sn cn pn false z] w (PostF w (.string (S)) none) := by
  obtain ⟨q, hq⟩ : ∃ q, w.heap.size = q := ⟨_, rfl⟩
  obtain ⟨W1, hW1⟩ : ∃ W1, w.alloc (.cells #[.int .i64 (yn : Int), .int .i64 (mn : Int), .int .i64 (dn : Int), .int .i64 3, .int .i64 (hn : Int), .int .i64 (min : Int), .int .i64 (sn : Int), .int .i64 (cn : Int), .int .i64 (pn : Int), .bool false, .int .i64 z] 50) = W1 := ⟨_, rfl⟩
  obtain ⟨W, hW⟩ : ∃ W, W1.alloc (.cells #[.slice none 0 0, .int .i64 0] 37) = W := ⟨_, rfl⟩
  have hs1 : W1.heap.size = q + 1 := by rw [← hW1, ← hq]; simp
  have HM : Hid (MN w W 50 11 (mf yn mn dn 3 hn min sn cn pn false z)) := by
    show MN _ _ _ _ _
    rw [← hW, ← hW1]
    exact MN.start w _ 50
  have hR := HM.out.r
  rw [hq] at hR
  have q0 : W.cell? ⟨q, 0, none⟩ = some (.int .i64 (yn : Int)) := hR.cell (i := 0) (by omega)
  have q1 : W.cell? ⟨q, 1, none⟩ = some (.int .i64 (mn : Int)) := hR.cell (i := 1) (by omega)
  have q2 : W.cell? ⟨q, 2, none⟩ = some (.int .i64 (dn : Int)) := hR.cell (i := 2) (by omega)
  have q3 : W.cell? ⟨q, 3, none⟩ = some (.int .i64 3) := hR.cell (i := 3) (by omega)
  have q4 : W.cell? ⟨q, 4, none⟩ = some (.int .i64 (hn : Int)) := hR.cell (i := 4) (by omega)
  have q5 : W.cell? ⟨q, 5, none⟩ = some (.int .i64 (min : Int)) := hR.cell (i := 5) (by omega)
  have q6 : W.cell? ⟨q, 6, none⟩ = some (.int .i64 (sn : Int)) := hR.cell (i := 6) (by omega)
  have q7 : W.cell? ⟨q, 7, none⟩ = some (.int .i64 (cn : Int)) := hR.cell (i := 7) (by omega)
  have q8 : W.cell? ⟨q, 8, none⟩ = some (.int .i64 (pn : Int)) := hR.cell (i := 8) (by omega)
  have q9 : W.cell? ⟨q, 9, none⟩ = some (.bool false) := hR.cell (i := 9) (by omega)
  have q10 : W.cell? ⟨q, 10, none⟩ = some (.int .i64 z) := hR.cell (i := 10) (by omega)
  clear hR
  have c36 : ∀ (W : World) (n k : Nat), n ≤ 999999 → k ≤ 6 → Calls Tryd.prog 36 #[.int .i64 (n : Int), .int .i64 (k : Int)] W fun e w' => e = .returned (.string (pdB n k)) ∧ Below W.heap.size W w' := fun W n k hn hk => pad6_any W n k hn hk
  have c34 := fun W' => none34_any W'
  have zy : (pdB yn 4).size = 4 := pdB_size _ _
  have zm : (pdB mn 2).size = 2 := pdB_size _ _
  have zdd : (pdB dn 2).size = 2 := pdB_size _ _
  have zym : (pdB yn 4 ++ pdB mn 2).size = 6 := by rw [ByteArray.size_append, zy, zm]
  have zymd : (pdB yn 4 ++ pdB mn 2 ++ pdB dn 2).size = 8 := by rw [ByteArray.size_append, zym, zdd]
  have c46 := fun W' => text46_any W' hn min sn cn pn b1 b2 b3 b4 b5 b6
  have ht := tT_size hn min sn cn pn b6
  have hpI : decide ((0 : Int) < (pn : Int)) = true := by simp; omega
  generalize tT hn min sn cn pn = TX at *
  have hcat1 : ¬ (9223372036854775807 < (pdB yn 4 ++ pdB mn 2 ++ pdB dn 2).size + TX.size) := by rw [zymd]; omega
  have hcat2 : (pdB yn 4 ++ pdB mn 2 ++ pdB dn 2).size + TX.size ≤ 9223372036854775807 := by omega
  have hSs : S.size ≤ 21 := by rw [← hS, ByteArray.size_append, zymd]; omega
  unfold t5 at c46
  unfold mv at *
  have HS : Hid _ := hS
  go_enter Tryd.func23, Tryd.ntmps23
  go_wp2_with (go_at_call 51; refine Stop.mk ?_)
  refine Stop.out ((c51 _).mono ?_)
  rintro e W2 ⟨rfl, hb2⟩
  have HM2 : Hid _ := HM.out.on hb2
  clear hb2 c51 HM q0 q1 q2 q3 q4 q5 q6 q7 q8 q9 q10
  have hR := HM2.out.r
  rw [hq] at hR
  have q0 : W2.cell? ⟨q, 0, none⟩ = some (.int .i64 (yn : Int)) := hR.cell (i := 0) (by omega)
  have q1 : W2.cell? ⟨q, 1, none⟩ = some (.int .i64 (mn : Int)) := hR.cell (i := 1) (by omega)
  have q2 : W2.cell? ⟨q, 2, none⟩ = some (.int .i64 (dn : Int)) := hR.cell (i := 2) (by omega)
  have q3 : W2.cell? ⟨q, 3, none⟩ = some (.int .i64 3) := hR.cell (i := 3) (by omega)
  have q4 : W2.cell? ⟨q, 4, none⟩ = some (.int .i64 (hn : Int)) := hR.cell (i := 4) (by omega)
  have q5 : W2.cell? ⟨q, 5, none⟩ = some (.int .i64 (min : Int)) := hR.cell (i := 5) (by omega)
  have q6 : W2.cell? ⟨q, 6, none⟩ = some (.int .i64 (sn : Int)) := hR.cell (i := 6) (by omega)
  have q7 : W2.cell? ⟨q, 7, none⟩ = some (.int .i64 (cn : Int)) := hR.cell (i := 7) (by omega)
  have q8 : W2.cell? ⟨q, 8, none⟩ = some (.int .i64 (pn : Int)) := hR.cell (i := 8) (by omega)
  have q9 : W2.cell? ⟨q, 9, none⟩ = some (.bool false) := hR.cell (i := 9) (by omega)
  have q10 : W2.cell? ⟨q, 10, none⟩ = some (.int .i64 z) := hR.cell (i := 10) (by omega)
  clear hR
  go_wp2_with (go_at_call 36; refine Stop.mk ?_)
  refine Stop.out ((c36 _ yn 4 (by omega) (by omega)).mono ?_)
  rintro e W3 ⟨rfl, hb⟩
  have HM3 : Hid _ := HM2.out.on hb
  clear hb HM2 q0 q1 q2 q3 q4 q5 q6 q7 q8 q9 q10
  have hR := HM3.out.r
  rw [hq] at hR
  have q0 : W3.cell? ⟨q, 0, none⟩ = some (.int .i64 (yn : Int)) := hR.cell (i := 0) (by omega)
  have q1 : W3.cell? ⟨q, 1, none⟩ = some (.int .i64 (mn : Int)) := hR.cell (i := 1) (by omega)
  have q2 : W3.cell? ⟨q, 2, none⟩ = some (.int .i64 (dn : Int)) := hR.cell (i := 2) (by omega)
  have q3 : W3.cell? ⟨q, 3, none⟩ = some (.int .i64 3) := hR.cell (i := 3) (by omega)
  have q4 : W3.cell? ⟨q, 4, none⟩ = some (.int .i64 (hn : Int)) := hR.cell (i := 4) (by omega)
  have q5 : W3.cell? ⟨q, 5, none⟩ = some (.int .i64 (min : Int)) := hR.cell (i := 5) (by omega)
  have q6 : W3.cell? ⟨q, 6, none⟩ = some (.int .i64 (sn : Int)) := hR.cell (i := 6) (by omega)
  have q7 : W3.cell? ⟨q, 7, none⟩ = some (.int .i64 (cn : Int)) := hR.cell (i := 7) (by omega)
  have q8 : W3.cell? ⟨q, 8, none⟩ = some (.int .i64 (pn : Int)) := hR.cell (i := 8) (by omega)
  have q9 : W3.cell? ⟨q, 9, none⟩ = some (.bool false) := hR.cell (i := 9) (by omega)
  have q10 : W3.cell? ⟨q, 10, none⟩ = some (.int .i64 z) := hR.cell (i := 10) (by omega)
  clear hR
  go_wp2_with (go_at_call 36; refine Stop.mk ?_)
  refine Stop.out ((c36 _ mn 2 (by omega) (by omega)).mono ?_)
  rintro e W4 ⟨rfl, hb⟩
  have HM4 : Hid _ := HM3.out.on hb
  clear hb HM3 q0 q1 q2 q3 q4 q5 q6 q7 q8 q9 q10
  have hR := HM4.out.r
  rw [hq] at hR
  have q0 : W4.cell? ⟨q, 0, none⟩ = some (.int .i64 (yn : Int)) := hR.cell (i := 0) (by omega)
  have q1 : W4.cell? ⟨q, 1, none⟩ = some (.int .i64 (mn : Int)) := hR.cell (i := 1) (by omega)
  have q2 : W4.cell? ⟨q, 2, none⟩ = some (.int .i64 (dn : Int)) := hR.cell (i := 2) (by omega)
  have q3 : W4.cell? ⟨q, 3, none⟩ = some (.int .i64 3) := hR.cell (i := 3) (by omega)
  have q4 : W4.cell? ⟨q, 4, none⟩ = some (.int .i64 (hn : Int)) := hR.cell (i := 4) (by omega)
  have q5 : W4.cell? ⟨q, 5, none⟩ = some (.int .i64 (min : Int)) := hR.cell (i := 5) (by omega)
  have q6 : W4.cell? ⟨q, 6, none⟩ = some (.int .i64 (sn : Int)) := hR.cell (i := 6) (by omega)
  have q7 : W4.cell? ⟨q, 7, none⟩ = some (.int .i64 (cn : Int)) := hR.cell (i := 7) (by omega)
  have q8 : W4.cell? ⟨q, 8, none⟩ = some (.int .i64 (pn : Int)) := hR.cell (i := 8) (by omega)
  have q9 : W4.cell? ⟨q, 9, none⟩ = some (.bool false) := hR.cell (i := 9) (by omega)
  have q10 : W4.cell? ⟨q, 10, none⟩ = some (.int .i64 z) := hR.cell (i := 10) (by omega)
  clear hR
  go_wp2_with (go_at_call 36; refine Stop.mk ?_)
  refine Stop.out ((c36 _ dn 2 (by omega) (by omega)).mono ?_)
  rintro e W5 ⟨rfl, hb⟩
  have HM5 : Hid _ := HM4.out.on hb
  clear hb HM4 q0 q1 q2 q3 q4 q5 q6 q7 q8 q9 q10
  have hR := HM5.out.r
  rw [hq] at hR
  have q0 : W5.cell? ⟨q, 0, none⟩ = some (.int .i64 (yn : Int)) := hR.cell (i := 0) (by omega)
  have q1 : W5.cell? ⟨q, 1, none⟩ = some (.int .i64 (mn : Int)) := hR.cell (i := 1) (by omega)
  have q2 : W5.cell? ⟨q, 2, none⟩ = some (.int .i64 (dn : Int)) := hR.cell (i := 2) (by omega)
  have q3 : W5.cell? ⟨q, 3, none⟩ = some (.int .i64 3) := hR.cell (i := 3) (by omega)
  have q4 : W5.cell? ⟨q, 4, none⟩ = some (.int .i64 (hn : Int)) := hR.cell (i := 4) (by omega)
  have q5 : W5.cell? ⟨q, 5, none⟩ = some (.int .i64 (min : Int)) := hR.cell (i := 5) (by omega)
  have q6 : W5.cell? ⟨q, 6, none⟩ = some (.int .i64 (sn : Int)) := hR.cell (i := 6) (by omega)
  have q7 : W5.cell? ⟨q, 7, none⟩ = some (.int .i64 (cn : Int)) := hR.cell (i := 7) (by omega)
  have q8 : W5.cell? ⟨q, 8, none⟩ = some (.int .i64 (pn : Int)) := hR.cell (i := 8) (by omega)
  have q9 : W5.cell? ⟨q, 9, none⟩ = some (.bool false) := hR.cell (i := 9) (by omega)
  have q10 : W5.cell? ⟨q, 10, none⟩ = some (.int .i64 z) := hR.cell (i := 10) (by omega)
  clear hR
  go_wp2_with (go_at_call 46; refine Stop.mk ?_)
  refine Stop.out ((c46 _).mono ?_)
  rintro e W6 ⟨rfl, hb⟩
  have HM6 : Hid _ := HM5.out.on hb
  clear hb HM5 q0 q1 q2 q3 q4 q5 q6 q7 q8 q9 q10
  have hR := HM6.out.r
  rw [hq] at hR
  have q0 : W6.cell? ⟨q, 0, none⟩ = some (.int .i64 (yn : Int)) := hR.cell (i := 0) (by omega)
  have q1 : W6.cell? ⟨q, 1, none⟩ = some (.int .i64 (mn : Int)) := hR.cell (i := 1) (by omega)
  have q2 : W6.cell? ⟨q, 2, none⟩ = some (.int .i64 (dn : Int)) := hR.cell (i := 2) (by omega)
  have q3 : W6.cell? ⟨q, 3, none⟩ = some (.int .i64 3) := hR.cell (i := 3) (by omega)
  have q4 : W6.cell? ⟨q, 4, none⟩ = some (.int .i64 (hn : Int)) := hR.cell (i := 4) (by omega)
  have q5 : W6.cell? ⟨q, 5, none⟩ = some (.int .i64 (min : Int)) := hR.cell (i := 5) (by omega)
  have q6 : W6.cell? ⟨q, 6, none⟩ = some (.int .i64 (sn : Int)) := hR.cell (i := 6) (by omega)
  have q7 : W6.cell? ⟨q, 7, none⟩ = some (.int .i64 (cn : Int)) := hR.cell (i := 7) (by omega)
  have q8 : W6.cell? ⟨q, 8, none⟩ = some (.int .i64 (pn : Int)) := hR.cell (i := 8) (by omega)
  have q9 : W6.cell? ⟨q, 9, none⟩ = some (.bool false) := hR.cell (i := 9) (by omega)
  have q10 : W6.cell? ⟨q, 10, none⟩ = some (.int .i64 z) := hR.cell (i := 10) (by omega)
  clear hR
  go_wp2_with (go_at_call 34; refine Stop.mk ?_)
  refine Stop.out ((c34 _).mono ?_)
  rintro e W9 ⟨rfl, hb⟩
  have HM9 : Hid _ := HM6.out.on hb
  clear hb
  have hM9 := HM9.out
  have hE9 := hM9.e
  have hB9 := hM9.b
  rw [hq] at hE9 hB9
  have s0 : W9.cell? ⟨q + 1, 0, none⟩ = some (.slice none 0 0) := hE9.cell (i := 0) (by omega)
  have s1 : W9.cell? ⟨q + 1, 1, none⟩ = some (.int .i64 0) := hE9.cell (i := 1) (by omega)
  have sf := fun i => hE9.frozen i
  have HB9 : Hid _ := hB9
  clear hM9 hE9 hB9
  go_wp2
  refine bodyPost_ret (v := .tuple #[.string (S), .agg #[.slice none 0 0, .int .i64 0]]) (by simp [results, Tryd.results23, go_sem, s0, s1]) rfl ⟨_, rfl, rfl, ?_⟩
  rw [hq]
  exact (HB9.out.setCell (p := ⟨q + 1, 0, none⟩) (Nat.le_succ _) _).setCell (p := ⟨q + 1, 1, none⟩) (Nat.le_succ _) _

set_option maxRecDepth 100000 in
set_option maxHeartbeats 2000000 in
theorem prt23_3tn (w : World) (yn mn dn hn min sn cn pn : Nat) (z : Int) (a1 : yn ≤ 9999) (a2 : mn ≤ 99) (a3 : dn ≤ 99) (b1 : hn ≤ 99) (b2 : min ≤ 99) (b3 : sn ≤ 99) (b4 : cn ≤ 999999) (b5 : 1 ≤ pn) (b6 : pn ≤ 9) (hz : z < 0) (hz2 : -720 ≤ z) (A B : Nat) (hA : - z / 60 = (A : Int)) (hB0 : - z % 60 = (B : Int)) (c51 : ∀ W, Calls Tryd.prog 51 #[mv yn mn dn 3 hn min sn cn pn true z] W fun e w' => e = .returned (.int .i64 (-1)) ∧ Below W.heap.size W w') (S : ByteArray) (hS : (pdB yn 4 ++ pdB mn 2 ++ pdB dn 2) ++ tT hn min sn cn pn = S) : Calls Tryd.prog 23 #[mv yn mn dn 3 hn min sn cn pn true z] w (PostF w (.string (S ++ ⟨#[45]⟩ ++ pdB A 2 ++ pdB B 2)) none) := by
  obtain ⟨q, hq⟩ : ∃ q, w.heap.size = q := ⟨_, rfl⟩
  obtain ⟨W1, hW1⟩ : ∃ W1, w.alloc (.cells #[.int .i64 (yn : Int), .int .i64 (mn : Int), .int .i64 (dn : Int), .int .i64 3, .int .i64 (hn : Int), .int .i64 (min : Int), .int .i64 (sn : Int), .int .i64 (cn : Int), .int .i64 (pn : Int), .bool true, .int .i64 z] 50) = W1 := ⟨_, rfl⟩
  obtain ⟨W, hW⟩ : ∃ W, W1.alloc (.cells #[.slice none 0 0, .int .i64 0] 37) = W := ⟨_, rfl⟩
  have hs1 : W1.heap.size = q + 1 := by rw [← hW1, ← hq]; simp
  have HM : Hid (MN w W 50 11 (mf yn mn dn 3 hn min sn cn pn true z)) := by
    show MN _ _ _ _ _
    rw [← hW, ← hW1]
    exact MN.start w _ 50
  have hR := HM.out.r
  rw [hq] at hR
  have q0 : W.cell? ⟨q, 0, none⟩ = some (.int .i64 (yn : Int)) := hR.cell (i := 0) (by omega)
  have q1 : W.cell? ⟨q, 1, none⟩ = some (.int .i64 (mn : Int)) := hR.cell (i := 1) (by omega)
  have q2 : W.cell? ⟨q, 2, none⟩ = some (.int .i64 (dn : Int)) := hR.cell (i := 2) (by omega)
  have q3 : W.cell? ⟨q, 3, none⟩ = some (.int .i64 3) := hR.cell (i := 3) (by omega)
  have q4 : W.cell? ⟨q, 4, none⟩ = some (.int .i64 (hn : Int)) := hR.cell (i := 4) (by omega)
  have q5 : W.cell? ⟨q, 5, none⟩ = some (.int .i64 (min : Int)) := hR.cell (i := 5) (by omega)
  have q6 : W.cell? ⟨q, 6, none⟩ = some (.int .i64 (sn : Int)) := hR.cell (i := 6) (by omega)
  have q7 : W.cell? ⟨q, 7, none⟩ = some (.int .i64 (cn : Int)) := hR.cell (i := 7) (by omega)
  have q8 : W.cell? ⟨q, 8, none⟩ = some (.int .i64 (pn : Int)) := hR.cell (i := 8) (by omega)
  have q9 : W.cell? ⟨q, 9, none⟩ = some (.bool true) := hR.cell (i := 9) (by omega)
  have q10 : W.cell? ⟨q, 10, none⟩ = some (.int .i64 z) := hR.cell (i := 10) (by omega)
  clear hR
  have c36 : ∀ (W : World) (n k : Nat), n ≤ 999999 → k ≤ 6 → Calls Tryd.prog 36 #[.int .i64 (n : Int), .int .i64 (k : Int)] W fun e w' => e = .returned (.string (pdB n k)) ∧ Below W.heap.size W w' := fun W n k hn hk => pad6_any W n k hn hk
  have c34 := fun W' => none34_any W'
  have zy : (pdB yn 4).size = 4 := pdB_size _ _
  have zm : (pdB mn 2).size = 2 := pdB_size _ _
  have zdd : (pdB dn 2).size = 2 := pdB_size _ _
  have zym : (pdB yn 4 ++ pdB mn 2).size = 6 := by rw [ByteArray.size_append, zy, zm]
  have zymd : (pdB yn 4 ++ pdB mn 2 ++ pdB dn 2).size = 8 := by rw [ByteArray.size_append, zym, zdd]
  have c46 := fun W' => text46_any W' hn min sn cn pn b1 b2 b3 b4 b5 b6
  have ht := tT_size hn min sn cn pn b6
  have hpI : decide ((0 : Int) < (pn : Int)) = true := by simp; omega
  generalize tT hn min sn cn pn = TX at *
  have hcat1 : ¬ (9223372036854775807 < (pdB yn 4 ++ pdB mn 2 ++ pdB dn 2).size + TX.size) := by rw [zymd]; omega
  have hcat2 : (pdB yn 4 ++ pdB mn 2 ++ pdB dn 2).size + TX.size ≤ 9223372036854775807 := by omega
  have hSs : S.size ≤ 21 := by rw [← hS, ByteArray.size_append, zymd]; omega
  unfold t5 at c46
  have hA9 : A ≤ 99 := by omega
  have hB9 : B ≤ 99 := by omega
  have zA : (pdB A 2).size = 2 := pdB_size _ _
  have zB : (pdB B 2).size = 2 := pdB_size _ _
  obtain ⟨ns, hns⟩ : ∃ ns, S.size = ns := ⟨_, rfl⟩
  have y1 : (S ++ (⟨#[45]⟩ : ByteArray)).size = ns + 1 := by rw [ByteArray.size_append, hns]; rfl
  have y2 : (S ++ (⟨#[45]⟩ : ByteArray) ++ pdB A 2).size = ns + 3 := by rw [ByteArray.size_append, y1, zA]
  rw [hns] at hSs
  have w1 : ¬ (9223372036854775807 < ns + 1) := by omega
  have w2 : ¬ (9223372036854775807 < ns + 1 + 2) := by omega
  have w3 : ¬ (9223372036854775807 < ns + 3 + 2) := by omega
  have w1' : ns + 1 ≤ 9223372036854775807 := by omega
  have w2' : ns + 1 + 2 ≤ 9223372036854775807 := by omega
  have w3' : ns + 3 + 2 ≤ 9223372036854775807 := by omega
  have hzI : decide (z < 0) = true := by simp; omega
  have hFA : Fit6 (A : Int) 2 := ⟨A, 2, rfl, rfl, by omega, by omega, by omega, by omega⟩
  have hFB : Fit6 (B : Int) 2 := ⟨B, 2, rfl, rfl, by omega, by omega, by omega, by omega⟩
  have c36z : ∀ (W : World) (nI kI : Int), Fit6 nI kI → Calls Tryd.prog 36 #[.int .i64 nI, .int .i64 kI] W fun e w' => e = .returned (.string (pdB nI.toNat kI.toNat)) ∧ Below W.heap.size W w' := by
    rintro W nI kI ⟨n, k, rfl, rfl, _, _, hk, hn⟩
    exact pad6_any W n k hn hk
  obtain ⟨zn, hzn⟩ : ∃ zn : Int, - z = zn := ⟨_, rfl⟩
  have hz0 : 0 ≤ zn := by omega
  have hz9 : zn ≤ 720 := by omega
  have fz : IntKind.i64.wrap zn = zn := by rw [IntKind.wrap_i64]; omega
  rw [hzn] at hA hB0
  have f3 : Int.tdiv zn 60 = (A : Int) := by rw [Int.tdiv_eq_ediv_of_nonneg (by omega)]; exact hA
  have f2 : Int.tmod zn 60 = (B : Int) := by rw [Int.tmod_eq_emod_of_nonneg (by omega)]; exact hB0
  have fA : IntKind.i64.wrap (A : Int) = (A : Int) := by rw [IntKind.wrap_i64]; omega
  have fB : IntKind.i64.wrap (B : Int) = (B : Int) := by rw [IntKind.wrap_i64]; omega
  have hqq : q + 1 ≠ q := by omega
  unfold mv at *
  have HS : Hid _ := hS
  go_enter Tryd.func23, Tryd.ntmps23
  go_wp2_with (go_at_call 51; refine Stop.mk ?_)
  refine Stop.out ((c51 _).mono ?_)
  rintro e W2 ⟨rfl, hb2⟩
  have HM2 : Hid _ := HM.out.on hb2
  clear hb2 c51 HM q0 q1 q2 q3 q4 q5 q6 q7 q8 q9 q10
  have hR := HM2.out.r
  rw [hq] at hR
  have q0 : W2.cell? ⟨q, 0, none⟩ = some (.int .i64 (yn : Int)) := hR.cell (i := 0) (by omega)
  have q1 : W2.cell? ⟨q, 1, none⟩ = some (.int .i64 (mn : Int)) := hR.cell (i := 1) (by omega)
  have q2 : W2.cell? ⟨q, 2, none⟩ = some (.int .i64 (dn : Int)) := hR.cell (i := 2) (by omega)
  have q3 : W2.cell? ⟨q, 3, none⟩ = some (.int .i64 3) := hR.cell (i := 3) (by omega)
  have q4 : W2.cell? ⟨q, 4, none⟩ = some (.int .i64 (hn : Int)) := hR.cell (i := 4) (by omega)
  have q5 : W2.cell? ⟨q, 5, none⟩ = some (.int .i64 (min : Int)) := hR.cell (i := 5) (by omega)
  have q6 : W2.cell? ⟨q, 6, none⟩ = some (.int .i64 (sn : Int)) := hR.cell (i := 6) (by omega)
  have q7 : W2.cell? ⟨q, 7, none⟩ = some (.int .i64 (cn : Int)) := hR.cell (i := 7) (by omega)
  have q8 : W2.cell? ⟨q, 8, none⟩ = some (.int .i64 (pn : Int)) := hR.cell (i := 8) (by omega)
  have q9 : W2.cell? ⟨q, 9, none⟩ = some (.bool true) := hR.cell (i := 9) (by omega)
  have q10 : W2.cell? ⟨q, 10, none⟩ = some (.int .i64 z) := hR.cell (i := 10) (by omega)
  clear hR
  go_wp2_with (go_at_call 36; refine Stop.mk ?_)
  refine Stop.out ((c36 _ yn 4 (by omega) (by omega)).mono ?_)
  rintro e W3 ⟨rfl, hb⟩
  have HM3 : Hid _ := HM2.out.on hb
  clear hb HM2 q0 q1 q2 q3 q4 q5 q6 q7 q8 q9 q10
  have hR := HM3.out.r
  rw [hq] at hR
  have q0 : W3.cell? ⟨q, 0, none⟩ = some (.int .i64 (yn : Int)) := hR.cell (i := 0) (by omega)
  have q1 : W3.cell? ⟨q, 1, none⟩ = some (.int .i64 (mn : Int)) := hR.cell (i := 1) (by omega)
  have q2 : W3.cell? ⟨q, 2, none⟩ = some (.int .i64 (dn : Int)) := hR.cell (i := 2) (by omega)
  have q3 : W3.cell? ⟨q, 3, none⟩ = some (.int .i64 3) := hR.cell (i := 3) (by omega)
  have q4 : W3.cell? ⟨q, 4, none⟩ = some (.int .i64 (hn : Int)) := hR.cell (i := 4) (by omega)
  have q5 : W3.cell? ⟨q, 5, none⟩ = some (.int .i64 (min : Int)) := hR.cell (i := 5) (by omega)
  have q6 : W3.cell? ⟨q, 6, none⟩ = some (.int .i64 (sn : Int)) := hR.cell (i := 6) (by omega)
  have q7 : W3.cell? ⟨q, 7, none⟩ = some (.int .i64 (cn : Int)) := hR.cell (i := 7) (by omega)
  have q8 : W3.cell? ⟨q, 8, none⟩ = some (.int .i64 (pn : Int)) := hR.cell (i := 8) (by omega)
  have q9 : W3.cell? ⟨q, 9, none⟩ = some (.bool true) := hR.cell (i := 9) (by omega)
  have q10 : W3.cell? ⟨q, 10, none⟩ = some (.int .i64 z) := hR.cell (i := 10) (by omega)
  clear hR
  go_wp2_with (go_at_call 36; refine Stop.mk ?_)
  refine Stop.out ((c36 _ mn 2 (by omega) (by omega)).mono ?_)
  rintro e W4 ⟨rfl, hb⟩
  have HM4 : Hid _ := HM3.out.on hb
  clear hb HM3 q0 q1 q2 q3 q4 q5 q6 q7 q8 q9 q10
  have hR := HM4.out.r
  rw [hq] at hR
  have q0 : W4.cell? ⟨q, 0, none⟩ = some (.int .i64 (yn : Int)) := hR.cell (i := 0) (by omega)
  have q1 : W4.cell? ⟨q, 1, none⟩ = some (.int .i64 (mn : Int)) := hR.cell (i := 1) (by omega)
  have q2 : W4.cell? ⟨q, 2, none⟩ = some (.int .i64 (dn : Int)) := hR.cell (i := 2) (by omega)
  have q3 : W4.cell? ⟨q, 3, none⟩ = some (.int .i64 3) := hR.cell (i := 3) (by omega)
  have q4 : W4.cell? ⟨q, 4, none⟩ = some (.int .i64 (hn : Int)) := hR.cell (i := 4) (by omega)
  have q5 : W4.cell? ⟨q, 5, none⟩ = some (.int .i64 (min : Int)) := hR.cell (i := 5) (by omega)
  have q6 : W4.cell? ⟨q, 6, none⟩ = some (.int .i64 (sn : Int)) := hR.cell (i := 6) (by omega)
  have q7 : W4.cell? ⟨q, 7, none⟩ = some (.int .i64 (cn : Int)) := hR.cell (i := 7) (by omega)
  have q8 : W4.cell? ⟨q, 8, none⟩ = some (.int .i64 (pn : Int)) := hR.cell (i := 8) (by omega)
  have q9 : W4.cell? ⟨q, 9, none⟩ = some (.bool true) := hR.cell (i := 9) (by omega)
  have q10 : W4.cell? ⟨q, 10, none⟩ = some (.int .i64 z) := hR.cell (i := 10) (by omega)
  clear hR
  go_wp2_with (go_at_call 36; refine Stop.mk ?_)
  refine Stop.out ((c36 _ dn 2 (by omega) (by omega)).mono ?_)
  rintro e W5 ⟨rfl, hb⟩
  have HM5 : Hid _ := HM4.out.on hb
  clear hb HM4 q0 q1 q2 q3 q4 q5 q6 q7 q8 q9 q10
  have hR := HM5.out.r
  rw [hq] at hR
  have q0 : W5.cell? ⟨q, 0, none⟩ = some (.int .i64 (yn : Int)) := hR.cell (i := 0) (by omega)
  have q1 : W5.cell? ⟨q, 1, none⟩ = some (.int .i64 (mn : Int)) := hR.cell (i := 1) (by omega)
  have q2 : W5.cell? ⟨q, 2, none⟩ = some (.int .i64 (dn : Int)) := hR.cell (i := 2) (by omega)
  have q3 : W5.cell? ⟨q, 3, none⟩ = some (.int .i64 3) := hR.cell (i := 3) (by omega)
  have q4 : W5.cell? ⟨q, 4, none⟩ = some (.int .i64 (hn : Int)) := hR.cell (i := 4) (by omega)
  have q5 : W5.cell? ⟨q, 5, none⟩ = some (.int .i64 (min : Int)) := hR.cell (i := 5) (by omega)
  have q6 : W5.cell? ⟨q, 6, none⟩ = some (.int .i64 (sn : Int)) := hR.cell (i := 6) (by omega)
  have q7 : W5.cell? ⟨q, 7, none⟩ = some (.int .i64 (cn : Int)) := hR.cell (i := 7) (by omega)
  have q8 : W5.cell? ⟨q, 8, none⟩ = some (.int .i64 (pn : Int)) := hR.cell (i := 8) (by omega)
  have q9 : W5.cell? ⟨q, 9, none⟩ = some (.bool true) := hR.cell (i := 9) (by omega)
  have q10 : W5.cell? ⟨q, 10, none⟩ = some (.int .i64 z) := hR.cell (i := 10) (by omega)
  clear hR
  go_wp2_with (go_at_call 46; refine Stop.mk ?_)
  refine Stop.out ((c46 _).mono ?_)
  rintro e W6 ⟨rfl, hb⟩
  have HM6 : Hid _ := HM5.out.on hb
  clear hb HM5 q0 q1 q2 q3 q4 q5 q6 q7 q8 q9 q10
  have hR := HM6.out.r
  rw [hq] at hR
  have q0 : W6.cell? ⟨q, 0, none⟩ = some (.int .i64 (yn : Int)) := hR.cell (i := 0) (by omega)
  have q1 : W6.cell? ⟨q, 1, none⟩ = some (.int .i64 (mn : Int)) := hR.cell (i := 1) (by omega)
  have q2 : W6.cell? ⟨q, 2, none⟩ = some (.int .i64 (dn : Int)) := hR.cell (i := 2) (by omega)
  have q3 : W6.cell? ⟨q, 3, none⟩ = some (.int .i64 3) := hR.cell (i := 3) (by omega)
  have q4 : W6.cell? ⟨q, 4, none⟩ = some (.int .i64 (hn : Int)) := hR.cell (i := 4) (by omega)
  have q5 : W6.cell? ⟨q, 5, none⟩ = some (.int .i64 (min : Int)) := hR.cell (i := 5) (by omega)
  have q6 : W6.cell? ⟨q, 6, none⟩ = some (.int .i64 (sn : Int)) := hR.cell (i := 6) (by omega)
  have q7 : W6.cell? ⟨q, 7, none⟩ = some (.int .i64 (cn : Int)) := hR.cell (i := 7) (by omega)
  have q8 : W6.cell? ⟨q, 8, none⟩ = some (.int .i64 (pn : Int)) := hR.cell (i := 8) (by omega)
  have q9 : W6.cell? ⟨q, 9, none⟩ = some (.bool true) := hR.cell (i := 9) (by omega)
  have q10 : W6.cell? ⟨q, 10, none⟩ = some (.int .i64 z) := hR.cell (i := 10) (by omega)
  clear hR
  have hM := HM6.out
  have hB : MN w W6.drew 50 11 (mf yn mn dn 3 hn min sn cn pn true z) := ⟨hM.r, hM.e, hM.b.drew⟩
  go_wp2
  go_region_held3 (fun w' => w'.cell? ⟨q, 10, none⟩ = some (.int .i64 z)) (first | exact hB.c10 hq | exact (cell_set_off hqq).trans (hB.c10 hq) | exact (cell_set_off hqq).trans ((cell_set_off hqq).trans (hB.c10 hq))) (first | (go_at_call 36; refine (c36z _ _ _ ?_).mono ?_; (focus (first | exact hFA | exact hFB)); rintro e W6 ⟨rfl, hb6⟩; replace hB := hB.on hb6) | (go_at_call 34; refine (c34 _).mono ?_; rintro e W6 ⟨rfl, hb6⟩; replace hB := hB.on hb6; have hE6 := hB.e; rw [hq] at hE6; have s0 : W6.cell? ⟨q + 1, 0, none⟩ = some (.slice none 0 0) := hE6.cell (i := 0) (by omega); have s1 : W6.cell? ⟨q + 1, 1, none⟩ = some (.int .i64 0) := hE6.cell (i := 1) (by omega); have sf := fun i => hE6.frozen i; clear hE6))
  all_goals
    have hB10 := hB.b
    rw [hq] at hB10
    go_wp2
    refine bodyPost_ret (v := .tuple #[.string (S ++ ⟨#[45]⟩ ++ pdB A 2 ++ pdB B 2), .agg #[.slice none 0 0, .int .i64 0]]) (by simp [results, Tryd.results23, go_sem, s0, s1]) rfl ⟨_, rfl, rfl, ?_⟩
    rw [hq]
    exact (hB10.setCell (p := ⟨q + 1, 0, none⟩) (Nat.le_succ _) _).setCell (p := ⟨q + 1, 1, none⟩) (Nat.le_succ _) _

set_option maxRecDepth 100000 in
set_option maxHeartbeats 2000000 in
theorem prt23_3tp (w : World) (yn mn dn hn min sn cn pn : Nat) (z : Int) (a1 : yn ≤ 9999) (a2 : mn ≤ 99) (a3 : dn ≤ 99) (b1 : hn ≤ 99) (b2 : min ≤ 99) (b3 : sn ≤ 99) (b4 : cn ≤ 999999) (b5 : 1 ≤ pn) (b6 : pn ≤ 9) (hz : 0 ≤ z) (hz2 : z ≤ 840) (A B : Nat) (hA : z / 60 = (A : Int)) (hB0 : z % 60 = (B : Int)) (c51 : ∀ W, Calls Tryd.prog 51 #[mv yn mn dn 3 hn min sn cn pn true z] W fun e w' => e = .returned (.int .i64 (-1)) ∧ Below W.heap.size W w') (S : ByteArray) (hS : (pdB yn 4 ++ pdB mn 2 ++ pdB dn 2) ++ tT hn min sn cn pn = S) : Calls Tryd.prog 23 #[mv yn mn dn 3 hn min sn cn pn true z] w (PostF w (.string (S ++ ⟨#[43]⟩ ++ pdB A 2 ++ pdB B 2)) none) := by
  obtain ⟨q, hq⟩ : ∃ q, w.heap.size = q := ⟨_, rfl⟩
  obtain ⟨W1, hW1⟩ : ∃ W1, w.alloc (.cells #[.int .i64 (yn : Int), .int .i64 (mn : Int), .int .i64 (dn : Int), .int .i64 3, .int .i64 (hn : Int), .int .i64 (min : Int), .int .i64 (sn : Int), .int .i64 (cn : Int), .int .i64 (pn : Int), .bool true, .int .i64 z] 50) = W1 := ⟨_, rfl⟩
  obtain ⟨W, hW⟩ : ∃ W, W1.alloc (.cells #[.slice none 0 0, .int .i64 0] 37) = W := ⟨_, rfl⟩
  have hs1 : W1.heap.size = q + 1 := by rw [← hW1, ← hq]; simp
  have HM : Hid (MN w W 50 11 (mf yn mn dn 3 hn min sn cn pn true z)) := by
    show MN _ _ _ _ _
    rw [← hW, ← hW1]
    exact MN.start w _ 50
  have hR := HM.out.r
  rw [hq] at hR
  have q0 : W.cell? ⟨q, 0, none⟩ = some (.int .i64 (yn : Int)) := hR.cell (i := 0) (by omega)
  have q1 : W.cell? ⟨q, 1, none⟩ = some (.int .i64 (mn : Int)) := hR.cell (i := 1) (by omega)
  have q2 : W.cell? ⟨q, 2, none⟩ = some (.int .i64 (dn : Int)) := hR.cell (i := 2) (by omega)
  have q3 : W.cell? ⟨q, 3, none⟩ = some (.int .i64 3) := hR.cell (i := 3) (by omega)
  have q4 : W.cell? ⟨q, 4, none⟩ = some (.int .i64 (hn : Int)) := hR.cell (i := 4) (by omega)
  have q5 : W.cell? ⟨q, 5, none⟩ = some (.int .i64 (min : Int)) := hR.cell (i := 5) (by omega)
  have q6 : W.cell? ⟨q, 6, none⟩ = some (.int .i64 (sn : Int)) := hR.cell (i := 6) (by omega)
  have q7 : W.cell? ⟨q, 7, none⟩ = some (.int .i64 (cn : Int)) := hR.cell (i := 7) (by omega)
  have q8 : W.cell? ⟨q, 8, none⟩ = some (.int .i64 (pn : Int)) := hR.cell (i := 8) (by omega)
  have q9 : W.cell? ⟨q, 9, none⟩ = some (.bool true) := hR.cell (i := 9) (by omega)
  have q10 : W.cell? ⟨q, 10, none⟩ = some (.int .i64 z) := hR.cell (i := 10) (by omega)
  clear hR
  have c36 : ∀ (W : World) (n k : Nat), n ≤ 999999 → k ≤ 6 → Calls Tryd.prog 36 #[.int .i64 (n : Int), .int .i64 (k : Int)] W fun e w' => e = .returned (.string (pdB n k)) ∧ Below W.heap.size W w' := fun W n k hn hk => pad6_any W n k hn hk
  have c34 := fun W' => none34_any W'
  have zy : (pdB yn 4).size = 4 := pdB_size _ _
  have zm : (pdB mn 2).size = 2 := pdB_size _ _
  have zdd : (pdB dn 2).size = 2 := pdB_size _ _
  have zym : (pdB yn 4 ++ pdB mn 2).size = 6 := by rw [ByteArray.size_append, zy, zm]
  have zymd : (pdB yn 4 ++ pdB mn 2 ++ pdB dn 2).size = 8 := by rw [ByteArray.size_append, zym, zdd]
  have c46 := fun W' => text46_any W' hn min sn cn pn b1 b2 b3 b4 b5 b6
  have ht := tT_size hn min sn cn pn b6
  have hpI : decide ((0 : Int) < (pn : Int)) = true := by simp; omega
  generalize tT hn min sn cn pn = TX at *
  have hcat1 : ¬ (9223372036854775807 < (pdB yn 4 ++ pdB mn 2 ++ pdB dn 2).size + TX.size) := by rw [zymd]; omega
  have hcat2 : (pdB yn 4 ++ pdB mn 2 ++ pdB dn 2).size + TX.size ≤ 9223372036854775807 := by omega
  have hSs : S.size ≤ 21 := by rw [← hS, ByteArray.size_append, zymd]; omega
  unfold t5 at c46
  have hA9 : A ≤ 99 := by omega
  have hB9 : B ≤ 99 := by omega
  have zA : (pdB A 2).size = 2 := pdB_size _ _
  have zB : (pdB B 2).size = 2 := pdB_size _ _
  obtain ⟨ns, hns⟩ : ∃ ns, S.size = ns := ⟨_, rfl⟩
  have y1 : (S ++ (⟨#[43]⟩ : ByteArray)).size = ns + 1 := by rw [ByteArray.size_append, hns]; rfl
  have y2 : (S ++ (⟨#[43]⟩ : ByteArray) ++ pdB A 2).size = ns + 3 := by rw [ByteArray.size_append, y1, zA]
  rw [hns] at hSs
  have w1 : ¬ (9223372036854775807 < ns + 1) := by omega
  have w2 : ¬ (9223372036854775807 < ns + 1 + 2) := by omega
  have w3 : ¬ (9223372036854775807 < ns + 3 + 2) := by omega
  have w1' : ns + 1 ≤ 9223372036854775807 := by omega
  have w2' : ns + 1 + 2 ≤ 9223372036854775807 := by omega
  have w3' : ns + 3 + 2 ≤ 9223372036854775807 := by omega
  have hzI : decide (z < 0) = false := by simp; omega
  have hFA : Fit6 (A : Int) 2 := ⟨A, 2, rfl, rfl, by omega, by omega, by omega, by omega⟩
  have hFB : Fit6 (B : Int) 2 := ⟨B, 2, rfl, rfl, by omega, by omega, by omega, by omega⟩
  have c36z : ∀ (W : World) (nI kI : Int), Fit6 nI kI → Calls Tryd.prog 36 #[.int .i64 nI, .int .i64 kI] W fun e w' => e = .returned (.string (pdB nI.toNat kI.toNat)) ∧ Below W.heap.size W w' := by
    rintro W nI kI ⟨n, k, rfl, rfl, _, _, hk, hn⟩
    exact pad6_any W n k hn hk
  have f3 : Int.tdiv z 60 = (A : Int) := by rw [Int.tdiv_eq_ediv_of_nonneg (by omega)]; exact hA
  have f2 : Int.tmod z 60 = (B : Int) := by rw [Int.tmod_eq_emod_of_nonneg (by omega)]; exact hB0
  have fA : IntKind.i64.wrap (A : Int) = (A : Int) := by rw [IntKind.wrap_i64]; omega
  have fB : IntKind.i64.wrap (B : Int) = (B : Int) := by rw [IntKind.wrap_i64]; omega
  have hqq : q + 1 ≠ q := by omega
  unfold mv at *
  have HS : Hid _ := hS
  go_enter Tryd.func23, Tryd.ntmps23
  go_wp2_with (go_at_call 51; refine Stop.mk ?_)
  refine Stop.out ((c51 _).mono ?_)
  rintro e W2 ⟨rfl, hb2⟩
  have HM2 : Hid _ := HM.out.on hb2
  clear hb2 c51 HM q0 q1 q2 q3 q4 q5 q6 q7 q8 q9 q10
  have hR := HM2.out.r
  rw [hq] at hR
  have q0 : W2.cell? ⟨q, 0, none⟩ = some (.int .i64 (yn : Int)) := hR.cell (i := 0) (by omega)
  have q1 : W2.cell? ⟨q, 1, none⟩ = some (.int .i64 (mn : Int)) := hR.cell (i := 1) (by omega)
  have q2 : W2.cell? ⟨q, 2, none⟩ = some (.int .i64 (dn : Int)) := hR.cell (i := 2) (by omega)
  have q3 : W2.cell? ⟨q, 3, none⟩ = some (.int .i64 3) := hR.cell (i := 3) (by omega)
  have q4 : W2.cell? ⟨q, 4, none⟩ = some (.int .i64 (hn : Int)) := hR.cell (i := 4) (by omega)
  have q5 : W2.cell? ⟨q, 5, none⟩ = some (.int .i64 (min : Int)) := hR.cell (i := 5) (by omega)
  have q6 : W2.cell? ⟨q, 6, none⟩ = some (.int .i64 (sn : Int)) := hR.cell (i := 6) (by omega)
  have q7 : W2.cell? ⟨q, 7, none⟩ = some (.int .i64 (cn : Int)) := hR.cell (i := 7) (by omega)
  have q8 : W2.cell? ⟨q, 8, none⟩ = some (.int .i64 (pn : Int)) := hR.cell (i := 8) (by omega)
  have q9 : W2.cell? ⟨q, 9, none⟩ = some (.bool true) := hR.cell (i := 9) (by omega)
  have q10 : W2.cell? ⟨q, 10, none⟩ = some (.int .i64 z) := hR.cell (i := 10) (by omega)
  clear hR
  go_wp2_with (go_at_call 36; refine Stop.mk ?_)
  refine Stop.out ((c36 _ yn 4 (by omega) (by omega)).mono ?_)
  rintro e W3 ⟨rfl, hb⟩
  have HM3 : Hid _ := HM2.out.on hb
  clear hb HM2 q0 q1 q2 q3 q4 q5 q6 q7 q8 q9 q10
  have hR := HM3.out.r
  rw [hq] at hR
  have q0 : W3.cell? ⟨q, 0, none⟩ = some (.int .i64 (yn : Int)) := hR.cell (i := 0) (by omega)
  have q1 : W3.cell? ⟨q, 1, none⟩ = some (.int .i64 (mn : Int)) := hR.cell (i := 1) (by omega)
  have q2 : W3.cell? ⟨q, 2, none⟩ = some (.int .i64 (dn : Int)) := hR.cell (i := 2) (by omega)
  have q3 : W3.cell? ⟨q, 3, none⟩ = some (.int .i64 3) := hR.cell (i := 3) (by omega)
  have q4 : W3.cell? ⟨q, 4, none⟩ = some (.int .i64 (hn : Int)) := hR.cell (i := 4) (by omega)
  have q5 : W3.cell? ⟨q, 5, none⟩ = some (.int .i64 (min : Int)) := hR.cell (i := 5) (by omega)
  have q6 : W3.cell? ⟨q, 6, none⟩ = some (.int .i64 (sn : Int)) := hR.cell (i := 6) (by omega)
  have q7 : W3.cell? ⟨q, 7, none⟩ = some (.int .i64 (cn : Int)) := hR.cell (i := 7) (by omega)
  have q8 : W3.cell? ⟨q, 8, none⟩ = some (.int .i64 (pn : Int)) := hR.cell (i := 8) (by omega)
  have q9 : W3.cell? ⟨q, 9, none⟩ = some (.bool true) := hR.cell (i := 9) (by omega)
  have q10 : W3.cell? ⟨q, 10, none⟩ = some (.int .i64 z) := hR.cell (i := 10) (by omega)
  clear hR
  go_wp2_with (go_at_call 36; refine Stop.mk ?_)
  refine Stop.out ((c36 _ mn 2 (by omega) (by omega)).mono ?_)
  rintro e W4 ⟨rfl, hb⟩
  have HM4 : Hid _ := HM3.out.on hb
  clear hb HM3 q0 q1 q2 q3 q4 q5 q6 q7 q8 q9 q10
  have hR := HM4.out.r
  rw [hq] at hR
  have q0 : W4.cell? ⟨q, 0, none⟩ = some (.int .i64 (yn : Int)) := hR.cell (i := 0) (by omega)
  have q1 : W4.cell? ⟨q, 1, none⟩ = some (.int .i64 (mn : Int)) := hR.cell (i := 1) (by omega)
  have q2 : W4.cell? ⟨q, 2, none⟩ = some (.int .i64 (dn : Int)) := hR.cell (i := 2) (by omega)
  have q3 : W4.cell? ⟨q, 3, none⟩ = some (.int .i64 3) := hR.cell (i := 3) (by omega)
  have q4 : W4.cell? ⟨q, 4, none⟩ = some (.int .i64 (hn : Int)) := hR.cell (i := 4) (by omega)
  have q5 : W4.cell? ⟨q, 5, none⟩ = some (.int .i64 (min : Int)) := hR.cell (i := 5) (by omega)
  have q6 : W4.cell? ⟨q, 6, none⟩ = some (.int .i64 (sn : Int)) := hR.cell (i := 6) (by omega)
  have q7 : W4.cell? ⟨q, 7, none⟩ = some (.int .i64 (cn : Int)) := hR.cell (i := 7) (by omega)
  have q8 : W4.cell? ⟨q, 8, none⟩ = some (.int .i64 (pn : Int)) := hR.cell (i := 8) (by omega)
  have q9 : W4.cell? ⟨q, 9, none⟩ = some (.bool true) := hR.cell (i := 9) (by omega)
  have q10 : W4.cell? ⟨q, 10, none⟩ = some (.int .i64 z) := hR.cell (i := 10) (by omega)
  clear hR
  go_wp2_with (go_at_call 36; refine Stop.mk ?_)
  refine Stop.out ((c36 _ dn 2 (by omega) (by omega)).mono ?_)
  rintro e W5 ⟨rfl, hb⟩
  have HM5 : Hid _ := HM4.out.on hb
  clear hb HM4 q0 q1 q2 q3 q4 q5 q6 q7 q8 q9 q10
  have hR := HM5.out.r
  rw [hq] at hR
  have q0 : W5.cell? ⟨q, 0, none⟩ = some (.int .i64 (yn : Int)) := hR.cell (i := 0) (by omega)
  have q1 : W5.cell? ⟨q, 1, none⟩ = some (.int .i64 (mn : Int)) := hR.cell (i := 1) (by omega)
  have q2 : W5.cell? ⟨q, 2, none⟩ = some (.int .i64 (dn : Int)) := hR.cell (i := 2) (by omega)
  have q3 : W5.cell? ⟨q, 3, none⟩ = some (.int .i64 3) := hR.cell (i := 3) (by omega)
  have q4 : W5.cell? ⟨q, 4, none⟩ = some (.int .i64 (hn : Int)) := hR.cell (i := 4) (by omega)
  have q5 : W5.cell? ⟨q, 5, none⟩ = some (.int .i64 (min : Int)) := hR.cell (i := 5) (by omega)
  have q6 : W5.cell? ⟨q, 6, none⟩ = some (.int .i64 (sn : Int)) := hR.cell (i := 6) (by omega)
  have q7 : W5.cell? ⟨q, 7, none⟩ = some (.int .i64 (cn : Int)) := hR.cell (i := 7) (by omega)
  have q8 : W5.cell? ⟨q, 8, none⟩ = some (.int .i64 (pn : Int)) := hR.cell (i := 8) (by omega)
  have q9 : W5.cell? ⟨q, 9, none⟩ = some (.bool true) := hR.cell (i := 9) (by omega)
  have q10 : W5.cell? ⟨q, 10, none⟩ = some (.int .i64 z) := hR.cell (i := 10) (by omega)
  clear hR
  go_wp2_with (go_at_call 46; refine Stop.mk ?_)
  refine Stop.out ((c46 _).mono ?_)
  rintro e W6 ⟨rfl, hb⟩
  have HM6 : Hid _ := HM5.out.on hb
  clear hb HM5 q0 q1 q2 q3 q4 q5 q6 q7 q8 q9 q10
  have hR := HM6.out.r
  rw [hq] at hR
  have q0 : W6.cell? ⟨q, 0, none⟩ = some (.int .i64 (yn : Int)) := hR.cell (i := 0) (by omega)
  have q1 : W6.cell? ⟨q, 1, none⟩ = some (.int .i64 (mn : Int)) := hR.cell (i := 1) (by omega)
  have q2 : W6.cell? ⟨q, 2, none⟩ = some (.int .i64 (dn : Int)) := hR.cell (i := 2) (by omega)
  have q3 : W6.cell? ⟨q, 3, none⟩ = some (.int .i64 3) := hR.cell (i := 3) (by omega)
  have q4 : W6.cell? ⟨q, 4, none⟩ = some (.int .i64 (hn : Int)) := hR.cell (i := 4) (by omega)
  have q5 : W6.cell? ⟨q, 5, none⟩ = some (.int .i64 (min : Int)) := hR.cell (i := 5) (by omega)
  have q6 : W6.cell? ⟨q, 6, none⟩ = some (.int .i64 (sn : Int)) := hR.cell (i := 6) (by omega)
  have q7 : W6.cell? ⟨q, 7, none⟩ = some (.int .i64 (cn : Int)) := hR.cell (i := 7) (by omega)
  have q8 : W6.cell? ⟨q, 8, none⟩ = some (.int .i64 (pn : Int)) := hR.cell (i := 8) (by omega)
  have q9 : W6.cell? ⟨q, 9, none⟩ = some (.bool true) := hR.cell (i := 9) (by omega)
  have q10 : W6.cell? ⟨q, 10, none⟩ = some (.int .i64 z) := hR.cell (i := 10) (by omega)
  clear hR
  have hM := HM6.out
  have hB : MN w W6.drew 50 11 (mf yn mn dn 3 hn min sn cn pn true z) := ⟨hM.r, hM.e, hM.b.drew⟩
  go_wp2
  go_region_held3 (fun w' => w'.cell? ⟨q, 10, none⟩ = some (.int .i64 z)) (first | exact hB.c10 hq | exact (cell_set_off hqq).trans (hB.c10 hq) | exact (cell_set_off hqq).trans ((cell_set_off hqq).trans (hB.c10 hq))) (first | (go_at_call 36; refine (c36z _ _ _ ?_).mono ?_; (focus (first | exact hFA | exact hFB)); rintro e W6 ⟨rfl, hb6⟩; replace hB := hB.on hb6) | (go_at_call 34; refine (c34 _).mono ?_; rintro e W6 ⟨rfl, hb6⟩; replace hB := hB.on hb6; have hE6 := hB.e; rw [hq] at hE6; have s0 : W6.cell? ⟨q + 1, 0, none⟩ = some (.slice none 0 0) := hE6.cell (i := 0) (by omega); have s1 : W6.cell? ⟨q + 1, 1, none⟩ = some (.int .i64 0) := hE6.cell (i := 1) (by omega); have sf := fun i => hE6.frozen i; clear hE6))
  all_goals
    have hB10 := hB.b
    rw [hq] at hB10
    go_wp2
    refine bodyPost_ret (v := .tuple #[.string (S ++ ⟨#[43]⟩ ++ pdB A 2 ++ pdB B 2), .agg #[.slice none 0 0, .int .i64 0]]) (by simp [results, Tryd.results23, go_sem, s0, s1]) rfl ⟨_, rfl, rfl, ?_⟩
    rw [hq]
    exact (hB10.setCell (p := ⟨q + 1, 0, none⟩) (Nat.le_succ _) _).setCell (p := ⟨q + 1, 1, none⟩) (Nat.le_succ _) _

theorem app3 (S a b c : ByteArray) : S ++ (a ++ b ++ c) = S ++ a ++ b ++ c := ba_ext (by
  rw [ByteArray.data_append, ByteArray.data_append, ByteArray.data_append, ByteArray.data_append, ByteArray.data_append, ByteArray.data_append]
  simp)

set_option maxRecDepth 100000 in
set_option maxHeartbeats 2000000 in
theorem prt23_bad (w : World) (y m d dp h mi sc mc p : Int) (zd : Bool) (z : Int) (U : Int) (hu0 : 0 ≤ U) (c51 : ∀ W, Calls Tryd.prog 51 #[mv y m d dp h mi sc mc p zd z] W fun e w' => e = .returned (.int .i64 U) ∧ Below W.heap.size W w') : Calls Tryd.prog 23 #[mv y m d dp h mi sc mc p zd z] w (PostF w (.string ⟨#[]⟩) (some (U, 102))) := by
  obtain ⟨q, hq⟩ : ∃ q, w.heap.size = q := ⟨_, rfl⟩
  obtain ⟨W1, hW1⟩ : ∃ W1, w.alloc (.cells #[.int .i64 y, .int .i64 m, .int .i64 d, .int .i64 dp, .int .i64 h, .int .i64 mi, .int .i64 sc, .int .i64 mc, .int .i64 p, .bool zd, .int .i64 z] 50) = W1 := ⟨_, rfl⟩
  obtain ⟨W, hW⟩ : ∃ W, W1.alloc (.cells #[.slice none 0 0, .int .i64 0] 37) = W := ⟨_, rfl⟩
  have hs1 : W1.heap.size = q + 1 := by rw [← hW1, ← hq]; simp
  have HM : Hid (MN w W 50 11 (mf y m d dp h mi sc mc p zd z)) := by
    show MN _ _ _ _ _
    rw [← hW, ← hW1]
    exact MN.start w _ 50
  have hR := HM.out.r
  rw [hq] at hR
  have q0 : W.cell? ⟨q, 0, none⟩ = some (.int .i64 y) := hR.cell (i := 0) (by omega)
  have q1 : W.cell? ⟨q, 1, none⟩ = some (.int .i64 m) := hR.cell (i := 1) (by omega)
  have q2 : W.cell? ⟨q, 2, none⟩ = some (.int .i64 d) := hR.cell (i := 2) (by omega)
  have q3 : W.cell? ⟨q, 3, none⟩ = some (.int .i64 dp) := hR.cell (i := 3) (by omega)
  have q4 : W.cell? ⟨q, 4, none⟩ = some (.int .i64 h) := hR.cell (i := 4) (by omega)
  have q5 : W.cell? ⟨q, 5, none⟩ = some (.int .i64 mi) := hR.cell (i := 5) (by omega)
  have q6 : W.cell? ⟨q, 6, none⟩ = some (.int .i64 sc) := hR.cell (i := 6) (by omega)
  have q7 : W.cell? ⟨q, 7, none⟩ = some (.int .i64 mc) := hR.cell (i := 7) (by omega)
  have q8 : W.cell? ⟨q, 8, none⟩ = some (.int .i64 p) := hR.cell (i := 8) (by omega)
  have q9 : W.cell? ⟨q, 9, none⟩ = some (.bool zd) := hR.cell (i := 9) (by omega)
  have q10 : W.cell? ⟨q, 10, none⟩ = some (.int .i64 z) := hR.cell (i := 10) (by omega)
  have hUI : decide ((0 : Int) ≤ U) = true := by simpa using hu0
  clear hR hu0
  unfold mv at *
  go_enter Tryd.func23, Tryd.ntmps23
  go_wp2_with (go_at_call 51; refine Stop.mk ?_)
  refine Stop.out ((c51 _).mono ?_)
  rintro e W2 ⟨rfl, hb2⟩
  have HM2 : Hid _ := HM.out.on hb2
  clear c51 q0 q1 q2 q3 q4 q5 q6 q7 q8 q9 q10 hb2 HM
  go_wp2_with (go_at_call 32; refine Stop.mk ?_)
  refine Stop.out ((no_any U 102 _).mono ?_)
  rintro e W4 ⟨v, rfl, hv, hb4⟩
  have hM4 := HM2.out.on hb4
  have hE4 := hM4.e
  have hB4 := hM4.b
  rw [hq] at hE4 hB4
  have s0 : W4.cell? ⟨q + 1, 0, none⟩ = some (.slice none 0 0) := hE4.cell (i := 0) (by omega)
  have s1 : W4.cell? ⟨q + 1, 1, none⟩ = some (.int .i64 0) := hE4.cell (i := 1) (by omega)
  have sf := fun i => hE4.frozen i
  have HB4 : Hid _ := hB4
  have n2 : Hid (Rne v (q + 1)) := hv.ne s0 (fun s => by simp)
  have HV : Hid (RErr W4 v (some (U, 102))) := hv
  obtain ⟨g, k, rfl, _, _⟩ := hv
  clear hb4 HM2 hM4 hE4 hB4
  go_wp2
  refine bodyPost_ret (v := .tuple #[.string ⟨#[]⟩, .agg #[.slice (some ⟨g, 0, none⟩) 1 k, .int .i64 102]]) (by simp [results, Tryd.results23, go_sem, s0, s1]) rfl ⟨_, rfl, ?_, ?_⟩
  · exact HV.out.grown n2.out (grown_set (grown_set (grown_refl _ _) 0 _) 1 _)
  · rw [hq]
    exact (HB4.out.setCell (p := ⟨q + 1, 0, none⟩) (Nat.le_succ _) _).setCell (p := ⟨q + 1, 1, none⟩) (Nat.le_succ _) _

theorem prt23_any (w : World) (y m d dp h mi sc mc p : Int) (zd : Bool) (z : Int) : Calls Tryd.prog 23 #[mv y m d dp h mi sc mc p zd z] w (PostF w (.string (mW y m d dp h mi sc mc p zd z)) (mO y m d dp h mi sc mc p zd z)) := by
  have c51 := fun W => momentNo_any W y m d dp h mi sc mc p zd z
  unfold mW mO
  by_cases hu : mN y m d dp h mi sc mc p zd z = -1
  · rw [if_pos hu, if_pos hu]
    rw [hu] at c51
    obtain ⟨yn, mn, dn, dpn, hn, min, sn, cn, pn, rfl, rfl, rfl, rfl, rfl, rfl, rfl, rfl, rfl, a1, a2, a3, a4, a5, a6, a7, a8, a9, a10, a11, a12⟩ := mN_ok hu
    simp only [Int.toNat_natCast]
    unfold mX
    clear hu
    rcases (by omega : dpn = 1 ∨ dpn = 2 ∨ dpn = 3) with rfl | rfl | rfl
    · rw [dX_1]
      by_cases hp : pn = 0
      · subst hp
        obtain ⟨rfl, rfl, rfl, rfl⟩ := a12.resolve_left (fun h => h rfl)
        rw [tT_0, app_nil]
        cases zd with
        | false =>
          rw [if_neg (by decide), app_nil]
          exact prt23_1zf w yn mn dn z a1 c51 _ rfl
        | true =>
          obtain ⟨z1, z2⟩ := a11 rfl
          rw [if_pos rfl]
          unfold zX
          rw [app3]
          by_cases hz : z < 0
          · rw [if_pos hz]
            exact prt23_1zn w yn mn dn z a1 hz z1 _ _ (by omega) (by omega) c51 _ rfl
          · rw [if_neg hz]
            exact prt23_1zp w yn mn dn z a1 (by omega) z2 _ _ (by omega) (by omega) c51 _ rfl
      · have hp1 : 1 ≤ pn := by omega
        cases zd with
        | false =>
          rw [if_neg (by decide), app_nil]
          exact prt23_1tf w yn mn dn hn min sn cn pn z a1 a6 a7 a8 a9 hp1 a10 c51 _ rfl
        | true =>
          obtain ⟨z1, z2⟩ := a11 rfl
          rw [if_pos rfl]
          unfold zX
          rw [app3]
          by_cases hz : z < 0
          · rw [if_pos hz]
            exact prt23_1tn w yn mn dn hn min sn cn pn z a1 a6 a7 a8 a9 hp1 a10 hz z1 _ _ (by omega) (by omega) c51 _ rfl
          · rw [if_neg hz]
            exact prt23_1tp w yn mn dn hn min sn cn pn z a1 a6 a7 a8 a9 hp1 a10 (by omega) z2 _ _ (by omega) (by omega) c51 _ rfl
    · rw [dX_2]
      by_cases hp : pn = 0
      · subst hp
        obtain ⟨rfl, rfl, rfl, rfl⟩ := a12.resolve_left (fun h => h rfl)
        rw [tT_0, app_nil]
        cases zd with
        | false =>
          rw [if_neg (by decide), app_nil]
          exact prt23_2zf w yn mn dn z a1 a2 c51 _ rfl
        | true =>
          obtain ⟨z1, z2⟩ := a11 rfl
          rw [if_pos rfl]
          unfold zX
          rw [app3]
          by_cases hz : z < 0
          · rw [if_pos hz]
            exact prt23_2zn w yn mn dn z a1 a2 hz z1 _ _ (by omega) (by omega) c51 _ rfl
          · rw [if_neg hz]
            exact prt23_2zp w yn mn dn z a1 a2 (by omega) z2 _ _ (by omega) (by omega) c51 _ rfl
      · have hp1 : 1 ≤ pn := by omega
        cases zd with
        | false =>
          rw [if_neg (by decide), app_nil]
          exact prt23_2tf w yn mn dn hn min sn cn pn z a1 a2 a6 a7 a8 a9 hp1 a10 c51 _ rfl
        | true =>
          obtain ⟨z1, z2⟩ := a11 rfl
          rw [if_pos rfl]
          unfold zX
          rw [app3]
          by_cases hz : z < 0
          · rw [if_pos hz]
            exact prt23_2tn w yn mn dn hn min sn cn pn z a1 a2 a6 a7 a8 a9 hp1 a10 hz z1 _ _ (by omega) (by omega) c51 _ rfl
          · rw [if_neg hz]
            exact prt23_2tp w yn mn dn hn min sn cn pn z a1 a2 a6 a7 a8 a9 hp1 a10 (by omega) z2 _ _ (by omega) (by omega) c51 _ rfl
    · rw [dX_3]
      by_cases hp : pn = 0
      · subst hp
        obtain ⟨rfl, rfl, rfl, rfl⟩ := a12.resolve_left (fun h => h rfl)
        rw [tT_0, app_nil]
        cases zd with
        | false =>
          rw [if_neg (by decide), app_nil]
          exact prt23_3zf w yn mn dn z a1 a2 a3 c51 _ rfl
        | true =>
          obtain ⟨z1, z2⟩ := a11 rfl
          rw [if_pos rfl]
          unfold zX
          rw [app3]
          by_cases hz : z < 0
          · rw [if_pos hz]
            exact prt23_3zn w yn mn dn z a1 a2 a3 hz z1 _ _ (by omega) (by omega) c51 _ rfl
          · rw [if_neg hz]
            exact prt23_3zp w yn mn dn z a1 a2 a3 (by omega) z2 _ _ (by omega) (by omega) c51 _ rfl
      · have hp1 : 1 ≤ pn := by omega
        cases zd with
        | false =>
          rw [if_neg (by decide), app_nil]
          exact prt23_3tf w yn mn dn hn min sn cn pn z a1 a2 a3 a6 a7 a8 a9 hp1 a10 c51 _ rfl
        | true =>
          obtain ⟨z1, z2⟩ := a11 rfl
          rw [if_pos rfl]
          unfold zX
          rw [app3]
          by_cases hz : z < 0
          · rw [if_pos hz]
            exact prt23_3tn w yn mn dn hn min sn cn pn z a1 a2 a3 a6 a7 a8 a9 hp1 a10 hz z1 _ _ (by omega) (by omega) c51 _ rfl
          · rw [if_neg hz]
            exact prt23_3tp w yn mn dn hn min sn cn pn z a1 a2 a3 a6 a7 a8 a9 hp1 a10 (by omega) z2 _ _ (by omega) (by omega) c51 _ rfl
  · rw [if_neg hu, if_neg hu]
    exact prt23_bad w y m d dp h mi sc mc p zd z _ ((mN_is y m d dp h mi sc mc p zd z).resolve_left hu).1 c51
end Go.Proofs.YtggdlagopgpnhaaDoor
