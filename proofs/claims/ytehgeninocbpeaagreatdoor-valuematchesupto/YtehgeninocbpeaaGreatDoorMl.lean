import Derived.Test.YtehgeninocbpeaaGreatDoorMk
namespace Go.Proofs.YtehgeninocbpeaaGreatDoor.Tm
open Go Go.Proofs Go.RowKit
structure Mc2 (w W : World) (B C : Nat) (a b : Value) (o : Option (Int × Int)) : Prop where
  F : Fc w W B
  c0 : W.cell? ⟨C, 0, none⟩ = some a
  c1 : W.cell? ⟨C, 1, none⟩ = some b
  v : RErr W (.agg #[a, b]) o
  ne : C ≠ B
theorem Mc2.on {w W W' : World} {B C : Nat} {a b : Value} {o : Option (Int × Int)} (h : Mc2 w W B C a b o) (hb : Below W.heap.size W W') : Mc2 w W' B C a b o :=
  ⟨h.F.on hb, (hb.cell (cell_lt h.c0)).trans h.c0, (hb.cell (cell_lt h.c1)).trans h.c1, h.v.next hb, h.ne⟩
theorem Mc2.drew {w W : World} {B C : Nat} {a b : Value} {o : Option (Int × Int)} (h : Mc2 w W B C a b o) : Mc2 w W.drew B C a b o :=
  ⟨⟨h.F.r, h.F.b.drew⟩, h.c0, h.c1, RErr.drewW h.v, h.ne⟩
theorem Mc2.start {w W : World} {B : Nat} {a b : Value} {o : Option (Int × Int)} (h : Fc w W B) (hv : RErr W (.agg #[a, b]) o) : Mc2 w (W.alloc (.cells #[a, b] 35)) B W.heap.size a b o := by
  have hb : Below W.heap.size W (W.alloc (.cells #[a, b] 35)) := (Below.refl _ _).alloc (Nat.le_refl _) _
  have r := World.rowIs_alloc W #[a, b] 35 _ (row_lit _)
  exact ⟨h.on hb, r.cell (i := 0) (by simp), r.cell (i := 1) (by simp), hv.next hb, Nat.ne_of_gt h.r.lt⟩
set_option maxRecDepth 100000 in
set_option maxHeartbeats 2000000 in
theorem rmatch_none (w : World) (vr : Int) (v : ByteArray) : Calls Tryz.prog 14 #[.int .i64 vr, .string ⟨#[]⟩, .string v] w (PostF w (.bool true) none) := by
  have cN := fun W => none34_any W
  obtain ⟨B, hB⟩ : ∃ B, w.heap.size = B := ⟨_, rfl⟩
  obtain ⟨W0, hW0⟩ : ∃ W0, w.alloc (.cells #[.slice none 0 0, .int .i64 0] 35) = W0 := ⟨_, rfl⟩
  have F0 : Hid (Fc w W0 B) := by show Fc _ _ _; rw [← hW0, ← hB]; exact Fc.start w
  go_enter Tryz.func14, Tryz.ntmps14
  go_wp2_with (go_at_call 27; refine Stop.mk ?_)
  refine Stop.out ((cN _).mono ?_)
  rintro e W1 ⟨rfl, hb⟩
  have F1 : Hid (Fc w W1 B) := F0.out.on hb
  obtain ⟨z0, z1, zf⟩ := F1.out.facts
  have HE : Hid _ := F1.out.fin (v := .agg #[.slice none 0 0, .int .i64 0]) (o := none) rfl (.slice none 0 0) (.int .i64 0)
  clear hb hW0 cN F0
  go_wp2
  refine bodyPost_ret (v := .tuple #[.bool true, .agg #[.slice none 0 0, .int .i64 0]]) (by simp [results, Tryz.results14, go_sem, z0, z1]) rfl ⟨_, rfl, HE.out.1, by rw [hB]; exact HE.out.2⟩
set_option maxRecDepth 100000 in
set_option maxHeartbeats 4000000 in
theorem rmatch_bad (w : World) (vr : Int) (key v : ByteArray) (hk0 : key.size ≠ 0) (x : Int × Int) (ck : ∀ W, Calls Tryz.prog 16 #[.int .i64 vr, .string key] W (PostG W (some x))) : Calls Tryz.prog 14 #[.int .i64 vr, .string key, .string v] w (PostF w (.bool false) (some x)) := by
  obtain ⟨B, hB⟩ : ∃ B, w.heap.size = B := ⟨_, rfl⟩
  obtain ⟨W0, hW0⟩ : ∃ W0, w.alloc (.cells #[.slice none 0 0, .int .i64 0] 35) = W0 := ⟨_, rfl⟩
  have F0 : Hid (Fc w W0 B) := by show Fc _ _ _; rw [← hW0, ← hB]; exact Fc.start w
  have hke := text_some hk0
  have cK := ck W0
  clear hk0 ck
  go_enter Tryz.func14, Tryz.ntmps14
  go_wp2_with (go_at_call 16; refine Stop.mk ?_)
  refine Stop.out (cK.mono ?_)
  rintro e W1 ⟨v1, rfl, hv1, hb1⟩
  have F1 : Hid (Fc w W1 B) := F0.out.on hb1
  obtain ⟨g, k, rfl, _⟩ : ∃ g k, v1 = .agg #[.slice (some ⟨g, 0, none⟩) 1 k, .int .i64 x.2] ∧ True := by obtain ⟨g, k, e, _⟩ := hv1; exact ⟨g, k, e, trivial⟩
  have HV1 : Hid _ := hv1
  clear hW0 F0 hb1 cK hv1
  go_upto_region 4 with fail
  obtain ⟨C, hC⟩ : ∃ C, W1.heap.size = C := ⟨_, rfl⟩
  obtain ⟨W2, hW2⟩ : ∃ W2, W1.alloc (.cells #[.slice (some ⟨g, 0, none⟩) 1 k, .int .i64 x.2] 35) = W2 := ⟨_, rfl⟩
  have K2 : Hid (Mc2 w W2 B C (.slice (some ⟨g, 0, none⟩) 1 k) (.int .i64 x.2) (some x)) := by
    show Mc2 _ _ _ _ _ _ _
    rw [← hW2, ← hC]
    exact Mc2.start F1.out HV1.out
  rw [hW2, hC]
  clear hW2 hC F1 HV1
  have y0 := K2.out.c0
  have y1 := K2.out.c1
  have cY := fun W => any_some W g k x.2
  go_wp2_with (go_at_call 28; refine Stop.mk ?_)
  refine Stop.out ((cY _).mono ?_)
  rintro e W3 ⟨rfl, hb3⟩
  have K3 : Hid (Mc2 w W3 B C (.slice (some ⟨g, 0, none⟩) 1 k) (.int .i64 x.2) (some x)) := K2.out.on hb3
  clear K2 hb3 cY y0 y1
  go_upto_region 5 with fail
  obtain ⟨z0, z1, zf⟩ := K3.out.F.facts
  have c0 := K3.out.c0
  have c1 := K3.out.c1
  have hne := K3.out.ne
  have hne' := Ne.symm hne
  have HN : Hid _ := K3.out.v.ne z0 (fun s h => by cases h)
  go_region
  all_goals
    go_wp2
    refine bodyPost_ret (v := .tuple #[.bool false, .agg #[.slice (some ⟨g, 0, none⟩) 1 k, .int .i64 x.2]]) (by simp [results, Tryz.results14, go_sem, z0, z1]) rfl ⟨_, rfl, ?_, ?_⟩
    · repeat (first | refine RErr.drewW ?_ | refine RErr.set ?_ HN.out)
      exact K3.out.v
    rw [hB]
    repeat (first | refine Below.drew ?_ | refine Below.setCell ?_ (by exact Nat.le_refl _) _)
    exact K3.out.F.b
set_option maxRecDepth 100000 in
set_option maxHeartbeats 4000000 in
theorem rmatch_list (w : World) (key v : ByteArray) (hk : key.size ≤ 2097152) (hk0 : key.size ≠ 0) (ck : ∀ W, Calls Tryz.prog 16 #[.int .i64 23, .string key] W (PostG W none)) : Calls Tryz.prog 14 #[.int .i64 23, .string key, .string v] w (PostF w (.bool ((Sp.spB key).any (fun x => eqB v x))) none) := by
  have cS := fun W => cut_bs W key hk
  have hlen := Sp.spB_len key
  generalize Sp.spB key = xs at *
  obtain ⟨R, hR⟩ : ∃ R, xs.any (fun x => eqB v x) = R := ⟨_, rfl⟩
  have HR : Hid ((xs.drop 0).any (fun x => eqB v x) = R) := hR
  rw [hR]
  clear hR
  obtain ⟨B, hB⟩ : ∃ B, w.heap.size = B := ⟨_, rfl⟩
  obtain ⟨W0, hW0⟩ : ∃ W0, w.alloc (.cells #[.slice none 0 0, .int .i64 0] 35) = W0 := ⟨_, rfl⟩
  have F0 : Hid (Fc w W0 B) := by show Fc _ _ _; rw [← hW0, ← hB]; exact Fc.start w
  have hke := text_some hk0
  have cK := ck W0
  clear hk0 ck
  go_enter Tryz.func14, Tryz.ntmps14
  go_wp2_with (go_at_call 16; refine Stop.mk ?_)
  refine Stop.out (cK.mono ?_)
  rintro e W1 ⟨v1, rfl, hv1, hb1⟩
  have F1 : Hid (Fc w W1 B) := F0.out.on hb1
  obtain rfl : v1 = .agg #[.slice none 0 0, .int .i64 0] := hv1
  clear hW0 F0 hb1 cK
  go_upto_region 4 with fail
  obtain ⟨C, hC⟩ : ∃ C, W1.heap.size = C := ⟨_, rfl⟩
  obtain ⟨W2, hW2⟩ : ∃ W2, W1.alloc (.cells #[.slice none 0 0, .int .i64 0] 35) = W2 := ⟨_, rfl⟩
  have K2 : Hid (Mc2 w W2 B C (.slice none 0 0) (.int .i64 0) none) := by
    show Mc2 _ _ _ _ _ _ _
    rw [← hW2, ← hC]
    exact Mc2.start F1.out rfl
  rw [hW2, hC]
  clear hW2 hC F1
  have y0 := K2.out.c0
  have y1 := K2.out.c1
  have cY := fun W => any_none W
  go_wp2_with (go_at_call 28; refine Stop.mk ?_)
  refine Stop.out ((cY _).mono ?_)
  rintro e W3 ⟨rfl, hb3⟩
  have K3 : Hid (Mc2 w W3 B C (.slice none 0 0) (.int .i64 0) none) := K2.out.on hb3
  clear K2 hb3 cY y0 y1
  go_wp2_with (go_at_call 29; refine Stop.mk ?_)
  refine Stop.out ((cS _).mono ?_)
  rintro e W4 ⟨g, cap, rfl, cl, hb4⟩
  have K4 : Hid (Mc2 w W4 B C (.slice none 0 0) (.int .i64 0) none) := K3.out.on hb4
  have HCe : Hid (∀ i (h : i < xs.length), W4.cell? ⟨g, i, none⟩ = some (.string xs[i])) := cl
  obtain ⟨n, hl⟩ : ∃ n, xs.length = n := ⟨_, rfl⟩
  have HL : Hid (xs.length = n) := hl
  rw [hl] at hlen ⊢
  clear K3 hb4 cS cl hl
  go_wp2
  go_loopg [10] n (fun k s10 wx => ∃ i : Nat, s10 = .int .i64 (i : Int) ∧ i ≤ n ∧ k + i = n ∧ Hid ((xs.drop i).any (fun x => eqB v x) = R) ∧ Hid (wx = W4))
  case atStart => exact ⟨0, rfl, by omega, by omega, HR, rfl⟩
  case round =>
    obtain ⟨i, rfl, hi, hg, HI, HW⟩ := hrel
    have hwr := HW.out
    subst hwr
    by_cases hlt : i < n
    · have hlx : i < xs.length := by have := HL.out; omega
      obtain ⟨u, hu⟩ : ∃ u, xs[i] = u := ⟨_, rfl⟩
      have cl : wr.cell? ⟨g, i, none⟩ = some (.string u) := by have h0 := HCe.out i hlx; rw [hu] at h0; exact h0
      have HI2 : Hid ((eqB v u || (xs.drop (i + 1)).any (fun x => eqB v x)) = R) := by
        have := HI.out
        rw [List.drop_eq_getElem_cons hlx, List.any_cons, hu] at this
        exact this
      clear HI hlx hu
      cases hm : eqB v u with
      | true =>
        have hm2 : (u.toList == v.toList) = true := ((eqB_of u v).trans (eqB_comm u v)).trans hm
        obtain rfl : R = true := by have := HI2.out; rw [hm, Bool.true_or] at this; exact this.symm
        clear HI2 hm
        go_upto_region 13 with fail
        obtain ⟨z0, z1, zf⟩ := K4.out.F.facts
        have c0 := K4.out.c0
        have c1 := K4.out.c1
        have hne := K4.out.ne
        have hne' := Ne.symm hne
        have HN : Hid _ := K4.out.v.ne z0 (fun s h => by cases h)
        go_region
        all_goals
          go_wp2
          refine bodyPost_ret (v := .tuple #[.bool true, .agg #[.slice none 0 0, .int .i64 0]]) (by simp [results, Tryz.results14, go_sem, z0, z1]) rfl ⟨_, rfl, ?_, ?_⟩
          · repeat (first | refine RErr.drewW ?_ | refine RErr.set ?_ HN.out)
            exact K4.out.v
          rw [hB]
          repeat (first | refine Below.drew ?_ | refine Below.setCell ?_ (by exact Nat.le_refl _) _)
          exact K4.out.F.b
      | false =>
        have hm2 : (u.toList == v.toList) = false := ((eqB_of u v).trans (eqB_comm u v)).trans hm
        have HI3 : Hid ((xs.drop (i + 1)).any (fun x => eqB v x) = R) := by have := HI2.out; rw [hm, Bool.false_or] at this; exact this
        clear HI2 hm
        go_wp2
        go_roundg (n - (i + 1))
        case measure => omega
        case rel => exact ⟨i + 1, by simp, by omega, by omega, HI3, rfl⟩
    · obtain rfl : R = false := by
        have := HI.out
        rw [List.drop_eq_nil_of_le (by have := HL.out; omega)] at this
        exact this.symm
      clear HI
      go_upto_region 14 with fail
      obtain ⟨z0, z1, zf⟩ := K4.out.F.facts
      have c0 := K4.out.c0
      have c1 := K4.out.c1
      have hne := K4.out.ne
      have hne' := Ne.symm hne
      have HN : Hid _ := K4.out.v.ne z0 (fun s h => by cases h)
      go_region
      all_goals
        go_wp2
        refine bodyPost_ret (v := .tuple #[.bool false, .agg #[.slice none 0 0, .int .i64 0]]) (by simp [results, Tryz.results14, go_sem, z0, z1]) rfl ⟨_, rfl, ?_, ?_⟩
        · repeat (first | refine RErr.drewW ?_ | refine RErr.set ?_ HN.out)
          exact K4.out.v
        rw [hB]
        repeat (first | refine Below.drew ?_ | refine Below.setCell ?_ (by exact Nat.le_refl _) _)
        exact K4.out.F.b
set_option maxRecDepth 100000 in
set_option maxHeartbeats 4000000 in
theorem rmatch_cut (w : World) (vr : Int) (h23 : vr ≠ 23) (h12 : vr ≠ 12) (h20 : vr ≠ 20) (h28 : vr ≠ 28) (h26 : vr ≠ 26) (key v : ByteArray) (hv : v.size ≤ 2097152) (hk0 : key.size ≠ 0) (hP : Nu.Pow w) (m : ByteArray → Bool)
    (cm : ∀ W u, u.size ≤ 2097152 → Nu.Pow W → Calls Tryz.prog 30 #[.int .i64 vr, .string key, .string u] W (BoolP W (m u))) (ck : ∀ W, Calls Tryz.prog 16 #[.int .i64 vr, .string key] W (PostG W none)) : Calls Tryz.prog 14 #[.int .i64 vr, .string key, .string v] w (PostF w (.bool ((Sp.spB v).any m)) none) := by
  have cS := fun W => cut_bs W v hv
  have hlen := Sp.spB_len v
  have hsz := spB_size v
  have HSZ : Hid (∀ u ∈ Sp.spB v, u.size ≤ 2097152) := fun u hu => by have := hsz u hu; omega
  generalize Sp.spB v = xs at *
  obtain ⟨R, hR⟩ : ∃ R, xs.any m = R := ⟨_, rfl⟩
  have HR : Hid ((xs.drop 0).any m = R) := hR
  rw [hR]
  have e23 : (vr == 23) = false := beq_eq_false_iff_ne.2 h23
  have e12 : (vr == 12) = false := beq_eq_false_iff_ne.2 h12
  have e20 : (vr == 20) = false := beq_eq_false_iff_ne.2 h20
  have e28 : (vr == 28) = false := beq_eq_false_iff_ne.2 h28
  have e26 : (vr == 26) = false := beq_eq_false_iff_ne.2 h26
  have HP : Hid (Nu.Pow w) := hP
  have HCm : Hid _ := cm
  clear hR h23 h12 h20 h28 h26 hP cm hsz
  obtain ⟨B, hB⟩ : ∃ B, w.heap.size = B := ⟨_, rfl⟩
  obtain ⟨W0, hW0⟩ : ∃ W0, w.alloc (.cells #[.slice none 0 0, .int .i64 0] 35) = W0 := ⟨_, rfl⟩
  have F0 : Hid (Fc w W0 B) := by show Fc _ _ _; rw [← hW0, ← hB]; exact Fc.start w
  have hke := text_some hk0
  have cK := ck W0
  clear hk0 ck
  go_enter Tryz.func14, Tryz.ntmps14
  go_wp2_with (go_at_call 16; refine Stop.mk ?_)
  refine Stop.out (cK.mono ?_)
  rintro e W1 ⟨v1, rfl, hv1, hb1⟩
  have F1 : Hid (Fc w W1 B) := F0.out.on hb1
  obtain rfl : v1 = .agg #[.slice none 0 0, .int .i64 0] := hv1
  clear hW0 F0 hb1 cK
  go_upto_region 4 with fail
  obtain ⟨C, hC⟩ : ∃ C, W1.heap.size = C := ⟨_, rfl⟩
  obtain ⟨W2, hW2⟩ : ∃ W2, W1.alloc (.cells #[.slice none 0 0, .int .i64 0] 35) = W2 := ⟨_, rfl⟩
  have K2 : Hid (Mc2 w W2 B C (.slice none 0 0) (.int .i64 0) none) := by
    show Mc2 _ _ _ _ _ _ _
    rw [← hW2, ← hC]
    exact Mc2.start F1.out rfl
  rw [hW2, hC]
  clear hW2 hC F1
  have y0 := K2.out.c0
  have y1 := K2.out.c1
  have cY := fun W => any_none W
  go_wp2_with (go_at_call 28; refine Stop.mk ?_)
  refine Stop.out ((cY _).mono ?_)
  rintro e W3 ⟨rfl, hb3⟩
  have K3 : Hid (Mc2 w W3 B C (.slice none 0 0) (.int .i64 0) none) := K2.out.on hb3
  clear K2 hb3 cY y0 y1
  go_wp2_with (go_at_call 29; refine Stop.mk ?_)
  refine Stop.out ((cS _).mono ?_)
  rintro e W4 ⟨g, cap, rfl, cl, hb4⟩
  have K4 : Hid (Mc2 w W4 B C (.slice none 0 0) (.int .i64 0) none) := K3.out.on hb4
  have HCe : Hid (∀ i (h : i < xs.length), W4.cell? ⟨g, i, none⟩ = some (.string xs[i])) := cl
  obtain ⟨n, hl⟩ : ∃ n, xs.length = n := ⟨_, rfl⟩
  have HL : Hid (xs.length = n) := hl
  rw [hl] at hlen ⊢
  clear K3 hb4 cS cl hl
  go_wp2
  go_loopg [12] n (fun k s12 wx => ∃ i : Nat, s12 = .int .i64 (i : Int) ∧ i ≤ n ∧ k + i = n ∧ Hid ((xs.drop i).any m = R) ∧ Hid (Mc2 w wx B C (.slice none 0 0) (.int .i64 0) none) ∧ Hid (∀ i (h : i < xs.length), wx.cell? ⟨g, i, none⟩ = some (.string xs[i])))
  case atStart => exact ⟨0, rfl, by omega, by omega, HR, K4, HCe⟩
  case round =>
    clear K4 HCe HR
    obtain ⟨i, rfl, hi, hg, HI, Kr, HCr⟩ := hrel
    by_cases hlt : i < n
    · have hlx : i < xs.length := by have := HL.out; omega
      obtain ⟨u, hu⟩ : ∃ u, xs[i] = u := ⟨_, rfl⟩
      have cl : wr.cell? ⟨g, i, none⟩ = some (.string u) := by have h0 := HCr.out i hlx; rw [hu] at h0; exact h0
      have cG := HCm.out wr u (HSZ.out u (by rw [← hu]; exact List.getElem_mem hlx)) (HP.out.on (hB ▸ Kr.out.F.b))
      have HI2 : Hid ((m u || (xs.drop (i + 1)).any m) = R) := by
        have := HI.out
        rw [List.drop_eq_getElem_cons hlx, List.any_cons, hu] at this
        exact this
      clear HI hlx hu
      cases hm : m u with
      | true =>
        rw [hm] at cG
        obtain rfl : R = true := by have := HI2.out; rw [hm, Bool.true_or] at this; exact this.symm
        clear HI2 hm
        go_wp2_with (go_at_call 30; refine Stop.mk ?_)
        refine Stop.out (cG.mono ?_)
        rintro e2 W9 ⟨rfl, hb9⟩
        have K9 : Hid (Mc2 w W9 B C (.slice none 0 0) (.int .i64 0) none) := Kr.out.on hb9
        clear hb9 cG Kr HCr cl
        go_upto_region 25 with fail
        obtain ⟨z0, z1, zf⟩ := K9.out.F.facts
        have c0 := K9.out.c0
        have c1 := K9.out.c1
        have hne := K9.out.ne
        have hne' := Ne.symm hne
        have HN : Hid _ := K9.out.v.ne z0 (fun s h => by cases h)
        go_region
        all_goals
          go_wp2
          refine bodyPost_ret (v := .tuple #[.bool true, .agg #[.slice none 0 0, .int .i64 0]]) (by simp [results, Tryz.results14, go_sem, z0, z1]) rfl ⟨_, rfl, ?_, ?_⟩
          · repeat (first | refine RErr.drewW ?_ | refine RErr.set ?_ HN.out)
            exact K9.out.v
          rw [hB]
          repeat (first | refine Below.drew ?_ | refine Below.setCell ?_ (by exact Nat.le_refl _) _)
          exact K9.out.F.b
      | false =>
        rw [hm] at cG
        have HI3 : Hid ((xs.drop (i + 1)).any m = R) := by have := HI2.out; rw [hm, Bool.false_or] at this; exact this
        clear HI2 hm
        go_wp2_with (go_at_call 30; refine Stop.mk ?_)
        refine Stop.out (cG.mono ?_)
        rintro e2 W9 ⟨rfl, hb9⟩
        have K9 : Hid (Mc2 w W9 B C (.slice none 0 0) (.int .i64 0) none) := Kr.out.on hb9
        have HC9 : Hid (∀ i (h : i < xs.length), W9.cell? ⟨g, i, none⟩ = some (.string xs[i])) := fun j h => (hb9.cell (cell_lt (HCr.out j h))).trans (HCr.out j h)
        clear hb9 cG Kr HCr cl
        go_wp2
        go_roundg (n - (i + 1))
        case measure => omega
        case rel => exact ⟨i + 1, by simp, by omega, by omega, HI3, K9, HC9⟩
    · obtain rfl : R = false := by
        have := HI.out
        rw [List.drop_eq_nil_of_le (by have := HL.out; omega)] at this
        exact this.symm
      clear HI
      go_upto_region 26 with fail
      obtain ⟨z0, z1, zf⟩ := Kr.out.F.facts
      have c0 := Kr.out.c0
      have c1 := Kr.out.c1
      have hne := Kr.out.ne
      have hne' := Ne.symm hne
      have HN : Hid _ := Kr.out.v.ne z0 (fun s h => by cases h)
      go_region
      all_goals
        go_wp2
        refine bodyPost_ret (v := .tuple #[.bool false, .agg #[.slice none 0 0, .int .i64 0]]) (by simp [results, Tryz.results14, go_sem, z0, z1]) rfl ⟨_, rfl, ?_, ?_⟩
        · repeat (first | refine RErr.drewW ?_ | refine RErr.set ?_ HN.out)
          exact Kr.out.v
        rw [hB]
        repeat (first | refine Below.drew ?_ | refine Below.setCell ?_ (by exact Nat.le_refl _) _)
        exact Kr.out.F.b
set_option maxRecDepth 100000 in
set_option maxHeartbeats 4000000 in
theorem rmatch_12 (w : World) (key v : ByteArray) (hk0 : key.size ≠ 0) (Z : Bool)
    (cm : ∀ W, Calls Tryz.prog 30 #[.int .i64 12, .string key, .string v] W (BoolP W Z)) (ck : ∀ W, Calls Tryz.prog 16 #[.int .i64 12, .string key] W (PostG W none)) : Calls Tryz.prog 14 #[.int .i64 12, .string key, .string v] w (PostF w (.bool Z) none) := by
  obtain ⟨B, hB⟩ : ∃ B, w.heap.size = B := ⟨_, rfl⟩
  obtain ⟨W0, hW0⟩ : ∃ W0, w.alloc (.cells #[.slice none 0 0, .int .i64 0] 35) = W0 := ⟨_, rfl⟩
  have F0 : Hid (Fc w W0 B) := by show Fc _ _ _; rw [← hW0, ← hB]; exact Fc.start w
  have hke := text_some hk0
  have cK := ck W0
  clear hk0 ck
  go_enter Tryz.func14, Tryz.ntmps14
  go_wp2_with (go_at_call 16; refine Stop.mk ?_)
  refine Stop.out (cK.mono ?_)
  rintro e W1 ⟨v1, rfl, hv1, hb1⟩
  have F1 : Hid (Fc w W1 B) := F0.out.on hb1
  obtain rfl : v1 = .agg #[.slice none 0 0, .int .i64 0] := hv1
  clear hW0 F0 hb1 cK
  go_upto_region 4 with fail
  obtain ⟨C, hC⟩ : ∃ C, W1.heap.size = C := ⟨_, rfl⟩
  obtain ⟨W2, hW2⟩ : ∃ W2, W1.alloc (.cells #[.slice none 0 0, .int .i64 0] 35) = W2 := ⟨_, rfl⟩
  have K2 : Hid (Mc2 w W2 B C (.slice none 0 0) (.int .i64 0) none) := by
    show Mc2 _ _ _ _ _ _ _
    rw [← hW2, ← hC]
    exact Mc2.start F1.out rfl
  rw [hW2, hC]
  clear hW2 hC F1
  have y0 := K2.out.c0
  have y1 := K2.out.c1
  have cY := fun W => any_none W
  go_wp2_with (go_at_call 28; refine Stop.mk ?_)
  refine Stop.out ((cY _).mono ?_)
  rintro e W3 ⟨rfl, hb3⟩
  have K3 : Hid (Mc2 w W3 B C (.slice none 0 0) (.int .i64 0) none) := K2.out.on hb3
  clear K2 hb3 cY y0 y1
  go_upto_region 19 with fail
  obtain ⟨z0, z1, zf⟩ := K3.out.F.facts
  have c0 := K3.out.c0
  have c1 := K3.out.c1
  have hne := K3.out.ne
  have hne' := Ne.symm hne
  go_region_with (first | (go_at_call 30; refine (cm _).mono ?_; rintro e W8 ⟨rfl, hb8⟩; have K8 := (show Mc2 w _ B C (.slice none 0 0) (.int .i64 0) none from (by first | exact K3.out.on hb8 | exact K3.out.drew.on hb8) : Mc2 w W8 B C (.slice none 0 0) (.int .i64 0) none); have f0 := K8.c0; have f1 := K8.c1; have t0 := K8.F.facts.1; have t1 := K8.F.facts.2.1; have tf := K8.F.facts.2.2; have HN : Hid _ := K8.v.ne t0 (fun s h => by cases h)) | fail)
  all_goals
    go_wp2
    refine bodyPost_ret (v := .tuple #[.bool Z, .agg #[.slice none 0 0, .int .i64 0]]) (by simp [results, Tryz.results14, go_sem, t0, t1]) rfl ⟨_, rfl, ?_, ?_⟩
    · repeat (first | refine RErr.drewW ?_ | refine RErr.set ?_ HN.out)
      exact K8.v
    rw [hB]
    repeat (first | refine Below.drew ?_ | refine Below.setCell ?_ (by exact Nat.le_refl _) _)
    exact K8.F.b
set_option maxRecDepth 100000 in
set_option maxHeartbeats 4000000 in
theorem rmatch_20 (w : World) (key v : ByteArray) (hk0 : key.size ≠ 0) (Z : Bool)
    (cm : ∀ W, Calls Tryz.prog 30 #[.int .i64 20, .string key, .string v] W (BoolP W Z)) (ck : ∀ W, Calls Tryz.prog 16 #[.int .i64 20, .string key] W (PostG W none)) : Calls Tryz.prog 14 #[.int .i64 20, .string key, .string v] w (PostF w (.bool Z) none) := by
  obtain ⟨B, hB⟩ : ∃ B, w.heap.size = B := ⟨_, rfl⟩
  obtain ⟨W0, hW0⟩ : ∃ W0, w.alloc (.cells #[.slice none 0 0, .int .i64 0] 35) = W0 := ⟨_, rfl⟩
  have F0 : Hid (Fc w W0 B) := by show Fc _ _ _; rw [← hW0, ← hB]; exact Fc.start w
  have hke := text_some hk0
  have cK := ck W0
  clear hk0 ck
  go_enter Tryz.func14, Tryz.ntmps14
  go_wp2_with (go_at_call 16; refine Stop.mk ?_)
  refine Stop.out (cK.mono ?_)
  rintro e W1 ⟨v1, rfl, hv1, hb1⟩
  have F1 : Hid (Fc w W1 B) := F0.out.on hb1
  obtain rfl : v1 = .agg #[.slice none 0 0, .int .i64 0] := hv1
  clear hW0 F0 hb1 cK
  go_upto_region 4 with fail
  obtain ⟨C, hC⟩ : ∃ C, W1.heap.size = C := ⟨_, rfl⟩
  obtain ⟨W2, hW2⟩ : ∃ W2, W1.alloc (.cells #[.slice none 0 0, .int .i64 0] 35) = W2 := ⟨_, rfl⟩
  have K2 : Hid (Mc2 w W2 B C (.slice none 0 0) (.int .i64 0) none) := by
    show Mc2 _ _ _ _ _ _ _
    rw [← hW2, ← hC]
    exact Mc2.start F1.out rfl
  rw [hW2, hC]
  clear hW2 hC F1
  have y0 := K2.out.c0
  have y1 := K2.out.c1
  have cY := fun W => any_none W
  go_wp2_with (go_at_call 28; refine Stop.mk ?_)
  refine Stop.out ((cY _).mono ?_)
  rintro e W3 ⟨rfl, hb3⟩
  have K3 : Hid (Mc2 w W3 B C (.slice none 0 0) (.int .i64 0) none) := K2.out.on hb3
  clear K2 hb3 cY y0 y1
  go_upto_region 19 with fail
  obtain ⟨z0, z1, zf⟩ := K3.out.F.facts
  have c0 := K3.out.c0
  have c1 := K3.out.c1
  have hne := K3.out.ne
  have hne' := Ne.symm hne
  go_region_with (first | (go_at_call 30; refine (cm _).mono ?_; rintro e W8 ⟨rfl, hb8⟩; have K8 := (show Mc2 w _ B C (.slice none 0 0) (.int .i64 0) none from (by first | exact K3.out.on hb8 | exact K3.out.drew.on hb8) : Mc2 w W8 B C (.slice none 0 0) (.int .i64 0) none); have f0 := K8.c0; have f1 := K8.c1; have t0 := K8.F.facts.1; have t1 := K8.F.facts.2.1; have tf := K8.F.facts.2.2; have HN : Hid _ := K8.v.ne t0 (fun s h => by cases h)) | fail)
  all_goals
    go_wp2
    refine bodyPost_ret (v := .tuple #[.bool Z, .agg #[.slice none 0 0, .int .i64 0]]) (by simp [results, Tryz.results14, go_sem, t0, t1]) rfl ⟨_, rfl, ?_, ?_⟩
    · repeat (first | refine RErr.drewW ?_ | refine RErr.set ?_ HN.out)
      exact K8.v
    rw [hB]
    repeat (first | refine Below.drew ?_ | refine Below.setCell ?_ (by exact Nat.le_refl _) _)
    exact K8.F.b
set_option maxRecDepth 100000 in
set_option maxHeartbeats 4000000 in
theorem rmatch_26 (w : World) (key v : ByteArray) (hk0 : key.size ≠ 0) (Z : Bool)
    (cm : ∀ W, Calls Tryz.prog 30 #[.int .i64 26, .string key, .string v] W (BoolP W Z)) (ck : ∀ W, Calls Tryz.prog 16 #[.int .i64 26, .string key] W (PostG W none)) : Calls Tryz.prog 14 #[.int .i64 26, .string key, .string v] w (PostF w (.bool Z) none) := by
  obtain ⟨B, hB⟩ : ∃ B, w.heap.size = B := ⟨_, rfl⟩
  obtain ⟨W0, hW0⟩ : ∃ W0, w.alloc (.cells #[.slice none 0 0, .int .i64 0] 35) = W0 := ⟨_, rfl⟩
  have F0 : Hid (Fc w W0 B) := by show Fc _ _ _; rw [← hW0, ← hB]; exact Fc.start w
  have hke := text_some hk0
  have cK := ck W0
  clear hk0 ck
  go_enter Tryz.func14, Tryz.ntmps14
  go_wp2_with (go_at_call 16; refine Stop.mk ?_)
  refine Stop.out (cK.mono ?_)
  rintro e W1 ⟨v1, rfl, hv1, hb1⟩
  have F1 : Hid (Fc w W1 B) := F0.out.on hb1
  obtain rfl : v1 = .agg #[.slice none 0 0, .int .i64 0] := hv1
  clear hW0 F0 hb1 cK
  go_upto_region 4 with fail
  obtain ⟨C, hC⟩ : ∃ C, W1.heap.size = C := ⟨_, rfl⟩
  obtain ⟨W2, hW2⟩ : ∃ W2, W1.alloc (.cells #[.slice none 0 0, .int .i64 0] 35) = W2 := ⟨_, rfl⟩
  have K2 : Hid (Mc2 w W2 B C (.slice none 0 0) (.int .i64 0) none) := by
    show Mc2 _ _ _ _ _ _ _
    rw [← hW2, ← hC]
    exact Mc2.start F1.out rfl
  rw [hW2, hC]
  clear hW2 hC F1
  have y0 := K2.out.c0
  have y1 := K2.out.c1
  have cY := fun W => any_none W
  go_wp2_with (go_at_call 28; refine Stop.mk ?_)
  refine Stop.out ((cY _).mono ?_)
  rintro e W3 ⟨rfl, hb3⟩
  have K3 : Hid (Mc2 w W3 B C (.slice none 0 0) (.int .i64 0) none) := K2.out.on hb3
  clear K2 hb3 cY y0 y1
  go_upto_region 19 with fail
  obtain ⟨z0, z1, zf⟩ := K3.out.F.facts
  have c0 := K3.out.c0
  have c1 := K3.out.c1
  have hne := K3.out.ne
  have hne' := Ne.symm hne
  go_region_with (first | (go_at_call 30; refine (cm _).mono ?_; rintro e W8 ⟨rfl, hb8⟩; have K8 := (show Mc2 w _ B C (.slice none 0 0) (.int .i64 0) none from (by first | exact K3.out.on hb8 | exact K3.out.drew.on hb8) : Mc2 w W8 B C (.slice none 0 0) (.int .i64 0) none); have f0 := K8.c0; have f1 := K8.c1; have t0 := K8.F.facts.1; have t1 := K8.F.facts.2.1; have tf := K8.F.facts.2.2; have HN : Hid _ := K8.v.ne t0 (fun s h => by cases h)) | fail)
  all_goals
    go_wp2
    refine bodyPost_ret (v := .tuple #[.bool Z, .agg #[.slice none 0 0, .int .i64 0]]) (by simp [results, Tryz.results14, go_sem, t0, t1]) rfl ⟨_, rfl, ?_, ?_⟩
    · repeat (first | refine RErr.drewW ?_ | refine RErr.set ?_ HN.out)
      exact K8.v
    rw [hB]
    repeat (first | refine Below.drew ?_ | refine Below.setCell ?_ (by exact Nat.le_refl _) _)
    exact K8.F.b
set_option maxRecDepth 100000 in
set_option maxHeartbeats 4000000 in
theorem rmatch_28 (w : World) (key v : ByteArray) (hk0 : key.size ≠ 0) (Z : Bool)
    (cm : ∀ W, Calls Tryz.prog 30 #[.int .i64 28, .string key, .string v] W (BoolP W Z)) (ck : ∀ W, Calls Tryz.prog 16 #[.int .i64 28, .string key] W (PostG W none)) : Calls Tryz.prog 14 #[.int .i64 28, .string key, .string v] w (PostF w (.bool Z) none) := by
  obtain ⟨B, hB⟩ : ∃ B, w.heap.size = B := ⟨_, rfl⟩
  obtain ⟨W0, hW0⟩ : ∃ W0, w.alloc (.cells #[.slice none 0 0, .int .i64 0] 35) = W0 := ⟨_, rfl⟩
  have F0 : Hid (Fc w W0 B) := by show Fc _ _ _; rw [← hW0, ← hB]; exact Fc.start w
  have hke := text_some hk0
  have cK := ck W0
  clear hk0 ck
  go_enter Tryz.func14, Tryz.ntmps14
  go_wp2_with (go_at_call 16; refine Stop.mk ?_)
  refine Stop.out (cK.mono ?_)
  rintro e W1 ⟨v1, rfl, hv1, hb1⟩
  have F1 : Hid (Fc w W1 B) := F0.out.on hb1
  obtain rfl : v1 = .agg #[.slice none 0 0, .int .i64 0] := hv1
  clear hW0 F0 hb1 cK
  go_upto_region 4 with fail
  obtain ⟨C, hC⟩ : ∃ C, W1.heap.size = C := ⟨_, rfl⟩
  obtain ⟨W2, hW2⟩ : ∃ W2, W1.alloc (.cells #[.slice none 0 0, .int .i64 0] 35) = W2 := ⟨_, rfl⟩
  have K2 : Hid (Mc2 w W2 B C (.slice none 0 0) (.int .i64 0) none) := by
    show Mc2 _ _ _ _ _ _ _
    rw [← hW2, ← hC]
    exact Mc2.start F1.out rfl
  rw [hW2, hC]
  clear hW2 hC F1
  have y0 := K2.out.c0
  have y1 := K2.out.c1
  have cY := fun W => any_none W
  go_wp2_with (go_at_call 28; refine Stop.mk ?_)
  refine Stop.out ((cY _).mono ?_)
  rintro e W3 ⟨rfl, hb3⟩
  have K3 : Hid (Mc2 w W3 B C (.slice none 0 0) (.int .i64 0) none) := K2.out.on hb3
  clear K2 hb3 cY y0 y1
  go_upto_region 19 with fail
  obtain ⟨z0, z1, zf⟩ := K3.out.F.facts
  have c0 := K3.out.c0
  have c1 := K3.out.c1
  have hne := K3.out.ne
  have hne' := Ne.symm hne
  go_region_with (first | (go_at_call 30; refine (cm _).mono ?_; rintro e W8 ⟨rfl, hb8⟩; have K8 := (show Mc2 w _ B C (.slice none 0 0) (.int .i64 0) none from (by first | exact K3.out.on hb8 | exact K3.out.drew.on hb8) : Mc2 w W8 B C (.slice none 0 0) (.int .i64 0) none); have f0 := K8.c0; have f1 := K8.c1; have t0 := K8.F.facts.1; have t1 := K8.F.facts.2.1; have tf := K8.F.facts.2.2; have HN : Hid _ := K8.v.ne t0 (fun s h => by cases h)) | fail)
  all_goals
    go_wp2
    refine bodyPost_ret (v := .tuple #[.bool Z, .agg #[.slice none 0 0, .int .i64 0]]) (by simp [results, Tryz.results14, go_sem, t0, t1]) rfl ⟨_, rfl, ?_, ?_⟩
    · repeat (first | refine RErr.drewW ?_ | refine RErr.set ?_ HN.out)
      exact K8.v
    rw [hB]
    repeat (first | refine Below.drew ?_ | refine Below.setCell ?_ (by exact Nat.le_refl _) _)
    exact K8.F.b
end Go.Proofs.YtehgeninocbpeaaGreatDoor.Tm
