import Derived.Test.YtehgeninocbpeaaGreatDoorQTs
import Derived.Deep.Cut
namespace Go.Proofs.YtehgeninocbpeaaGreatDoor.Tm
open Go Go.Proofs Go.RowKit
set_option maxRecDepth 100000 in
set_option maxHeartbeats 1000000 in
theorem pm4u (w : World) (s : ByteArray) (hs : s.size ≤ 140737488351232) (hn : cnt s 0 8 = 4) (hsz : s.size = 4) (hsg : Sgn s s.size) (o : Option (Int × Int)) (MS : Mst) (hO : (uf (nv s 0 4 : Nat) (1 : Nat) (1 : Nat) ≠ -1 ∧ o = some (pl (uf (nv s 0 4 : Nat) (1 : Nat) (1 : Nat)), 101) ∧ MS = zeroS) ∨ (uf (nv s 0 4 : Nat) (1 : Nat) (1 : Nat) = -1 ∧ o = none ∧ MS = { a := 0, b := false, o := none, y := nv s 0 4, m := 1, d := 1, dp := 1, h := 0, mi := 0, sc := 0, mc := 0, p := 0, zd := false, z := 0 })) : Calls Tryz.prog 86 #[.string s] w (PostF w (mo11 MS) o) := by
  have HSG : Hid (∀ k, k < s.size → (s.get! k).toNat ≠ 43 ∧ (s.get! k).toNat ≠ 45) := hsg.no
  have hle := hsg.le
  have h4 : cnt s 0 4 = 4 := by have := cnt_sub (s := s) (i := 0) 8 0 4 (by omega); simp only [Nat.add_zero] at this; exact this
  have c31 := fun W => digits31_any W s 0 8 (by omega) hs (by omega)
  rw [hn] at c31
  have D0 : Digs (s.extract 0 4) ∧ (s.extract 0 4).size ≤ 8 := ⟨digs_ext s 0 4 4 (by have := cnt_sub (s := s) (i := 0) 8 0 4 (by omega); simp only [Nat.zero_add] at this; omega), by rw [ByteArray.size_extract]; omega⟩
  have n0 := fun W => number47_any W (s.extract 0 4) D0.1 D0.2
  rw [show val (s.extract 0 4).data.toList = nv s 0 4 from rfl] at n0
  generalize nv s 0 4 = Y at *
  have c35 := fun W => dayNo_any W (Y : Int) (1 : Int) (1 : Int)
  have hUU := uf_is (Y : Int) (1 : Int) (1 : Int)
  have HO : Hid _ := hO
  clear hO
  clear D0
  clear hn h4 hsg
  have hbe : decide ((4 : Int) < (s.size : Int)) = false := by simp; omega
  have hbe2 : decide ((8 : Int) < (s.size : Int)) = false := by simp; omega
  have hlI : (4 : Int) ≤ (s.size : Int) := by omega
  have HSZ : Hid _ := hsz
  clear hsz
  obtain ⟨q, hq⟩ : ∃ q, w.heap.size = q := ⟨_, rfl⟩
  obtain ⟨W2, hW2⟩ : ∃ W2, (w.alloc (.cells #[.int .i64 0, .int .i64 0, .int .i64 0, .int .i64 0, .int .i64 0, .int .i64 0, .int .i64 0, .int .i64 0, .int .i64 0, .bool false, .int .i64 0] 130)).alloc (.cells #[.slice none 0 0, .int .i64 0] 35) = W2 := ⟨_, rfl⟩
  have HM : Hid (MN w W2 130 11 zm0) := by show MN w W2 130 11 zm0; rw [← hW2]; exact MN.start w _ 130
  have hl2 : w.heap.size + 2 ≤ W2.heap.size := by rw [← hW2]; simp
  have HW2 : Hid _ := hW2
  clear hW2
  go_enter Tryz.func86, Tryz.ntmps86
  go_wp2
  go_loopg [4, 5] s.size (fun g s4 s5 wx => ∃ i : Nat, s4 = .int .i64 (s.size : Int) ∧ s5 = .int .i64 (i : Int) ∧ g + i = s.size ∧ W2 = wx)
  case atStart => exact ⟨0, rfl, rfl, by omega, HW2.out.symm⟩
  case round =>
    obtain ⟨i, rfl, rfl, hg, rfl⟩ := hrel
    by_cases hi : i < s.size
    · have hno := HSG.out i hi
      have hil : i < s.size := by omega
      have hiI : decide ((i : Int) < (s.size : Int)) = true := by simp; omega
      have hiI2 : (i : Int) < (s.size : Int) := by omega
      rw [← get_get! s i hil] at hno
      obtain ⟨c, hc⟩ : ∃ c, s[i].toNat = c := ⟨_, rfl⟩
      rw [hc] at hno
      have h43 : ((c : Int) == 43) = false := by simp; omega
      have h45 : ((c : Int) == 45) = false := by simp; omega
      clear c31 c35 n0
      go_wp2
      go_roundg (s.size - (i + 1))
      case measure => omega
      case rel => exact ⟨i + 1, rfl, by first | rfl | simp, by omega, rfl⟩
    · obtain rfl : i = s.size := by omega
      obtain ⟨B, hBB⟩ : ∃ B, W2.heap.size = B := ⟨_, rfl⟩
      obtain ⟨W3, hW3⟩ : ∃ W3, W2.alloc (.cells #[.int .i64 1, .int .i64 1, .int .i64 1, .int .i64 0, .int .i64 0, .int .i64 0, .int .i64 0, .int .i64 0, .int .i64 0, .bool false, .int .i64 0] 130) = W3 := ⟨_, rfl⟩
      have P3 : Hid (PM w W3 B m1) := by show PM _ _ _ _; rw [← hW3, ← hBB]; exact PM.start HM.out hl2
      have HW3 : Hid _ := hW3
      clear hW3
      go_wp2_with (go_at_call 56; refine Stop.mk ?_)
      rw [HW3.out]
      refine Stop.out ((c31 _).mono ?_)
      rintro e W4 ⟨rfl, rfl⟩
      clear c31 HW3 HW2 HM hl2
      have b0 : W3.cell? ⟨B, 0, none⟩ = some (.int .i64 1) := P3.out.row.cell (i := 0) (by omega)
      have b1 : W3.cell? ⟨B, 1, none⟩ = some (.int .i64 1) := P3.out.row.cell (i := 1) (by omega)
      have b2 : W3.cell? ⟨B, 2, none⟩ = some (.int .i64 1) := P3.out.row.cell (i := 2) (by omega)
      have b3 : W3.cell? ⟨B, 3, none⟩ = some (.int .i64 0) := P3.out.row.cell (i := 3) (by omega)
      have b4 : W3.cell? ⟨B, 4, none⟩ = some (.int .i64 0) := P3.out.row.cell (i := 4) (by omega)
      have b5 : W3.cell? ⟨B, 5, none⟩ = some (.int .i64 0) := P3.out.row.cell (i := 5) (by omega)
      have b6 : W3.cell? ⟨B, 6, none⟩ = some (.int .i64 0) := P3.out.row.cell (i := 6) (by omega)
      have b7 : W3.cell? ⟨B, 7, none⟩ = some (.int .i64 0) := P3.out.row.cell (i := 7) (by omega)
      have b8 : W3.cell? ⟨B, 8, none⟩ = some (.int .i64 0) := P3.out.row.cell (i := 8) (by omega)
      have b9 : W3.cell? ⟨B, 9, none⟩ = some (.bool false) := P3.out.row.cell (i := 9) (by omega)
      have b10 : W3.cell? ⟨B, 10, none⟩ = some (.int .i64 0) := P3.out.row.cell (i := 10) (by omega)
      have bf := fun i => P3.out.row.frozen i
      go_wp2_with (go_at_call 57; refine Stop.mk ?_)
      refine Stop.out ((n0 _).mono ?_)
      rintro e W4 ⟨rfl, rfl⟩
      clear n0
      have P5 := ((P3.out.set 3 (.int .i64 1)).set 0 (.int .i64 (Y : Int)))
      obtain ⟨W5, hW5⟩ : ∃ W5, ((W3.setCell ⟨B, 3, none⟩ (.int .i64 1)).setCell ⟨B, 0, none⟩ (.int .i64 (Y : Int))) = W5 := ⟨_, rfl⟩
      rw [hW5] at P5
      have HW5 : Hid _ := hW5
      clear hW5
      go_wp2_with (go_at_call 112; refine Stop.mk ?_)
      rw [HW5.out]
      refine Stop.out ((c35 _).mono ?_)
      rintro e W6 ⟨rfl, hb6⟩
      have P6 : Hid _ := P5.on hb6
      clear c35 hb6 P5 HW5 b0 b1 b2 b3 b4 b5 b6 b7 b8 b9 b10 bf
      have b0 : W6.cell? ⟨B, 0, none⟩ = some (.int .i64 (Y : Int)) := P6.out.row.cell (i := 0) (by omega)
      have b1 : W6.cell? ⟨B, 1, none⟩ = some (.int .i64 1) := P6.out.row.cell (i := 1) (by omega)
      have b2 : W6.cell? ⟨B, 2, none⟩ = some (.int .i64 1) := P6.out.row.cell (i := 2) (by omega)
      have b3 : W6.cell? ⟨B, 3, none⟩ = some (.int .i64 1) := P6.out.row.cell (i := 3) (by omega)
      have b4 : W6.cell? ⟨B, 4, none⟩ = some (.int .i64 0) := P6.out.row.cell (i := 4) (by omega)
      have b5 : W6.cell? ⟨B, 5, none⟩ = some (.int .i64 0) := P6.out.row.cell (i := 5) (by omega)
      have b6 : W6.cell? ⟨B, 6, none⟩ = some (.int .i64 0) := P6.out.row.cell (i := 6) (by omega)
      have b7 : W6.cell? ⟨B, 7, none⟩ = some (.int .i64 0) := P6.out.row.cell (i := 7) (by omega)
      have b8 : W6.cell? ⟨B, 8, none⟩ = some (.int .i64 0) := P6.out.row.cell (i := 8) (by omega)
      have b9 : W6.cell? ⟨B, 9, none⟩ = some (.bool false) := P6.out.row.cell (i := 9) (by omega)
      have b10 : W6.cell? ⟨B, 10, none⟩ = some (.int .i64 0) := P6.out.row.cell (i := 10) (by omega)
      have bf := fun i => P6.out.row.frozen i
      obtain ⟨U, hU⟩ : ∃ U, uf (Y : Int) (1 : Int) (1 : Int) = U := ⟨_, rfl⟩
      rw [hU] at hUU ⊢
      rcases HO.out with ⟨hu, rfl, rfl⟩ | ⟨hu, rfl, rfl⟩
      · have hu' : uf (Y : Int) (1 : Int) (1 : Int) ≠ -1 := hu
        rw [hU] at hu'
        rcases (show U = 0 ∨ U = 1 ∨ U = 2 by omega) with rfl | rfl | rfl
        · have hpl : pl (uf (Y : Int) (1 : Int) (1 : Int)) = 0 := by rw [hU]; rfl
          obtain ⟨W7, hW7⟩ : ∃ W7, W6.alloc (.cells #[.int .i64 0, .int .i64 4, .int .i64 6] 3) = W7 := ⟨_, rfl⟩
          have P7 : Hid _ := P6.out.on ((Below.refl _ W6).alloc (Nat.le_refl _) (.cells #[.int .i64 0, .int .i64 4, .int .i64 6] 3))
          rw [hW7] at P7
          have HW7 : Hid _ := hW7
          have HPL : Hid (pl (uf (Y : Int) ((1 : Nat) : Int) ((1 : Nat) : Int)) = 0) := hpl
          clear hW7 HO hu hu' hpl
          go_wp2_with (go_at_call 31; refine Stop.mk ?_)
          rw [HW7.out]
          refine Stop.out ((no_any (0) 101 _).mono ?_)
          rintro e W9 ⟨v, rfl, hv, hb9⟩
          have P9 := P7.out.on hb9
          have hR := P9.m.r
          have hE := P9.m.e
          rw [hq] at hR hE
          obtain ⟨r0, r1, r2, r3, r4, r5, r6, r7, r8, r9, r10, s0, s1, rf, sf⟩ := z13 hR hE
          have n1 : Hid (Rne v q) := hv.ne r0 (fun s => by simp)
          have n2 : Hid (Rne v (q + 1)) := hv.ne s0 (fun s => by simp)
          have HV : Hid (RErr W9 v (some (0, 101))) := hv
          have HB9 : Hid (Below q w W9) := by have := P9.m.b; rw [hq] at this; exact this
          obtain ⟨g, k, rfl, _, _⟩ := hv
          clear hb9 P9 hR hE
          go_wp2
          refine bodyPost_ret (v := .tuple #[mo11 zeroS, .agg #[.slice (some ⟨g, 0, none⟩) 1 k, .int .i64 101]]) (by simp [results, Tryz.results86, go_sem, mo11, zeroS, r0, r1, r2, r3, r4, r5, r6, r7, r8, r9, r10, s0, s1]) rfl ⟨_, rfl, ?_, ?_⟩
          · rw [HPL.out]
            exact g13 HV.out n1.out n2.out
          · rw [hq]
            exact b13 HB9.out
        · have hpl : pl (uf (Y : Int) (1 : Int) (1 : Int)) = 4 := by rw [hU]; rfl
          obtain ⟨W7, hW7⟩ : ∃ W7, W6.alloc (.cells #[.int .i64 0, .int .i64 4, .int .i64 6] 3) = W7 := ⟨_, rfl⟩
          have P7 : Hid _ := P6.out.on ((Below.refl _ W6).alloc (Nat.le_refl _) (.cells #[.int .i64 0, .int .i64 4, .int .i64 6] 3))
          rw [hW7] at P7
          have HW7 : Hid _ := hW7
          have HPL : Hid (pl (uf (Y : Int) ((1 : Nat) : Int) ((1 : Nat) : Int)) = 4) := hpl
          clear hW7 HO hu hu' hpl
          go_wp2_with (go_at_call 31; refine Stop.mk ?_)
          rw [HW7.out]
          refine Stop.out ((no_any (4) 101 _).mono ?_)
          rintro e W9 ⟨v, rfl, hv, hb9⟩
          have P9 := P7.out.on hb9
          have hR := P9.m.r
          have hE := P9.m.e
          rw [hq] at hR hE
          obtain ⟨r0, r1, r2, r3, r4, r5, r6, r7, r8, r9, r10, s0, s1, rf, sf⟩ := z13 hR hE
          have n1 : Hid (Rne v q) := hv.ne r0 (fun s => by simp)
          have n2 : Hid (Rne v (q + 1)) := hv.ne s0 (fun s => by simp)
          have HV : Hid (RErr W9 v (some (4, 101))) := hv
          have HB9 : Hid (Below q w W9) := by have := P9.m.b; rw [hq] at this; exact this
          obtain ⟨g, k, rfl, _, _⟩ := hv
          clear hb9 P9 hR hE
          go_wp2
          refine bodyPost_ret (v := .tuple #[mo11 zeroS, .agg #[.slice (some ⟨g, 0, none⟩) 1 k, .int .i64 101]]) (by simp [results, Tryz.results86, go_sem, mo11, zeroS, r0, r1, r2, r3, r4, r5, r6, r7, r8, r9, r10, s0, s1]) rfl ⟨_, rfl, ?_, ?_⟩
          · rw [HPL.out]
            exact g13 HV.out n1.out n2.out
          · rw [hq]
            exact b13 HB9.out
        · have hpl : pl (uf (Y : Int) (1 : Int) (1 : Int)) = 6 := by rw [hU]; rfl
          obtain ⟨W7, hW7⟩ : ∃ W7, W6.alloc (.cells #[.int .i64 0, .int .i64 4, .int .i64 6] 3) = W7 := ⟨_, rfl⟩
          have P7 : Hid _ := P6.out.on ((Below.refl _ W6).alloc (Nat.le_refl _) (.cells #[.int .i64 0, .int .i64 4, .int .i64 6] 3))
          rw [hW7] at P7
          have HW7 : Hid _ := hW7
          have HPL : Hid (pl (uf (Y : Int) ((1 : Nat) : Int) ((1 : Nat) : Int)) = 6) := hpl
          clear hW7 HO hu hu' hpl
          go_wp2_with (go_at_call 31; refine Stop.mk ?_)
          rw [HW7.out]
          refine Stop.out ((no_any (6) 101 _).mono ?_)
          rintro e W9 ⟨v, rfl, hv, hb9⟩
          have P9 := P7.out.on hb9
          have hR := P9.m.r
          have hE := P9.m.e
          rw [hq] at hR hE
          obtain ⟨r0, r1, r2, r3, r4, r5, r6, r7, r8, r9, r10, s0, s1, rf, sf⟩ := z13 hR hE
          have n1 : Hid (Rne v q) := hv.ne r0 (fun s => by simp)
          have n2 : Hid (Rne v (q + 1)) := hv.ne s0 (fun s => by simp)
          have HV : Hid (RErr W9 v (some (6, 101))) := hv
          have HB9 : Hid (Below q w W9) := by have := P9.m.b; rw [hq] at this; exact this
          obtain ⟨g, k, rfl, _, _⟩ := hv
          clear hb9 P9 hR hE
          go_wp2
          refine bodyPost_ret (v := .tuple #[mo11 zeroS, .agg #[.slice (some ⟨g, 0, none⟩) 1 k, .int .i64 101]]) (by simp [results, Tryz.results86, go_sem, mo11, zeroS, r0, r1, r2, r3, r4, r5, r6, r7, r8, r9, r10, s0, s1]) rfl ⟨_, rfl, ?_, ?_⟩
          · rw [HPL.out]
            exact g13 HV.out n1.out n2.out
          · rw [hq]
            exact b13 HB9.out
      · have hu' : uf (Y : Int) (1 : Int) (1 : Int) = -1 := hu
        rw [hU] at hu'
        subst hu'
        clear HO hu hU
        go_upto_region 40 with fail
        have P8 : Hid _ := P6.out.drew
        have e0 : W6.cell? ⟨B, 0, none⟩ = some (.int .i64 (Y : Int)) := P8.out.row.cell (i := 0) (by omega)
        have e1 : W6.cell? ⟨B, 1, none⟩ = some (.int .i64 1) := P8.out.row.cell (i := 1) (by omega)
        have e2 : W6.cell? ⟨B, 2, none⟩ = some (.int .i64 1) := P8.out.row.cell (i := 2) (by omega)
        have e3 : W6.cell? ⟨B, 3, none⟩ = some (.int .i64 1) := P8.out.row.cell (i := 3) (by omega)
        have e4 : W6.cell? ⟨B, 4, none⟩ = some (.int .i64 0) := P8.out.row.cell (i := 4) (by omega)
        have e5 : W6.cell? ⟨B, 5, none⟩ = some (.int .i64 0) := P8.out.row.cell (i := 5) (by omega)
        have e6 : W6.cell? ⟨B, 6, none⟩ = some (.int .i64 0) := P8.out.row.cell (i := 6) (by omega)
        have e7 : W6.cell? ⟨B, 7, none⟩ = some (.int .i64 0) := P8.out.row.cell (i := 7) (by omega)
        have e8 : W6.cell? ⟨B, 8, none⟩ = some (.int .i64 0) := P8.out.row.cell (i := 8) (by omega)
        have e9 : W6.cell? ⟨B, 9, none⟩ = some (.bool false) := P8.out.row.cell (i := 9) (by omega)
        have e10 : W6.cell? ⟨B, 10, none⟩ = some (.int .i64 0) := P8.out.row.cell (i := 10) (by omega)
        go_region_with (first | (go_at_call 27; refine (none34_any _).mono ?_; rintro e W10 ⟨rfl, hb10⟩; have P10 := P8.out.on hb10; have g0 : W10.cell? ⟨B, 0, none⟩ = some (.int .i64 (Y : Int)) := P10.row.cell (i := 0) (by omega); have g1 : W10.cell? ⟨B, 1, none⟩ = some (.int .i64 1) := P10.row.cell (i := 1) (by omega); have g2 : W10.cell? ⟨B, 2, none⟩ = some (.int .i64 1) := P10.row.cell (i := 2) (by omega); have g3 : W10.cell? ⟨B, 3, none⟩ = some (.int .i64 1) := P10.row.cell (i := 3) (by omega); have g4 : W10.cell? ⟨B, 4, none⟩ = some (.int .i64 0) := P10.row.cell (i := 4) (by omega); have g5 : W10.cell? ⟨B, 5, none⟩ = some (.int .i64 0) := P10.row.cell (i := 5) (by omega); have g6 : W10.cell? ⟨B, 6, none⟩ = some (.int .i64 0) := P10.row.cell (i := 6) (by omega); have g7 : W10.cell? ⟨B, 7, none⟩ = some (.int .i64 0) := P10.row.cell (i := 7) (by omega); have g8 : W10.cell? ⟨B, 8, none⟩ = some (.int .i64 0) := P10.row.cell (i := 8) (by omega); have g9 : W10.cell? ⟨B, 9, none⟩ = some (.bool false) := P10.row.cell (i := 9) (by omega); have g10 : W10.cell? ⟨B, 10, none⟩ = some (.int .i64 0) := P10.row.cell (i := 10) (by omega); have hR := P10.m.r; have hE := P10.m.e; rw [hq] at hR hE; have r0 : W10.cell? ⟨q, 0, none⟩ = some (.int .i64 0) := hR.cell (i := 0) (by omega); have r1 : W10.cell? ⟨q, 1, none⟩ = some (.int .i64 0) := hR.cell (i := 1) (by omega); have r2 : W10.cell? ⟨q, 2, none⟩ = some (.int .i64 0) := hR.cell (i := 2) (by omega); have r3 : W10.cell? ⟨q, 3, none⟩ = some (.int .i64 0) := hR.cell (i := 3) (by omega); have r4 : W10.cell? ⟨q, 4, none⟩ = some (.int .i64 0) := hR.cell (i := 4) (by omega); have r5 : W10.cell? ⟨q, 5, none⟩ = some (.int .i64 0) := hR.cell (i := 5) (by omega); have r6 : W10.cell? ⟨q, 6, none⟩ = some (.int .i64 0) := hR.cell (i := 6) (by omega); have r7 : W10.cell? ⟨q, 7, none⟩ = some (.int .i64 0) := hR.cell (i := 7) (by omega); have r8 : W10.cell? ⟨q, 8, none⟩ = some (.int .i64 0) := hR.cell (i := 8) (by omega); have r9 : W10.cell? ⟨q, 9, none⟩ = some (.bool false) := hR.cell (i := 9) (by omega); have r10 : W10.cell? ⟨q, 10, none⟩ = some (.int .i64 0) := hR.cell (i := 10) (by omega); have s0 : W10.cell? ⟨q + 1, 0, none⟩ = some (.slice none 0 0) := hE.cell (i := 0) (by omega); have s1 : W10.cell? ⟨q + 1, 1, none⟩ = some (.int .i64 0) := hE.cell (i := 1) (by omega); have rf := fun i => hR.frozen i; have sf := fun i => hE.frozen i) | fail)
        all_goals
          have hB10 := P10.m.b
          rw [hq] at hB10
          go_wp2
          refine bodyPost_ret (v := .tuple #[.agg #[.int .i64 (Y : Int), .int .i64 1, .int .i64 1, .int .i64 1, .int .i64 0, .int .i64 0, .int .i64 0, .int .i64 0, .int .i64 0, .bool false, .int .i64 0], .agg #[.slice none 0 0, .int .i64 0]]) (by simp [results, Tryz.results86, go_sem, r0, r1, r2, r3, r4, r5, r6, r7, r8, r9, r10, s0, s1]) rfl ⟨_, rfl, rfl, ?_⟩
          rw [hq]
          exact b13 hB10
set_option maxRecDepth 100000 in
set_option maxHeartbeats 1000000 in
theorem pm6u (w : World) (s : ByteArray) (hs : s.size ≤ 140737488351232) (hn : cnt s 0 8 = 6) (hsz : s.size = 6) (hsg : Sgn s s.size) (o : Option (Int × Int)) (MS : Mst) (hO : (uf (nv s 0 4 : Nat) (nv s 4 2 : Nat) (1 : Nat) ≠ -1 ∧ o = some (pl (uf (nv s 0 4 : Nat) (nv s 4 2 : Nat) (1 : Nat)), 101) ∧ MS = zeroS) ∨ (uf (nv s 0 4 : Nat) (nv s 4 2 : Nat) (1 : Nat) = -1 ∧ o = none ∧ MS = { a := 0, b := false, o := none, y := nv s 0 4, m := nv s 4 2, d := 1, dp := 2, h := 0, mi := 0, sc := 0, mc := 0, p := 0, zd := false, z := 0 })) : Calls Tryz.prog 86 #[.string s] w (PostF w (mo11 MS) o) := by
  have HSG : Hid (∀ k, k < s.size → (s.get! k).toNat ≠ 43 ∧ (s.get! k).toNat ≠ 45) := hsg.no
  have hle := hsg.le
  have h4 : cnt s 0 4 = 4 := by have := cnt_sub (s := s) (i := 0) 8 0 4 (by omega); simp only [Nat.add_zero] at this; exact this
  have c31 := fun W => digits31_any W s 0 8 (by omega) hs (by omega)
  rw [hn] at c31
  have D0 : Digs (s.extract 0 4) ∧ (s.extract 0 4).size ≤ 8 := ⟨digs_ext s 0 4 4 (by have := cnt_sub (s := s) (i := 0) 8 0 4 (by omega); simp only [Nat.zero_add] at this; omega), by rw [ByteArray.size_extract]; omega⟩
  have n0 := fun W => number47_any W (s.extract 0 4) D0.1 D0.2
  rw [show val (s.extract 0 4).data.toList = nv s 0 4 from rfl] at n0
  have D4 : Digs (s.extract 4 6) ∧ (s.extract 4 6).size ≤ 8 := ⟨digs_ext s 4 2 2 (by have := cnt_sub (s := s) (i := 0) 8 4 2 (by omega); simp only [Nat.zero_add] at this; omega), by rw [ByteArray.size_extract]; omega⟩
  have n4 := fun W => number47_any W (s.extract 4 6) D4.1 D4.2
  rw [show val (s.extract 4 6).data.toList = nv s 4 2 from rfl] at n4
  generalize nv s 0 4 = Y at *
  generalize nv s 4 2 = M at *
  have c35 := fun W => dayNo_any W (Y : Int) (M : Int) (1 : Int)
  have hUU := uf_is (Y : Int) (M : Int) (1 : Int)
  have HO : Hid _ := hO
  clear hO
  clear D0
  clear D4
  clear hn h4 hsg
  have hbe : decide ((6 : Int) < (s.size : Int)) = false := by simp; omega
  have hbe2 : decide ((8 : Int) < (s.size : Int)) = false := by simp; omega
  have hlI : (6 : Int) ≤ (s.size : Int) := by omega
  have hlI4 : (4 : Int) ≤ (s.size : Int) := by omega
  have HSZ : Hid _ := hsz
  clear hsz
  obtain ⟨q, hq⟩ : ∃ q, w.heap.size = q := ⟨_, rfl⟩
  obtain ⟨W2, hW2⟩ : ∃ W2, (w.alloc (.cells #[.int .i64 0, .int .i64 0, .int .i64 0, .int .i64 0, .int .i64 0, .int .i64 0, .int .i64 0, .int .i64 0, .int .i64 0, .bool false, .int .i64 0] 130)).alloc (.cells #[.slice none 0 0, .int .i64 0] 35) = W2 := ⟨_, rfl⟩
  have HM : Hid (MN w W2 130 11 zm0) := by show MN w W2 130 11 zm0; rw [← hW2]; exact MN.start w _ 130
  have hl2 : w.heap.size + 2 ≤ W2.heap.size := by rw [← hW2]; simp
  have HW2 : Hid _ := hW2
  clear hW2
  go_enter Tryz.func86, Tryz.ntmps86
  go_wp2
  go_loopg [4, 5] s.size (fun g s4 s5 wx => ∃ i : Nat, s4 = .int .i64 (s.size : Int) ∧ s5 = .int .i64 (i : Int) ∧ g + i = s.size ∧ W2 = wx)
  case atStart => exact ⟨0, rfl, rfl, by omega, HW2.out.symm⟩
  case round =>
    obtain ⟨i, rfl, rfl, hg, rfl⟩ := hrel
    by_cases hi : i < s.size
    · have hno := HSG.out i hi
      have hil : i < s.size := by omega
      have hiI : decide ((i : Int) < (s.size : Int)) = true := by simp; omega
      have hiI2 : (i : Int) < (s.size : Int) := by omega
      rw [← get_get! s i hil] at hno
      obtain ⟨c, hc⟩ : ∃ c, s[i].toNat = c := ⟨_, rfl⟩
      rw [hc] at hno
      have h43 : ((c : Int) == 43) = false := by simp; omega
      have h45 : ((c : Int) == 45) = false := by simp; omega
      clear c31 c35 n0 n4
      go_wp2
      go_roundg (s.size - (i + 1))
      case measure => omega
      case rel => exact ⟨i + 1, rfl, by first | rfl | simp, by omega, rfl⟩
    · obtain rfl : i = s.size := by omega
      obtain ⟨B, hBB⟩ : ∃ B, W2.heap.size = B := ⟨_, rfl⟩
      obtain ⟨W3, hW3⟩ : ∃ W3, W2.alloc (.cells #[.int .i64 1, .int .i64 1, .int .i64 1, .int .i64 0, .int .i64 0, .int .i64 0, .int .i64 0, .int .i64 0, .int .i64 0, .bool false, .int .i64 0] 130) = W3 := ⟨_, rfl⟩
      have P3 : Hid (PM w W3 B m1) := by show PM _ _ _ _; rw [← hW3, ← hBB]; exact PM.start HM.out hl2
      have HW3 : Hid _ := hW3
      clear hW3
      go_wp2_with (go_at_call 56; refine Stop.mk ?_)
      rw [HW3.out]
      refine Stop.out ((c31 _).mono ?_)
      rintro e W4 ⟨rfl, rfl⟩
      clear c31 HW3 HW2 HM hl2
      have b0 : W3.cell? ⟨B, 0, none⟩ = some (.int .i64 1) := P3.out.row.cell (i := 0) (by omega)
      have b1 : W3.cell? ⟨B, 1, none⟩ = some (.int .i64 1) := P3.out.row.cell (i := 1) (by omega)
      have b2 : W3.cell? ⟨B, 2, none⟩ = some (.int .i64 1) := P3.out.row.cell (i := 2) (by omega)
      have b3 : W3.cell? ⟨B, 3, none⟩ = some (.int .i64 0) := P3.out.row.cell (i := 3) (by omega)
      have b4 : W3.cell? ⟨B, 4, none⟩ = some (.int .i64 0) := P3.out.row.cell (i := 4) (by omega)
      have b5 : W3.cell? ⟨B, 5, none⟩ = some (.int .i64 0) := P3.out.row.cell (i := 5) (by omega)
      have b6 : W3.cell? ⟨B, 6, none⟩ = some (.int .i64 0) := P3.out.row.cell (i := 6) (by omega)
      have b7 : W3.cell? ⟨B, 7, none⟩ = some (.int .i64 0) := P3.out.row.cell (i := 7) (by omega)
      have b8 : W3.cell? ⟨B, 8, none⟩ = some (.int .i64 0) := P3.out.row.cell (i := 8) (by omega)
      have b9 : W3.cell? ⟨B, 9, none⟩ = some (.bool false) := P3.out.row.cell (i := 9) (by omega)
      have b10 : W3.cell? ⟨B, 10, none⟩ = some (.int .i64 0) := P3.out.row.cell (i := 10) (by omega)
      have bf := fun i => P3.out.row.frozen i
      go_wp2_with (go_at_call 57; refine Stop.mk ?_)
      refine Stop.out ((n0 _).mono ?_)
      rintro e W4 ⟨rfl, rfl⟩
      clear n0
      go_wp2_with (go_at_call 57; refine Stop.mk ?_)
      refine Stop.out ((n4 _).mono ?_)
      rintro e W4 ⟨rfl, rfl⟩
      clear n4
      have P5 := (((P3.out.set 3 (.int .i64 2)).set 0 (.int .i64 (Y : Int))).set 1 (.int .i64 (M : Int)))
      obtain ⟨W5, hW5⟩ : ∃ W5, (((W3.setCell ⟨B, 3, none⟩ (.int .i64 2)).setCell ⟨B, 0, none⟩ (.int .i64 (Y : Int))).setCell ⟨B, 1, none⟩ (.int .i64 (M : Int))) = W5 := ⟨_, rfl⟩
      rw [hW5] at P5
      have HW5 : Hid _ := hW5
      clear hW5
      go_wp2_with (go_at_call 112; refine Stop.mk ?_)
      rw [HW5.out]
      refine Stop.out ((c35 _).mono ?_)
      rintro e W6 ⟨rfl, hb6⟩
      have P6 : Hid _ := P5.on hb6
      clear c35 hb6 P5 HW5 b0 b1 b2 b3 b4 b5 b6 b7 b8 b9 b10 bf
      have b0 : W6.cell? ⟨B, 0, none⟩ = some (.int .i64 (Y : Int)) := P6.out.row.cell (i := 0) (by omega)
      have b1 : W6.cell? ⟨B, 1, none⟩ = some (.int .i64 (M : Int)) := P6.out.row.cell (i := 1) (by omega)
      have b2 : W6.cell? ⟨B, 2, none⟩ = some (.int .i64 1) := P6.out.row.cell (i := 2) (by omega)
      have b3 : W6.cell? ⟨B, 3, none⟩ = some (.int .i64 2) := P6.out.row.cell (i := 3) (by omega)
      have b4 : W6.cell? ⟨B, 4, none⟩ = some (.int .i64 0) := P6.out.row.cell (i := 4) (by omega)
      have b5 : W6.cell? ⟨B, 5, none⟩ = some (.int .i64 0) := P6.out.row.cell (i := 5) (by omega)
      have b6 : W6.cell? ⟨B, 6, none⟩ = some (.int .i64 0) := P6.out.row.cell (i := 6) (by omega)
      have b7 : W6.cell? ⟨B, 7, none⟩ = some (.int .i64 0) := P6.out.row.cell (i := 7) (by omega)
      have b8 : W6.cell? ⟨B, 8, none⟩ = some (.int .i64 0) := P6.out.row.cell (i := 8) (by omega)
      have b9 : W6.cell? ⟨B, 9, none⟩ = some (.bool false) := P6.out.row.cell (i := 9) (by omega)
      have b10 : W6.cell? ⟨B, 10, none⟩ = some (.int .i64 0) := P6.out.row.cell (i := 10) (by omega)
      have bf := fun i => P6.out.row.frozen i
      obtain ⟨U, hU⟩ : ∃ U, uf (Y : Int) (M : Int) (1 : Int) = U := ⟨_, rfl⟩
      rw [hU] at hUU ⊢
      rcases HO.out with ⟨hu, rfl, rfl⟩ | ⟨hu, rfl, rfl⟩
      · have hu' : uf (Y : Int) (M : Int) (1 : Int) ≠ -1 := hu
        rw [hU] at hu'
        rcases (show U = 0 ∨ U = 1 ∨ U = 2 by omega) with rfl | rfl | rfl
        · have hpl : pl (uf (Y : Int) (M : Int) (1 : Int)) = 0 := by rw [hU]; rfl
          obtain ⟨W7, hW7⟩ : ∃ W7, W6.alloc (.cells #[.int .i64 0, .int .i64 4, .int .i64 6] 3) = W7 := ⟨_, rfl⟩
          have P7 : Hid _ := P6.out.on ((Below.refl _ W6).alloc (Nat.le_refl _) (.cells #[.int .i64 0, .int .i64 4, .int .i64 6] 3))
          rw [hW7] at P7
          have HW7 : Hid _ := hW7
          have HPL : Hid (pl (uf (Y : Int) (M : Int) ((1 : Nat) : Int)) = 0) := hpl
          clear hW7 HO hu hu' hpl
          go_wp2_with (go_at_call 31; refine Stop.mk ?_)
          rw [HW7.out]
          refine Stop.out ((no_any (0) 101 _).mono ?_)
          rintro e W9 ⟨v, rfl, hv, hb9⟩
          have P9 := P7.out.on hb9
          have hR := P9.m.r
          have hE := P9.m.e
          rw [hq] at hR hE
          obtain ⟨r0, r1, r2, r3, r4, r5, r6, r7, r8, r9, r10, s0, s1, rf, sf⟩ := z13 hR hE
          have n1 : Hid (Rne v q) := hv.ne r0 (fun s => by simp)
          have n2 : Hid (Rne v (q + 1)) := hv.ne s0 (fun s => by simp)
          have HV : Hid (RErr W9 v (some (0, 101))) := hv
          have HB9 : Hid (Below q w W9) := by have := P9.m.b; rw [hq] at this; exact this
          obtain ⟨g, k, rfl, _, _⟩ := hv
          clear hb9 P9 hR hE
          go_wp2
          refine bodyPost_ret (v := .tuple #[mo11 zeroS, .agg #[.slice (some ⟨g, 0, none⟩) 1 k, .int .i64 101]]) (by simp [results, Tryz.results86, go_sem, mo11, zeroS, r0, r1, r2, r3, r4, r5, r6, r7, r8, r9, r10, s0, s1]) rfl ⟨_, rfl, ?_, ?_⟩
          · rw [HPL.out]
            exact g13 HV.out n1.out n2.out
          · rw [hq]
            exact b13 HB9.out
        · have hpl : pl (uf (Y : Int) (M : Int) (1 : Int)) = 4 := by rw [hU]; rfl
          obtain ⟨W7, hW7⟩ : ∃ W7, W6.alloc (.cells #[.int .i64 0, .int .i64 4, .int .i64 6] 3) = W7 := ⟨_, rfl⟩
          have P7 : Hid _ := P6.out.on ((Below.refl _ W6).alloc (Nat.le_refl _) (.cells #[.int .i64 0, .int .i64 4, .int .i64 6] 3))
          rw [hW7] at P7
          have HW7 : Hid _ := hW7
          have HPL : Hid (pl (uf (Y : Int) (M : Int) ((1 : Nat) : Int)) = 4) := hpl
          clear hW7 HO hu hu' hpl
          go_wp2_with (go_at_call 31; refine Stop.mk ?_)
          rw [HW7.out]
          refine Stop.out ((no_any (4) 101 _).mono ?_)
          rintro e W9 ⟨v, rfl, hv, hb9⟩
          have P9 := P7.out.on hb9
          have hR := P9.m.r
          have hE := P9.m.e
          rw [hq] at hR hE
          obtain ⟨r0, r1, r2, r3, r4, r5, r6, r7, r8, r9, r10, s0, s1, rf, sf⟩ := z13 hR hE
          have n1 : Hid (Rne v q) := hv.ne r0 (fun s => by simp)
          have n2 : Hid (Rne v (q + 1)) := hv.ne s0 (fun s => by simp)
          have HV : Hid (RErr W9 v (some (4, 101))) := hv
          have HB9 : Hid (Below q w W9) := by have := P9.m.b; rw [hq] at this; exact this
          obtain ⟨g, k, rfl, _, _⟩ := hv
          clear hb9 P9 hR hE
          go_wp2
          refine bodyPost_ret (v := .tuple #[mo11 zeroS, .agg #[.slice (some ⟨g, 0, none⟩) 1 k, .int .i64 101]]) (by simp [results, Tryz.results86, go_sem, mo11, zeroS, r0, r1, r2, r3, r4, r5, r6, r7, r8, r9, r10, s0, s1]) rfl ⟨_, rfl, ?_, ?_⟩
          · rw [HPL.out]
            exact g13 HV.out n1.out n2.out
          · rw [hq]
            exact b13 HB9.out
        · have hpl : pl (uf (Y : Int) (M : Int) (1 : Int)) = 6 := by rw [hU]; rfl
          obtain ⟨W7, hW7⟩ : ∃ W7, W6.alloc (.cells #[.int .i64 0, .int .i64 4, .int .i64 6] 3) = W7 := ⟨_, rfl⟩
          have P7 : Hid _ := P6.out.on ((Below.refl _ W6).alloc (Nat.le_refl _) (.cells #[.int .i64 0, .int .i64 4, .int .i64 6] 3))
          rw [hW7] at P7
          have HW7 : Hid _ := hW7
          have HPL : Hid (pl (uf (Y : Int) (M : Int) ((1 : Nat) : Int)) = 6) := hpl
          clear hW7 HO hu hu' hpl
          go_wp2_with (go_at_call 31; refine Stop.mk ?_)
          rw [HW7.out]
          refine Stop.out ((no_any (6) 101 _).mono ?_)
          rintro e W9 ⟨v, rfl, hv, hb9⟩
          have P9 := P7.out.on hb9
          have hR := P9.m.r
          have hE := P9.m.e
          rw [hq] at hR hE
          obtain ⟨r0, r1, r2, r3, r4, r5, r6, r7, r8, r9, r10, s0, s1, rf, sf⟩ := z13 hR hE
          have n1 : Hid (Rne v q) := hv.ne r0 (fun s => by simp)
          have n2 : Hid (Rne v (q + 1)) := hv.ne s0 (fun s => by simp)
          have HV : Hid (RErr W9 v (some (6, 101))) := hv
          have HB9 : Hid (Below q w W9) := by have := P9.m.b; rw [hq] at this; exact this
          obtain ⟨g, k, rfl, _, _⟩ := hv
          clear hb9 P9 hR hE
          go_wp2
          refine bodyPost_ret (v := .tuple #[mo11 zeroS, .agg #[.slice (some ⟨g, 0, none⟩) 1 k, .int .i64 101]]) (by simp [results, Tryz.results86, go_sem, mo11, zeroS, r0, r1, r2, r3, r4, r5, r6, r7, r8, r9, r10, s0, s1]) rfl ⟨_, rfl, ?_, ?_⟩
          · rw [HPL.out]
            exact g13 HV.out n1.out n2.out
          · rw [hq]
            exact b13 HB9.out
      · have hu' : uf (Y : Int) (M : Int) (1 : Int) = -1 := hu
        rw [hU] at hu'
        subst hu'
        clear HO hu hU
        go_upto_region 40 with fail
        have P8 : Hid _ := P6.out.drew
        have e0 : W6.cell? ⟨B, 0, none⟩ = some (.int .i64 (Y : Int)) := P8.out.row.cell (i := 0) (by omega)
        have e1 : W6.cell? ⟨B, 1, none⟩ = some (.int .i64 (M : Int)) := P8.out.row.cell (i := 1) (by omega)
        have e2 : W6.cell? ⟨B, 2, none⟩ = some (.int .i64 1) := P8.out.row.cell (i := 2) (by omega)
        have e3 : W6.cell? ⟨B, 3, none⟩ = some (.int .i64 2) := P8.out.row.cell (i := 3) (by omega)
        have e4 : W6.cell? ⟨B, 4, none⟩ = some (.int .i64 0) := P8.out.row.cell (i := 4) (by omega)
        have e5 : W6.cell? ⟨B, 5, none⟩ = some (.int .i64 0) := P8.out.row.cell (i := 5) (by omega)
        have e6 : W6.cell? ⟨B, 6, none⟩ = some (.int .i64 0) := P8.out.row.cell (i := 6) (by omega)
        have e7 : W6.cell? ⟨B, 7, none⟩ = some (.int .i64 0) := P8.out.row.cell (i := 7) (by omega)
        have e8 : W6.cell? ⟨B, 8, none⟩ = some (.int .i64 0) := P8.out.row.cell (i := 8) (by omega)
        have e9 : W6.cell? ⟨B, 9, none⟩ = some (.bool false) := P8.out.row.cell (i := 9) (by omega)
        have e10 : W6.cell? ⟨B, 10, none⟩ = some (.int .i64 0) := P8.out.row.cell (i := 10) (by omega)
        go_region_with (first | (go_at_call 27; refine (none34_any _).mono ?_; rintro e W10 ⟨rfl, hb10⟩; have P10 := P8.out.on hb10; have g0 : W10.cell? ⟨B, 0, none⟩ = some (.int .i64 (Y : Int)) := P10.row.cell (i := 0) (by omega); have g1 : W10.cell? ⟨B, 1, none⟩ = some (.int .i64 (M : Int)) := P10.row.cell (i := 1) (by omega); have g2 : W10.cell? ⟨B, 2, none⟩ = some (.int .i64 1) := P10.row.cell (i := 2) (by omega); have g3 : W10.cell? ⟨B, 3, none⟩ = some (.int .i64 2) := P10.row.cell (i := 3) (by omega); have g4 : W10.cell? ⟨B, 4, none⟩ = some (.int .i64 0) := P10.row.cell (i := 4) (by omega); have g5 : W10.cell? ⟨B, 5, none⟩ = some (.int .i64 0) := P10.row.cell (i := 5) (by omega); have g6 : W10.cell? ⟨B, 6, none⟩ = some (.int .i64 0) := P10.row.cell (i := 6) (by omega); have g7 : W10.cell? ⟨B, 7, none⟩ = some (.int .i64 0) := P10.row.cell (i := 7) (by omega); have g8 : W10.cell? ⟨B, 8, none⟩ = some (.int .i64 0) := P10.row.cell (i := 8) (by omega); have g9 : W10.cell? ⟨B, 9, none⟩ = some (.bool false) := P10.row.cell (i := 9) (by omega); have g10 : W10.cell? ⟨B, 10, none⟩ = some (.int .i64 0) := P10.row.cell (i := 10) (by omega); have hR := P10.m.r; have hE := P10.m.e; rw [hq] at hR hE; have r0 : W10.cell? ⟨q, 0, none⟩ = some (.int .i64 0) := hR.cell (i := 0) (by omega); have r1 : W10.cell? ⟨q, 1, none⟩ = some (.int .i64 0) := hR.cell (i := 1) (by omega); have r2 : W10.cell? ⟨q, 2, none⟩ = some (.int .i64 0) := hR.cell (i := 2) (by omega); have r3 : W10.cell? ⟨q, 3, none⟩ = some (.int .i64 0) := hR.cell (i := 3) (by omega); have r4 : W10.cell? ⟨q, 4, none⟩ = some (.int .i64 0) := hR.cell (i := 4) (by omega); have r5 : W10.cell? ⟨q, 5, none⟩ = some (.int .i64 0) := hR.cell (i := 5) (by omega); have r6 : W10.cell? ⟨q, 6, none⟩ = some (.int .i64 0) := hR.cell (i := 6) (by omega); have r7 : W10.cell? ⟨q, 7, none⟩ = some (.int .i64 0) := hR.cell (i := 7) (by omega); have r8 : W10.cell? ⟨q, 8, none⟩ = some (.int .i64 0) := hR.cell (i := 8) (by omega); have r9 : W10.cell? ⟨q, 9, none⟩ = some (.bool false) := hR.cell (i := 9) (by omega); have r10 : W10.cell? ⟨q, 10, none⟩ = some (.int .i64 0) := hR.cell (i := 10) (by omega); have s0 : W10.cell? ⟨q + 1, 0, none⟩ = some (.slice none 0 0) := hE.cell (i := 0) (by omega); have s1 : W10.cell? ⟨q + 1, 1, none⟩ = some (.int .i64 0) := hE.cell (i := 1) (by omega); have rf := fun i => hR.frozen i; have sf := fun i => hE.frozen i) | fail)
        all_goals
          have hB10 := P10.m.b
          rw [hq] at hB10
          go_wp2
          refine bodyPost_ret (v := .tuple #[.agg #[.int .i64 (Y : Int), .int .i64 (M : Int), .int .i64 1, .int .i64 2, .int .i64 0, .int .i64 0, .int .i64 0, .int .i64 0, .int .i64 0, .bool false, .int .i64 0], .agg #[.slice none 0 0, .int .i64 0]]) (by simp [results, Tryz.results86, go_sem, r0, r1, r2, r3, r4, r5, r6, r7, r8, r9, r10, s0, s1]) rfl ⟨_, rfl, rfl, ?_⟩
          rw [hq]
          exact b13 hB10
set_option maxRecDepth 100000 in
set_option maxHeartbeats 1000000 in
theorem pm8u (w : World) (s : ByteArray) (hs : s.size ≤ 140737488351232) (hn : cnt s 0 8 = 8) (hsz : s.size = 8) (hsg : Sgn s s.size) (o : Option (Int × Int)) (MS : Mst) (hO : (uf (nv s 0 4 : Nat) (nv s 4 2 : Nat) (nv s 6 2 : Nat) ≠ -1 ∧ o = some (pl (uf (nv s 0 4 : Nat) (nv s 4 2 : Nat) (nv s 6 2 : Nat)), 101) ∧ MS = zeroS) ∨ (uf (nv s 0 4 : Nat) (nv s 4 2 : Nat) (nv s 6 2 : Nat) = -1 ∧ o = none ∧ MS = { a := 0, b := false, o := none, y := nv s 0 4, m := nv s 4 2, d := nv s 6 2, dp := 3, h := 0, mi := 0, sc := 0, mc := 0, p := 0, zd := false, z := 0 })) : Calls Tryz.prog 86 #[.string s] w (PostF w (mo11 MS) o) := by
  have HSG : Hid (∀ k, k < s.size → (s.get! k).toNat ≠ 43 ∧ (s.get! k).toNat ≠ 45) := hsg.no
  have hle := hsg.le
  have h4 : cnt s 0 4 = 4 := by have := cnt_sub (s := s) (i := 0) 8 0 4 (by omega); simp only [Nat.add_zero] at this; exact this
  have c31 := fun W => digits31_any W s 0 8 (by omega) hs (by omega)
  rw [hn] at c31
  have D0 : Digs (s.extract 0 4) ∧ (s.extract 0 4).size ≤ 8 := ⟨digs_ext s 0 4 4 (by have := cnt_sub (s := s) (i := 0) 8 0 4 (by omega); simp only [Nat.zero_add] at this; omega), by rw [ByteArray.size_extract]; omega⟩
  have n0 := fun W => number47_any W (s.extract 0 4) D0.1 D0.2
  rw [show val (s.extract 0 4).data.toList = nv s 0 4 from rfl] at n0
  have D4 : Digs (s.extract 4 6) ∧ (s.extract 4 6).size ≤ 8 := ⟨digs_ext s 4 2 2 (by have := cnt_sub (s := s) (i := 0) 8 4 2 (by omega); simp only [Nat.zero_add] at this; omega), by rw [ByteArray.size_extract]; omega⟩
  have n4 := fun W => number47_any W (s.extract 4 6) D4.1 D4.2
  rw [show val (s.extract 4 6).data.toList = nv s 4 2 from rfl] at n4
  have D6 : Digs (s.extract 6 8) ∧ (s.extract 6 8).size ≤ 8 := ⟨digs_ext s 6 2 2 (by have := cnt_sub (s := s) (i := 0) 8 6 2 (by omega); simp only [Nat.zero_add] at this; omega), by rw [ByteArray.size_extract]; omega⟩
  have n6 := fun W => number47_any W (s.extract 6 8) D6.1 D6.2
  rw [show val (s.extract 6 8).data.toList = nv s 6 2 from rfl] at n6
  generalize nv s 0 4 = Y at *
  generalize nv s 4 2 = M at *
  generalize nv s 6 2 = D at *
  have c35 := fun W => dayNo_any W (Y : Int) (M : Int) (D : Int)
  have hUU := uf_is (Y : Int) (M : Int) (D : Int)
  have HO : Hid _ := hO
  clear hO
  clear D0
  clear D4
  clear D6
  clear hn h4 hsg
  have hbe : decide ((8 : Int) < (s.size : Int)) = false := by simp; omega
  have hlI : (8 : Int) ≤ (s.size : Int) := by omega
  have hlI4 : (4 : Int) ≤ (s.size : Int) := by omega
  have hlI6 : (6 : Int) ≤ (s.size : Int) := by omega
  have HSZ : Hid _ := hsz
  clear hsz
  obtain ⟨q, hq⟩ : ∃ q, w.heap.size = q := ⟨_, rfl⟩
  obtain ⟨W2, hW2⟩ : ∃ W2, (w.alloc (.cells #[.int .i64 0, .int .i64 0, .int .i64 0, .int .i64 0, .int .i64 0, .int .i64 0, .int .i64 0, .int .i64 0, .int .i64 0, .bool false, .int .i64 0] 130)).alloc (.cells #[.slice none 0 0, .int .i64 0] 35) = W2 := ⟨_, rfl⟩
  have HM : Hid (MN w W2 130 11 zm0) := by show MN w W2 130 11 zm0; rw [← hW2]; exact MN.start w _ 130
  have hl2 : w.heap.size + 2 ≤ W2.heap.size := by rw [← hW2]; simp
  have HW2 : Hid _ := hW2
  clear hW2
  go_enter Tryz.func86, Tryz.ntmps86
  go_wp2
  go_loopg [4, 5] s.size (fun g s4 s5 wx => ∃ i : Nat, s4 = .int .i64 (s.size : Int) ∧ s5 = .int .i64 (i : Int) ∧ g + i = s.size ∧ W2 = wx)
  case atStart => exact ⟨0, rfl, rfl, by omega, HW2.out.symm⟩
  case round =>
    obtain ⟨i, rfl, rfl, hg, rfl⟩ := hrel
    by_cases hi : i < s.size
    · have hno := HSG.out i hi
      have hil : i < s.size := by omega
      have hiI : decide ((i : Int) < (s.size : Int)) = true := by simp; omega
      have hiI2 : (i : Int) < (s.size : Int) := by omega
      rw [← get_get! s i hil] at hno
      obtain ⟨c, hc⟩ : ∃ c, s[i].toNat = c := ⟨_, rfl⟩
      rw [hc] at hno
      have h43 : ((c : Int) == 43) = false := by simp; omega
      have h45 : ((c : Int) == 45) = false := by simp; omega
      clear c31 c35 n0 n4 n6
      go_wp2
      go_roundg (s.size - (i + 1))
      case measure => omega
      case rel => exact ⟨i + 1, rfl, by first | rfl | simp, by omega, rfl⟩
    · obtain rfl : i = s.size := by omega
      obtain ⟨B, hBB⟩ : ∃ B, W2.heap.size = B := ⟨_, rfl⟩
      obtain ⟨W3, hW3⟩ : ∃ W3, W2.alloc (.cells #[.int .i64 1, .int .i64 1, .int .i64 1, .int .i64 0, .int .i64 0, .int .i64 0, .int .i64 0, .int .i64 0, .int .i64 0, .bool false, .int .i64 0] 130) = W3 := ⟨_, rfl⟩
      have P3 : Hid (PM w W3 B m1) := by show PM _ _ _ _; rw [← hW3, ← hBB]; exact PM.start HM.out hl2
      have HW3 : Hid _ := hW3
      clear hW3
      go_wp2_with (go_at_call 56; refine Stop.mk ?_)
      rw [HW3.out]
      refine Stop.out ((c31 _).mono ?_)
      rintro e W4 ⟨rfl, rfl⟩
      clear c31 HW3 HW2 HM hl2
      have b0 : W3.cell? ⟨B, 0, none⟩ = some (.int .i64 1) := P3.out.row.cell (i := 0) (by omega)
      have b1 : W3.cell? ⟨B, 1, none⟩ = some (.int .i64 1) := P3.out.row.cell (i := 1) (by omega)
      have b2 : W3.cell? ⟨B, 2, none⟩ = some (.int .i64 1) := P3.out.row.cell (i := 2) (by omega)
      have b3 : W3.cell? ⟨B, 3, none⟩ = some (.int .i64 0) := P3.out.row.cell (i := 3) (by omega)
      have b4 : W3.cell? ⟨B, 4, none⟩ = some (.int .i64 0) := P3.out.row.cell (i := 4) (by omega)
      have b5 : W3.cell? ⟨B, 5, none⟩ = some (.int .i64 0) := P3.out.row.cell (i := 5) (by omega)
      have b6 : W3.cell? ⟨B, 6, none⟩ = some (.int .i64 0) := P3.out.row.cell (i := 6) (by omega)
      have b7 : W3.cell? ⟨B, 7, none⟩ = some (.int .i64 0) := P3.out.row.cell (i := 7) (by omega)
      have b8 : W3.cell? ⟨B, 8, none⟩ = some (.int .i64 0) := P3.out.row.cell (i := 8) (by omega)
      have b9 : W3.cell? ⟨B, 9, none⟩ = some (.bool false) := P3.out.row.cell (i := 9) (by omega)
      have b10 : W3.cell? ⟨B, 10, none⟩ = some (.int .i64 0) := P3.out.row.cell (i := 10) (by omega)
      have bf := fun i => P3.out.row.frozen i
      go_wp2_with (go_at_call 57; refine Stop.mk ?_)
      refine Stop.out ((n0 _).mono ?_)
      rintro e W4 ⟨rfl, rfl⟩
      clear n0
      go_wp2_with (go_at_call 57; refine Stop.mk ?_)
      refine Stop.out ((n4 _).mono ?_)
      rintro e W4 ⟨rfl, rfl⟩
      clear n4
      go_wp2_with (go_at_call 57; refine Stop.mk ?_)
      refine Stop.out ((n6 _).mono ?_)
      rintro e W4 ⟨rfl, rfl⟩
      clear n6
      have P5 := ((((P3.out.set 3 (.int .i64 3)).set 0 (.int .i64 (Y : Int))).set 1 (.int .i64 (M : Int))).set 2 (.int .i64 (D : Int)))
      obtain ⟨W5, hW5⟩ : ∃ W5, ((((W3.setCell ⟨B, 3, none⟩ (.int .i64 3)).setCell ⟨B, 0, none⟩ (.int .i64 (Y : Int))).setCell ⟨B, 1, none⟩ (.int .i64 (M : Int))).setCell ⟨B, 2, none⟩ (.int .i64 (D : Int))) = W5 := ⟨_, rfl⟩
      rw [hW5] at P5
      have HW5 : Hid _ := hW5
      clear hW5
      go_wp2_with (go_at_call 112; refine Stop.mk ?_)
      rw [HW5.out]
      refine Stop.out ((c35 _).mono ?_)
      rintro e W6 ⟨rfl, hb6⟩
      have P6 : Hid _ := P5.on hb6
      clear c35 hb6 P5 HW5 b0 b1 b2 b3 b4 b5 b6 b7 b8 b9 b10 bf
      have b0 : W6.cell? ⟨B, 0, none⟩ = some (.int .i64 (Y : Int)) := P6.out.row.cell (i := 0) (by omega)
      have b1 : W6.cell? ⟨B, 1, none⟩ = some (.int .i64 (M : Int)) := P6.out.row.cell (i := 1) (by omega)
      have b2 : W6.cell? ⟨B, 2, none⟩ = some (.int .i64 (D : Int)) := P6.out.row.cell (i := 2) (by omega)
      have b3 : W6.cell? ⟨B, 3, none⟩ = some (.int .i64 3) := P6.out.row.cell (i := 3) (by omega)
      have b4 : W6.cell? ⟨B, 4, none⟩ = some (.int .i64 0) := P6.out.row.cell (i := 4) (by omega)
      have b5 : W6.cell? ⟨B, 5, none⟩ = some (.int .i64 0) := P6.out.row.cell (i := 5) (by omega)
      have b6 : W6.cell? ⟨B, 6, none⟩ = some (.int .i64 0) := P6.out.row.cell (i := 6) (by omega)
      have b7 : W6.cell? ⟨B, 7, none⟩ = some (.int .i64 0) := P6.out.row.cell (i := 7) (by omega)
      have b8 : W6.cell? ⟨B, 8, none⟩ = some (.int .i64 0) := P6.out.row.cell (i := 8) (by omega)
      have b9 : W6.cell? ⟨B, 9, none⟩ = some (.bool false) := P6.out.row.cell (i := 9) (by omega)
      have b10 : W6.cell? ⟨B, 10, none⟩ = some (.int .i64 0) := P6.out.row.cell (i := 10) (by omega)
      have bf := fun i => P6.out.row.frozen i
      obtain ⟨U, hU⟩ : ∃ U, uf (Y : Int) (M : Int) (D : Int) = U := ⟨_, rfl⟩
      rw [hU] at hUU ⊢
      rcases HO.out with ⟨hu, rfl, rfl⟩ | ⟨hu, rfl, rfl⟩
      · have hu' : uf (Y : Int) (M : Int) (D : Int) ≠ -1 := hu
        rw [hU] at hu'
        rcases (show U = 0 ∨ U = 1 ∨ U = 2 by omega) with rfl | rfl | rfl
        · have hpl : pl (uf (Y : Int) (M : Int) (D : Int)) = 0 := by rw [hU]; rfl
          obtain ⟨W7, hW7⟩ : ∃ W7, W6.alloc (.cells #[.int .i64 0, .int .i64 4, .int .i64 6] 3) = W7 := ⟨_, rfl⟩
          have P7 : Hid _ := P6.out.on ((Below.refl _ W6).alloc (Nat.le_refl _) (.cells #[.int .i64 0, .int .i64 4, .int .i64 6] 3))
          rw [hW7] at P7
          have HW7 : Hid _ := hW7
          have HPL : Hid (pl (uf (Y : Int) (M : Int) (D : Int)) = 0) := hpl
          clear hW7 HO hu hu' hpl
          go_wp2_with (go_at_call 31; refine Stop.mk ?_)
          rw [HW7.out]
          refine Stop.out ((no_any (0) 101 _).mono ?_)
          rintro e W9 ⟨v, rfl, hv, hb9⟩
          have P9 := P7.out.on hb9
          have hR := P9.m.r
          have hE := P9.m.e
          rw [hq] at hR hE
          obtain ⟨r0, r1, r2, r3, r4, r5, r6, r7, r8, r9, r10, s0, s1, rf, sf⟩ := z13 hR hE
          have n1 : Hid (Rne v q) := hv.ne r0 (fun s => by simp)
          have n2 : Hid (Rne v (q + 1)) := hv.ne s0 (fun s => by simp)
          have HV : Hid (RErr W9 v (some (0, 101))) := hv
          have HB9 : Hid (Below q w W9) := by have := P9.m.b; rw [hq] at this; exact this
          obtain ⟨g, k, rfl, _, _⟩ := hv
          clear hb9 P9 hR hE
          go_wp2
          refine bodyPost_ret (v := .tuple #[mo11 zeroS, .agg #[.slice (some ⟨g, 0, none⟩) 1 k, .int .i64 101]]) (by simp [results, Tryz.results86, go_sem, mo11, zeroS, r0, r1, r2, r3, r4, r5, r6, r7, r8, r9, r10, s0, s1]) rfl ⟨_, rfl, ?_, ?_⟩
          · rw [HPL.out]
            exact g13 HV.out n1.out n2.out
          · rw [hq]
            exact b13 HB9.out
        · have hpl : pl (uf (Y : Int) (M : Int) (D : Int)) = 4 := by rw [hU]; rfl
          obtain ⟨W7, hW7⟩ : ∃ W7, W6.alloc (.cells #[.int .i64 0, .int .i64 4, .int .i64 6] 3) = W7 := ⟨_, rfl⟩
          have P7 : Hid _ := P6.out.on ((Below.refl _ W6).alloc (Nat.le_refl _) (.cells #[.int .i64 0, .int .i64 4, .int .i64 6] 3))
          rw [hW7] at P7
          have HW7 : Hid _ := hW7
          have HPL : Hid (pl (uf (Y : Int) (M : Int) (D : Int)) = 4) := hpl
          clear hW7 HO hu hu' hpl
          go_wp2_with (go_at_call 31; refine Stop.mk ?_)
          rw [HW7.out]
          refine Stop.out ((no_any (4) 101 _).mono ?_)
          rintro e W9 ⟨v, rfl, hv, hb9⟩
          have P9 := P7.out.on hb9
          have hR := P9.m.r
          have hE := P9.m.e
          rw [hq] at hR hE
          obtain ⟨r0, r1, r2, r3, r4, r5, r6, r7, r8, r9, r10, s0, s1, rf, sf⟩ := z13 hR hE
          have n1 : Hid (Rne v q) := hv.ne r0 (fun s => by simp)
          have n2 : Hid (Rne v (q + 1)) := hv.ne s0 (fun s => by simp)
          have HV : Hid (RErr W9 v (some (4, 101))) := hv
          have HB9 : Hid (Below q w W9) := by have := P9.m.b; rw [hq] at this; exact this
          obtain ⟨g, k, rfl, _, _⟩ := hv
          clear hb9 P9 hR hE
          go_wp2
          refine bodyPost_ret (v := .tuple #[mo11 zeroS, .agg #[.slice (some ⟨g, 0, none⟩) 1 k, .int .i64 101]]) (by simp [results, Tryz.results86, go_sem, mo11, zeroS, r0, r1, r2, r3, r4, r5, r6, r7, r8, r9, r10, s0, s1]) rfl ⟨_, rfl, ?_, ?_⟩
          · rw [HPL.out]
            exact g13 HV.out n1.out n2.out
          · rw [hq]
            exact b13 HB9.out
        · have hpl : pl (uf (Y : Int) (M : Int) (D : Int)) = 6 := by rw [hU]; rfl
          obtain ⟨W7, hW7⟩ : ∃ W7, W6.alloc (.cells #[.int .i64 0, .int .i64 4, .int .i64 6] 3) = W7 := ⟨_, rfl⟩
          have P7 : Hid _ := P6.out.on ((Below.refl _ W6).alloc (Nat.le_refl _) (.cells #[.int .i64 0, .int .i64 4, .int .i64 6] 3))
          rw [hW7] at P7
          have HW7 : Hid _ := hW7
          have HPL : Hid (pl (uf (Y : Int) (M : Int) (D : Int)) = 6) := hpl
          clear hW7 HO hu hu' hpl
          go_wp2_with (go_at_call 31; refine Stop.mk ?_)
          rw [HW7.out]
          refine Stop.out ((no_any (6) 101 _).mono ?_)
          rintro e W9 ⟨v, rfl, hv, hb9⟩
          have P9 := P7.out.on hb9
          have hR := P9.m.r
          have hE := P9.m.e
          rw [hq] at hR hE
          obtain ⟨r0, r1, r2, r3, r4, r5, r6, r7, r8, r9, r10, s0, s1, rf, sf⟩ := z13 hR hE
          have n1 : Hid (Rne v q) := hv.ne r0 (fun s => by simp)
          have n2 : Hid (Rne v (q + 1)) := hv.ne s0 (fun s => by simp)
          have HV : Hid (RErr W9 v (some (6, 101))) := hv
          have HB9 : Hid (Below q w W9) := by have := P9.m.b; rw [hq] at this; exact this
          obtain ⟨g, k, rfl, _, _⟩ := hv
          clear hb9 P9 hR hE
          go_wp2
          refine bodyPost_ret (v := .tuple #[mo11 zeroS, .agg #[.slice (some ⟨g, 0, none⟩) 1 k, .int .i64 101]]) (by simp [results, Tryz.results86, go_sem, mo11, zeroS, r0, r1, r2, r3, r4, r5, r6, r7, r8, r9, r10, s0, s1]) rfl ⟨_, rfl, ?_, ?_⟩
          · rw [HPL.out]
            exact g13 HV.out n1.out n2.out
          · rw [hq]
            exact b13 HB9.out
      · have hu' : uf (Y : Int) (M : Int) (D : Int) = -1 := hu
        rw [hU] at hu'
        subst hu'
        clear HO hu hU
        go_upto_region 40 with fail
        have P8 : Hid _ := P6.out.drew
        have e0 : W6.cell? ⟨B, 0, none⟩ = some (.int .i64 (Y : Int)) := P8.out.row.cell (i := 0) (by omega)
        have e1 : W6.cell? ⟨B, 1, none⟩ = some (.int .i64 (M : Int)) := P8.out.row.cell (i := 1) (by omega)
        have e2 : W6.cell? ⟨B, 2, none⟩ = some (.int .i64 (D : Int)) := P8.out.row.cell (i := 2) (by omega)
        have e3 : W6.cell? ⟨B, 3, none⟩ = some (.int .i64 3) := P8.out.row.cell (i := 3) (by omega)
        have e4 : W6.cell? ⟨B, 4, none⟩ = some (.int .i64 0) := P8.out.row.cell (i := 4) (by omega)
        have e5 : W6.cell? ⟨B, 5, none⟩ = some (.int .i64 0) := P8.out.row.cell (i := 5) (by omega)
        have e6 : W6.cell? ⟨B, 6, none⟩ = some (.int .i64 0) := P8.out.row.cell (i := 6) (by omega)
        have e7 : W6.cell? ⟨B, 7, none⟩ = some (.int .i64 0) := P8.out.row.cell (i := 7) (by omega)
        have e8 : W6.cell? ⟨B, 8, none⟩ = some (.int .i64 0) := P8.out.row.cell (i := 8) (by omega)
        have e9 : W6.cell? ⟨B, 9, none⟩ = some (.bool false) := P8.out.row.cell (i := 9) (by omega)
        have e10 : W6.cell? ⟨B, 10, none⟩ = some (.int .i64 0) := P8.out.row.cell (i := 10) (by omega)
        go_region_with (first | (go_at_call 27; refine (none34_any _).mono ?_; rintro e W10 ⟨rfl, hb10⟩; have P10 := P8.out.on hb10; have g0 : W10.cell? ⟨B, 0, none⟩ = some (.int .i64 (Y : Int)) := P10.row.cell (i := 0) (by omega); have g1 : W10.cell? ⟨B, 1, none⟩ = some (.int .i64 (M : Int)) := P10.row.cell (i := 1) (by omega); have g2 : W10.cell? ⟨B, 2, none⟩ = some (.int .i64 (D : Int)) := P10.row.cell (i := 2) (by omega); have g3 : W10.cell? ⟨B, 3, none⟩ = some (.int .i64 3) := P10.row.cell (i := 3) (by omega); have g4 : W10.cell? ⟨B, 4, none⟩ = some (.int .i64 0) := P10.row.cell (i := 4) (by omega); have g5 : W10.cell? ⟨B, 5, none⟩ = some (.int .i64 0) := P10.row.cell (i := 5) (by omega); have g6 : W10.cell? ⟨B, 6, none⟩ = some (.int .i64 0) := P10.row.cell (i := 6) (by omega); have g7 : W10.cell? ⟨B, 7, none⟩ = some (.int .i64 0) := P10.row.cell (i := 7) (by omega); have g8 : W10.cell? ⟨B, 8, none⟩ = some (.int .i64 0) := P10.row.cell (i := 8) (by omega); have g9 : W10.cell? ⟨B, 9, none⟩ = some (.bool false) := P10.row.cell (i := 9) (by omega); have g10 : W10.cell? ⟨B, 10, none⟩ = some (.int .i64 0) := P10.row.cell (i := 10) (by omega); have hR := P10.m.r; have hE := P10.m.e; rw [hq] at hR hE; have r0 : W10.cell? ⟨q, 0, none⟩ = some (.int .i64 0) := hR.cell (i := 0) (by omega); have r1 : W10.cell? ⟨q, 1, none⟩ = some (.int .i64 0) := hR.cell (i := 1) (by omega); have r2 : W10.cell? ⟨q, 2, none⟩ = some (.int .i64 0) := hR.cell (i := 2) (by omega); have r3 : W10.cell? ⟨q, 3, none⟩ = some (.int .i64 0) := hR.cell (i := 3) (by omega); have r4 : W10.cell? ⟨q, 4, none⟩ = some (.int .i64 0) := hR.cell (i := 4) (by omega); have r5 : W10.cell? ⟨q, 5, none⟩ = some (.int .i64 0) := hR.cell (i := 5) (by omega); have r6 : W10.cell? ⟨q, 6, none⟩ = some (.int .i64 0) := hR.cell (i := 6) (by omega); have r7 : W10.cell? ⟨q, 7, none⟩ = some (.int .i64 0) := hR.cell (i := 7) (by omega); have r8 : W10.cell? ⟨q, 8, none⟩ = some (.int .i64 0) := hR.cell (i := 8) (by omega); have r9 : W10.cell? ⟨q, 9, none⟩ = some (.bool false) := hR.cell (i := 9) (by omega); have r10 : W10.cell? ⟨q, 10, none⟩ = some (.int .i64 0) := hR.cell (i := 10) (by omega); have s0 : W10.cell? ⟨q + 1, 0, none⟩ = some (.slice none 0 0) := hE.cell (i := 0) (by omega); have s1 : W10.cell? ⟨q + 1, 1, none⟩ = some (.int .i64 0) := hE.cell (i := 1) (by omega); have rf := fun i => hR.frozen i; have sf := fun i => hE.frozen i) | fail)
        all_goals
          have hB10 := P10.m.b
          rw [hq] at hB10
          go_wp2
          refine bodyPost_ret (v := .tuple #[.agg #[.int .i64 (Y : Int), .int .i64 (M : Int), .int .i64 (D : Int), .int .i64 3, .int .i64 0, .int .i64 0, .int .i64 0, .int .i64 0, .int .i64 0, .bool false, .int .i64 0], .agg #[.slice none 0 0, .int .i64 0]]) (by simp [results, Tryz.results86, go_sem, r0, r1, r2, r3, r4, r5, r6, r7, r8, r9, r10, s0, s1]) rfl ⟨_, rfl, rfl, ?_⟩
          rw [hq]
          exact b13 hB10
set_option maxRecDepth 100000 in
set_option maxHeartbeats 1000000 in
theorem pm8tu (w : World) (s : ByteArray) (hs : s.size ≤ 140737488351232) (hn : cnt s 0 8 = 8) (h8 : 8 < s.size) (hsg : Sgn s s.size) (h m sc mc p : Nat) (c a : Int) (hc : c = 0 ∨ c = 101) (c42 : ∀ W, Calls Tryz.prog 110 #[.string s, .int .i64 8, .int .i64 (s.size : Int)] W (PostK W (t5 h m sc mc p) c a)) (o : Option (Int × Int)) (MS : Mst) (hO : (uf (nv s 0 4 : Nat) (nv s 4 2 : Nat) (nv s 6 2 : Nat) ≠ -1 ∧ o = some (pl (uf (nv s 0 4 : Nat) (nv s 4 2 : Nat) (nv s 6 2 : Nat)), 101) ∧ MS = zeroS) ∨ (uf (nv s 0 4 : Nat) (nv s 4 2 : Nat) (nv s 6 2 : Nat) = -1 ∧ c ≠ 0 ∧ o = some (a, c) ∧ MS = zeroS) ∨ (uf (nv s 0 4 : Nat) (nv s 4 2 : Nat) (nv s 6 2 : Nat) = -1 ∧ c = 0 ∧ o = none ∧ MS = { a := 0, b := false, o := none, y := nv s 0 4, m := nv s 4 2, d := nv s 6 2, dp := 3, h := h, mi := m, sc := sc, mc := mc, p := p, zd := false, z := 0 })) : Calls Tryz.prog 86 #[.string s] w (PostF w (mo11 MS) o) := by
  have HSG : Hid (∀ k, k < s.size → (s.get! k).toNat ≠ 43 ∧ (s.get! k).toNat ≠ 45) := hsg.no
  have hle := hsg.le
  have h4 : cnt s 0 4 = 4 := by have := cnt_sub (s := s) (i := 0) 8 0 4 (by omega); simp only [Nat.add_zero] at this; exact this
  have c31 := fun W => digits31_any W s 0 8 (by omega) hs (by omega)
  rw [hn] at c31
  have D0 : Digs (s.extract 0 4) ∧ (s.extract 0 4).size ≤ 8 := ⟨digs_ext s 0 4 4 (by have := cnt_sub (s := s) (i := 0) 8 0 4 (by omega); simp only [Nat.zero_add] at this; omega), by rw [ByteArray.size_extract]; omega⟩
  have n0 := fun W => number47_any W (s.extract 0 4) D0.1 D0.2
  rw [show val (s.extract 0 4).data.toList = nv s 0 4 from rfl] at n0
  have D4 : Digs (s.extract 4 6) ∧ (s.extract 4 6).size ≤ 8 := ⟨digs_ext s 4 2 2 (by have := cnt_sub (s := s) (i := 0) 8 4 2 (by omega); simp only [Nat.zero_add] at this; omega), by rw [ByteArray.size_extract]; omega⟩
  have n4 := fun W => number47_any W (s.extract 4 6) D4.1 D4.2
  rw [show val (s.extract 4 6).data.toList = nv s 4 2 from rfl] at n4
  have D6 : Digs (s.extract 6 8) ∧ (s.extract 6 8).size ≤ 8 := ⟨digs_ext s 6 2 2 (by have := cnt_sub (s := s) (i := 0) 8 6 2 (by omega); simp only [Nat.zero_add] at this; omega), by rw [ByteArray.size_extract]; omega⟩
  have n6 := fun W => number47_any W (s.extract 6 8) D6.1 D6.2
  rw [show val (s.extract 6 8).data.toList = nv s 6 2 from rfl] at n6
  generalize nv s 0 4 = Y at *
  generalize nv s 4 2 = M at *
  generalize nv s 6 2 = D at *
  have c35 := fun W => dayNo_any W (Y : Int) (M : Int) (D : Int)
  have hUU := uf_is (Y : Int) (M : Int) (D : Int)
  have HO : Hid _ := hO
  clear hO
  clear D0
  clear D4
  clear D6
  clear hn h4 hsg
  have h8I : decide ((8 : Int) < (s.size : Int)) = true := by simp; omega
  have hlI : (8 : Int) ≤ (s.size : Int) := by omega
  have hlI4 : (4 : Int) ≤ (s.size : Int) := by omega
  have hlI6 : (6 : Int) ≤ (s.size : Int) := by omega
  unfold t5 at c42
  obtain ⟨q, hq⟩ : ∃ q, w.heap.size = q := ⟨_, rfl⟩
  obtain ⟨W2, hW2⟩ : ∃ W2, (w.alloc (.cells #[.int .i64 0, .int .i64 0, .int .i64 0, .int .i64 0, .int .i64 0, .int .i64 0, .int .i64 0, .int .i64 0, .int .i64 0, .bool false, .int .i64 0] 130)).alloc (.cells #[.slice none 0 0, .int .i64 0] 35) = W2 := ⟨_, rfl⟩
  have HM : Hid (MN w W2 130 11 zm0) := by show MN w W2 130 11 zm0; rw [← hW2]; exact MN.start w _ 130
  have hl2 : w.heap.size + 2 ≤ W2.heap.size := by rw [← hW2]; simp
  have HW2 : Hid _ := hW2
  clear hW2
  go_enter Tryz.func86, Tryz.ntmps86
  go_wp2
  go_loopg [4, 5] s.size (fun g s4 s5 wx => ∃ i : Nat, s4 = .int .i64 (s.size : Int) ∧ s5 = .int .i64 (i : Int) ∧ g + i = s.size ∧ W2 = wx)
  case atStart => exact ⟨0, rfl, rfl, by omega, HW2.out.symm⟩
  case round =>
    obtain ⟨i, rfl, rfl, hg, rfl⟩ := hrel
    by_cases hi : i < s.size
    · have hno := HSG.out i hi
      have hil : i < s.size := by omega
      have hiI : decide ((i : Int) < (s.size : Int)) = true := by simp; omega
      have hiI2 : (i : Int) < (s.size : Int) := by omega
      rw [← get_get! s i hil] at hno
      obtain ⟨c, hc⟩ : ∃ c, s[i].toNat = c := ⟨_, rfl⟩
      rw [hc] at hno
      have h43 : ((c : Int) == 43) = false := by simp; omega
      have h45 : ((c : Int) == 45) = false := by simp; omega
      clear c31 c35 n0 n4 n6 c42
      go_wp2
      go_roundg (s.size - (i + 1))
      case measure => omega
      case rel => exact ⟨i + 1, rfl, by first | rfl | simp, by omega, rfl⟩
    · obtain rfl : i = s.size := by omega
      obtain ⟨B, hBB⟩ : ∃ B, W2.heap.size = B := ⟨_, rfl⟩
      obtain ⟨W3, hW3⟩ : ∃ W3, W2.alloc (.cells #[.int .i64 1, .int .i64 1, .int .i64 1, .int .i64 0, .int .i64 0, .int .i64 0, .int .i64 0, .int .i64 0, .int .i64 0, .bool false, .int .i64 0] 130) = W3 := ⟨_, rfl⟩
      have P3 : Hid (PM w W3 B m1) := by show PM _ _ _ _; rw [← hW3, ← hBB]; exact PM.start HM.out hl2
      have HW3 : Hid _ := hW3
      clear hW3
      go_wp2_with (go_at_call 56; refine Stop.mk ?_)
      rw [HW3.out]
      refine Stop.out ((c31 _).mono ?_)
      rintro e W4 ⟨rfl, rfl⟩
      clear c31 HW3 HW2 HM hl2
      go_wp2_with (go_at_call 110; refine Stop.mk ?_)
      refine Stop.out ((c42 _).mono ?_)
      rintro e W4 ⟨rfl, hb4⟩
      have P4 : Hid (PM w W4 B m1) := P3.out.on hb4
      clear c42 hb4 P3
      have b0 : W4.cell? ⟨B, 0, none⟩ = some (.int .i64 1) := P4.out.row.cell (i := 0) (by omega)
      have b1 : W4.cell? ⟨B, 1, none⟩ = some (.int .i64 1) := P4.out.row.cell (i := 1) (by omega)
      have b2 : W4.cell? ⟨B, 2, none⟩ = some (.int .i64 1) := P4.out.row.cell (i := 2) (by omega)
      have b3 : W4.cell? ⟨B, 3, none⟩ = some (.int .i64 0) := P4.out.row.cell (i := 3) (by omega)
      have b4 : W4.cell? ⟨B, 4, none⟩ = some (.int .i64 0) := P4.out.row.cell (i := 4) (by omega)
      have b5 : W4.cell? ⟨B, 5, none⟩ = some (.int .i64 0) := P4.out.row.cell (i := 5) (by omega)
      have b6 : W4.cell? ⟨B, 6, none⟩ = some (.int .i64 0) := P4.out.row.cell (i := 6) (by omega)
      have b7 : W4.cell? ⟨B, 7, none⟩ = some (.int .i64 0) := P4.out.row.cell (i := 7) (by omega)
      have b8 : W4.cell? ⟨B, 8, none⟩ = some (.int .i64 0) := P4.out.row.cell (i := 8) (by omega)
      have b9 : W4.cell? ⟨B, 9, none⟩ = some (.bool false) := P4.out.row.cell (i := 9) (by omega)
      have b10 : W4.cell? ⟨B, 10, none⟩ = some (.int .i64 0) := P4.out.row.cell (i := 10) (by omega)
      have bf := fun i => P4.out.row.frozen i
      have hc1 : (c == 100) = false := by rcases hc with rfl | rfl <;> rfl
      go_wp2_with (go_at_call 57; refine Stop.mk ?_)
      refine Stop.out ((n0 _).mono ?_)
      rintro e W4 ⟨rfl, rfl⟩
      clear n0
      go_wp2_with (go_at_call 57; refine Stop.mk ?_)
      refine Stop.out ((n4 _).mono ?_)
      rintro e W4 ⟨rfl, rfl⟩
      clear n4
      go_wp2_with (go_at_call 57; refine Stop.mk ?_)
      refine Stop.out ((n6 _).mono ?_)
      rintro e W4 ⟨rfl, rfl⟩
      clear n6
      have P5 := (((((((((P4.out.set 4 (.int .i64 (h : Int))).set 5 (.int .i64 (m : Int))).set 6 (.int .i64 (sc : Int))).set 7 (.int .i64 (mc : Int))).set 8 (.int .i64 (p : Int))).set 3 (.int .i64 3)).set 0 (.int .i64 (Y : Int))).set 1 (.int .i64 (M : Int))).set 2 (.int .i64 (D : Int)))
      obtain ⟨W5, hW5⟩ : ∃ W5, (((((((((W4.setCell ⟨B, 4, none⟩ (.int .i64 (h : Int))).setCell ⟨B, 5, none⟩ (.int .i64 (m : Int))).setCell ⟨B, 6, none⟩ (.int .i64 (sc : Int))).setCell ⟨B, 7, none⟩ (.int .i64 (mc : Int))).setCell ⟨B, 8, none⟩ (.int .i64 (p : Int))).setCell ⟨B, 3, none⟩ (.int .i64 3)).setCell ⟨B, 0, none⟩ (.int .i64 (Y : Int))).setCell ⟨B, 1, none⟩ (.int .i64 (M : Int))).setCell ⟨B, 2, none⟩ (.int .i64 (D : Int))) = W5 := ⟨_, rfl⟩
      rw [hW5] at P5
      have HW5 : Hid _ := hW5
      clear hW5
      go_wp2_with (go_at_call 112; refine Stop.mk ?_)
      rw [HW5.out]
      refine Stop.out ((c35 _).mono ?_)
      rintro e W6 ⟨rfl, hb6⟩
      have P6 : Hid _ := P5.on hb6
      clear c35 hb6 P5 HW5 b0 b1 b2 b3 b4 b5 b6 b7 b8 b9 b10 bf
      have b0 : W6.cell? ⟨B, 0, none⟩ = some (.int .i64 (Y : Int)) := P6.out.row.cell (i := 0) (by omega)
      have b1 : W6.cell? ⟨B, 1, none⟩ = some (.int .i64 (M : Int)) := P6.out.row.cell (i := 1) (by omega)
      have b2 : W6.cell? ⟨B, 2, none⟩ = some (.int .i64 (D : Int)) := P6.out.row.cell (i := 2) (by omega)
      have b3 : W6.cell? ⟨B, 3, none⟩ = some (.int .i64 3) := P6.out.row.cell (i := 3) (by omega)
      have b4 : W6.cell? ⟨B, 4, none⟩ = some (.int .i64 (h : Int)) := P6.out.row.cell (i := 4) (by omega)
      have b5 : W6.cell? ⟨B, 5, none⟩ = some (.int .i64 (m : Int)) := P6.out.row.cell (i := 5) (by omega)
      have b6 : W6.cell? ⟨B, 6, none⟩ = some (.int .i64 (sc : Int)) := P6.out.row.cell (i := 6) (by omega)
      have b7 : W6.cell? ⟨B, 7, none⟩ = some (.int .i64 (mc : Int)) := P6.out.row.cell (i := 7) (by omega)
      have b8 : W6.cell? ⟨B, 8, none⟩ = some (.int .i64 (p : Int)) := P6.out.row.cell (i := 8) (by omega)
      have b9 : W6.cell? ⟨B, 9, none⟩ = some (.bool false) := P6.out.row.cell (i := 9) (by omega)
      have b10 : W6.cell? ⟨B, 10, none⟩ = some (.int .i64 0) := P6.out.row.cell (i := 10) (by omega)
      have bf := fun i => P6.out.row.frozen i
      obtain ⟨U, hU⟩ : ∃ U, uf (Y : Int) (M : Int) (D : Int) = U := ⟨_, rfl⟩
      rw [hU] at hUU ⊢
      rcases HO.out with ⟨hu, rfl, rfl⟩ | ⟨hu, hc0, rfl, rfl⟩ | ⟨hu, rfl, rfl, rfl⟩
      · have hu' : uf (Y : Int) (M : Int) (D : Int) ≠ -1 := hu
        rw [hU] at hu'
        rcases (show U = 0 ∨ U = 1 ∨ U = 2 by omega) with rfl | rfl | rfl
        · have hpl : pl (uf (Y : Int) (M : Int) (D : Int)) = 0 := by rw [hU]; rfl
          obtain ⟨W7, hW7⟩ : ∃ W7, W6.alloc (.cells #[.int .i64 0, .int .i64 4, .int .i64 6] 3) = W7 := ⟨_, rfl⟩
          have P7 : Hid _ := P6.out.on ((Below.refl _ W6).alloc (Nat.le_refl _) (.cells #[.int .i64 0, .int .i64 4, .int .i64 6] 3))
          rw [hW7] at P7
          have HW7 : Hid _ := hW7
          have HPL : Hid (pl (uf (Y : Int) (M : Int) (D : Int)) = 0) := hpl
          clear hW7 HO hu hu' hpl
          go_wp2_with (go_at_call 31; refine Stop.mk ?_)
          rw [HW7.out]
          refine Stop.out ((no_any (0) 101 _).mono ?_)
          rintro e W9 ⟨v, rfl, hv, hb9⟩
          have P9 := P7.out.on hb9
          have hR := P9.m.r
          have hE := P9.m.e
          rw [hq] at hR hE
          obtain ⟨r0, r1, r2, r3, r4, r5, r6, r7, r8, r9, r10, s0, s1, rf, sf⟩ := z13 hR hE
          have n1 : Hid (Rne v q) := hv.ne r0 (fun s => by simp)
          have n2 : Hid (Rne v (q + 1)) := hv.ne s0 (fun s => by simp)
          have HV : Hid (RErr W9 v (some (0, 101))) := hv
          have HB9 : Hid (Below q w W9) := by have := P9.m.b; rw [hq] at this; exact this
          obtain ⟨g, k, rfl, _, _⟩ := hv
          clear hb9 P9 hR hE
          go_wp2
          refine bodyPost_ret (v := .tuple #[mo11 zeroS, .agg #[.slice (some ⟨g, 0, none⟩) 1 k, .int .i64 101]]) (by simp [results, Tryz.results86, go_sem, mo11, zeroS, r0, r1, r2, r3, r4, r5, r6, r7, r8, r9, r10, s0, s1]) rfl ⟨_, rfl, ?_, ?_⟩
          · rw [HPL.out]
            exact g13 HV.out n1.out n2.out
          · rw [hq]
            exact b13 HB9.out
        · have hpl : pl (uf (Y : Int) (M : Int) (D : Int)) = 4 := by rw [hU]; rfl
          obtain ⟨W7, hW7⟩ : ∃ W7, W6.alloc (.cells #[.int .i64 0, .int .i64 4, .int .i64 6] 3) = W7 := ⟨_, rfl⟩
          have P7 : Hid _ := P6.out.on ((Below.refl _ W6).alloc (Nat.le_refl _) (.cells #[.int .i64 0, .int .i64 4, .int .i64 6] 3))
          rw [hW7] at P7
          have HW7 : Hid _ := hW7
          have HPL : Hid (pl (uf (Y : Int) (M : Int) (D : Int)) = 4) := hpl
          clear hW7 HO hu hu' hpl
          go_wp2_with (go_at_call 31; refine Stop.mk ?_)
          rw [HW7.out]
          refine Stop.out ((no_any (4) 101 _).mono ?_)
          rintro e W9 ⟨v, rfl, hv, hb9⟩
          have P9 := P7.out.on hb9
          have hR := P9.m.r
          have hE := P9.m.e
          rw [hq] at hR hE
          obtain ⟨r0, r1, r2, r3, r4, r5, r6, r7, r8, r9, r10, s0, s1, rf, sf⟩ := z13 hR hE
          have n1 : Hid (Rne v q) := hv.ne r0 (fun s => by simp)
          have n2 : Hid (Rne v (q + 1)) := hv.ne s0 (fun s => by simp)
          have HV : Hid (RErr W9 v (some (4, 101))) := hv
          have HB9 : Hid (Below q w W9) := by have := P9.m.b; rw [hq] at this; exact this
          obtain ⟨g, k, rfl, _, _⟩ := hv
          clear hb9 P9 hR hE
          go_wp2
          refine bodyPost_ret (v := .tuple #[mo11 zeroS, .agg #[.slice (some ⟨g, 0, none⟩) 1 k, .int .i64 101]]) (by simp [results, Tryz.results86, go_sem, mo11, zeroS, r0, r1, r2, r3, r4, r5, r6, r7, r8, r9, r10, s0, s1]) rfl ⟨_, rfl, ?_, ?_⟩
          · rw [HPL.out]
            exact g13 HV.out n1.out n2.out
          · rw [hq]
            exact b13 HB9.out
        · have hpl : pl (uf (Y : Int) (M : Int) (D : Int)) = 6 := by rw [hU]; rfl
          obtain ⟨W7, hW7⟩ : ∃ W7, W6.alloc (.cells #[.int .i64 0, .int .i64 4, .int .i64 6] 3) = W7 := ⟨_, rfl⟩
          have P7 : Hid _ := P6.out.on ((Below.refl _ W6).alloc (Nat.le_refl _) (.cells #[.int .i64 0, .int .i64 4, .int .i64 6] 3))
          rw [hW7] at P7
          have HW7 : Hid _ := hW7
          have HPL : Hid (pl (uf (Y : Int) (M : Int) (D : Int)) = 6) := hpl
          clear hW7 HO hu hu' hpl
          go_wp2_with (go_at_call 31; refine Stop.mk ?_)
          rw [HW7.out]
          refine Stop.out ((no_any (6) 101 _).mono ?_)
          rintro e W9 ⟨v, rfl, hv, hb9⟩
          have P9 := P7.out.on hb9
          have hR := P9.m.r
          have hE := P9.m.e
          rw [hq] at hR hE
          obtain ⟨r0, r1, r2, r3, r4, r5, r6, r7, r8, r9, r10, s0, s1, rf, sf⟩ := z13 hR hE
          have n1 : Hid (Rne v q) := hv.ne r0 (fun s => by simp)
          have n2 : Hid (Rne v (q + 1)) := hv.ne s0 (fun s => by simp)
          have HV : Hid (RErr W9 v (some (6, 101))) := hv
          have HB9 : Hid (Below q w W9) := by have := P9.m.b; rw [hq] at this; exact this
          obtain ⟨g, k, rfl, _, _⟩ := hv
          clear hb9 P9 hR hE
          go_wp2
          refine bodyPost_ret (v := .tuple #[mo11 zeroS, .agg #[.slice (some ⟨g, 0, none⟩) 1 k, .int .i64 101]]) (by simp [results, Tryz.results86, go_sem, mo11, zeroS, r0, r1, r2, r3, r4, r5, r6, r7, r8, r9, r10, s0, s1]) rfl ⟨_, rfl, ?_, ?_⟩
          · rw [HPL.out]
            exact g13 HV.out n1.out n2.out
          · rw [hq]
            exact b13 HB9.out
      · have hu' : uf (Y : Int) (M : Int) (D : Int) = -1 := hu
        rw [hU] at hu'
        subst hu'
        obtain rfl : c = 101 := hc.resolve_left hc0
        clear HO hu hU hc hc0
        go_wp2_with (go_at_call 31; refine Stop.mk ?_)
        refine Stop.out ((no_any (a) 101 _).mono ?_)
        rintro e W9 ⟨v, rfl, hv, hb9⟩
        have P9 := P6.out.on hb9
        have hR := P9.m.r
        have hE := P9.m.e
        rw [hq] at hR hE
        obtain ⟨r0, r1, r2, r3, r4, r5, r6, r7, r8, r9, r10, s0, s1, rf, sf⟩ := z13 hR hE
        have n1 : Hid (Rne v q) := hv.ne r0 (fun s => by simp)
        have n2 : Hid (Rne v (q + 1)) := hv.ne s0 (fun s => by simp)
        have HV : Hid (RErr W9 v (some (a, 101))) := hv
        have HB9 : Hid (Below q w W9) := by have := P9.m.b; rw [hq] at this; exact this
        obtain ⟨g, k, rfl, _, _⟩ := hv
        clear hb9 P9 hR hE
        go_wp2
        refine bodyPost_ret (v := .tuple #[mo11 zeroS, .agg #[.slice (some ⟨g, 0, none⟩) 1 k, .int .i64 101]]) (by simp [results, Tryz.results86, go_sem, mo11, zeroS, r0, r1, r2, r3, r4, r5, r6, r7, r8, r9, r10, s0, s1]) rfl ⟨_, rfl, ?_, ?_⟩
        · exact g13 HV.out n1.out n2.out
        · rw [hq]
          exact b13 HB9.out
      · have hu' : uf (Y : Int) (M : Int) (D : Int) = -1 := hu
        rw [hU] at hu'
        subst hu'
        clear HO hu hU
        go_upto_region 40 with fail
        have P8 : Hid _ := P6.out.drew
        have e0 : W6.cell? ⟨B, 0, none⟩ = some (.int .i64 (Y : Int)) := P8.out.row.cell (i := 0) (by omega)
        have e1 : W6.cell? ⟨B, 1, none⟩ = some (.int .i64 (M : Int)) := P8.out.row.cell (i := 1) (by omega)
        have e2 : W6.cell? ⟨B, 2, none⟩ = some (.int .i64 (D : Int)) := P8.out.row.cell (i := 2) (by omega)
        have e3 : W6.cell? ⟨B, 3, none⟩ = some (.int .i64 3) := P8.out.row.cell (i := 3) (by omega)
        have e4 : W6.cell? ⟨B, 4, none⟩ = some (.int .i64 (h : Int)) := P8.out.row.cell (i := 4) (by omega)
        have e5 : W6.cell? ⟨B, 5, none⟩ = some (.int .i64 (m : Int)) := P8.out.row.cell (i := 5) (by omega)
        have e6 : W6.cell? ⟨B, 6, none⟩ = some (.int .i64 (sc : Int)) := P8.out.row.cell (i := 6) (by omega)
        have e7 : W6.cell? ⟨B, 7, none⟩ = some (.int .i64 (mc : Int)) := P8.out.row.cell (i := 7) (by omega)
        have e8 : W6.cell? ⟨B, 8, none⟩ = some (.int .i64 (p : Int)) := P8.out.row.cell (i := 8) (by omega)
        have e9 : W6.cell? ⟨B, 9, none⟩ = some (.bool false) := P8.out.row.cell (i := 9) (by omega)
        have e10 : W6.cell? ⟨B, 10, none⟩ = some (.int .i64 0) := P8.out.row.cell (i := 10) (by omega)
        go_region_with (first | (go_at_call 27; refine (none34_any _).mono ?_; rintro e W10 ⟨rfl, hb10⟩; have P10 := P8.out.on hb10; have g0 : W10.cell? ⟨B, 0, none⟩ = some (.int .i64 (Y : Int)) := P10.row.cell (i := 0) (by omega); have g1 : W10.cell? ⟨B, 1, none⟩ = some (.int .i64 (M : Int)) := P10.row.cell (i := 1) (by omega); have g2 : W10.cell? ⟨B, 2, none⟩ = some (.int .i64 (D : Int)) := P10.row.cell (i := 2) (by omega); have g3 : W10.cell? ⟨B, 3, none⟩ = some (.int .i64 3) := P10.row.cell (i := 3) (by omega); have g4 : W10.cell? ⟨B, 4, none⟩ = some (.int .i64 (h : Int)) := P10.row.cell (i := 4) (by omega); have g5 : W10.cell? ⟨B, 5, none⟩ = some (.int .i64 (m : Int)) := P10.row.cell (i := 5) (by omega); have g6 : W10.cell? ⟨B, 6, none⟩ = some (.int .i64 (sc : Int)) := P10.row.cell (i := 6) (by omega); have g7 : W10.cell? ⟨B, 7, none⟩ = some (.int .i64 (mc : Int)) := P10.row.cell (i := 7) (by omega); have g8 : W10.cell? ⟨B, 8, none⟩ = some (.int .i64 (p : Int)) := P10.row.cell (i := 8) (by omega); have g9 : W10.cell? ⟨B, 9, none⟩ = some (.bool false) := P10.row.cell (i := 9) (by omega); have g10 : W10.cell? ⟨B, 10, none⟩ = some (.int .i64 0) := P10.row.cell (i := 10) (by omega); have hR := P10.m.r; have hE := P10.m.e; rw [hq] at hR hE; have r0 : W10.cell? ⟨q, 0, none⟩ = some (.int .i64 0) := hR.cell (i := 0) (by omega); have r1 : W10.cell? ⟨q, 1, none⟩ = some (.int .i64 0) := hR.cell (i := 1) (by omega); have r2 : W10.cell? ⟨q, 2, none⟩ = some (.int .i64 0) := hR.cell (i := 2) (by omega); have r3 : W10.cell? ⟨q, 3, none⟩ = some (.int .i64 0) := hR.cell (i := 3) (by omega); have r4 : W10.cell? ⟨q, 4, none⟩ = some (.int .i64 0) := hR.cell (i := 4) (by omega); have r5 : W10.cell? ⟨q, 5, none⟩ = some (.int .i64 0) := hR.cell (i := 5) (by omega); have r6 : W10.cell? ⟨q, 6, none⟩ = some (.int .i64 0) := hR.cell (i := 6) (by omega); have r7 : W10.cell? ⟨q, 7, none⟩ = some (.int .i64 0) := hR.cell (i := 7) (by omega); have r8 : W10.cell? ⟨q, 8, none⟩ = some (.int .i64 0) := hR.cell (i := 8) (by omega); have r9 : W10.cell? ⟨q, 9, none⟩ = some (.bool false) := hR.cell (i := 9) (by omega); have r10 : W10.cell? ⟨q, 10, none⟩ = some (.int .i64 0) := hR.cell (i := 10) (by omega); have s0 : W10.cell? ⟨q + 1, 0, none⟩ = some (.slice none 0 0) := hE.cell (i := 0) (by omega); have s1 : W10.cell? ⟨q + 1, 1, none⟩ = some (.int .i64 0) := hE.cell (i := 1) (by omega); have rf := fun i => hR.frozen i; have sf := fun i => hE.frozen i) | fail)
        all_goals
          have hB10 := P10.m.b
          rw [hq] at hB10
          go_wp2
          refine bodyPost_ret (v := .tuple #[.agg #[.int .i64 (Y : Int), .int .i64 (M : Int), .int .i64 (D : Int), .int .i64 3, .int .i64 (h : Int), .int .i64 (m : Int), .int .i64 (sc : Int), .int .i64 (mc : Int), .int .i64 (p : Int), .bool false, .int .i64 0], .agg #[.slice none 0 0, .int .i64 0]]) (by simp [results, Tryz.results86, go_sem, r0, r1, r2, r3, r4, r5, r6, r7, r8, r9, r10, s0, s1]) rfl ⟨_, rfl, rfl, ?_⟩
          rw [hq]
          exact b13 hB10
end Go.Proofs.YtehgeninocbpeaaGreatDoor.Tm
