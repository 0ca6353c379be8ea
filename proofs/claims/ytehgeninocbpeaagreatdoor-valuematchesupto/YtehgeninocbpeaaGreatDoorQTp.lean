import Derived.Test.YtehgeninocbpeaaGreatDoorQTs
namespace Go.Proofs.YtehgeninocbpeaaGreatDoor.Tm
open Go Go.Proofs Go.RowKit
set_option maxRecDepth 100000 in
set_option maxHeartbeats 4000000 in
theorem pmF1 (w : World) (s : ByteArray) (hs : s.size ≤ 140737488351232) (e : Nat) (hsg : Sgn s e) (n : Nat) (hn : cnt s 0 8 = n) (hbad : (n ≠ 4 ∧ n ≠ 6 ∧ n ≠ 8) ∨ (n < 8 ∧ n < e)) : Calls Tryz.prog 86 #[.string s] w (PostF w (mo11 zeroS) (some ((n : Int), 100))) := by
  have HSG : Hid (∀ k, k < e → (s.get! k).toNat ≠ 43 ∧ (s.get! k).toNat ≠ 45) := hsg.no
  have hle := hsg.le
  have hE : isD s e = false := by
    unfold isD
    by_cases h : e < s.size
    · have := hsg.yes h
      simp; omega
    · rw [decide_eq_false h, Bool.false_and]
  have hcx := cnt_ext hle hE 8 0 (by omega)
  rw [hn] at hcx
  have hsub : cnt (s.extract 0 e) 0 8 = n ∧ 0 + n ≤ e := hcx
  have hyes : e < s.size → (s.get! e).toNat = 43 ∨ (s.get! e).toNat = 45 := hsg.yes
  have HBD : Hid ((((n : Int) != 4) = true ∧ ((n : Int) != 6) = true ∧ ((n : Int) != 8) = true) ∨ (n = 4 ∧ 4 < e) ∨ (n = 6 ∧ 6 < e)) := by
    show _ ∨ _
    by_cases h4 : n = 4
    · exact .inr (.inl ⟨h4, by omega⟩)
    · by_cases h6 : n = 6
      · exact .inr (.inr ⟨h6, by omega⟩)
      · exact .inl ⟨by simp; omega, by simp; omega, by simp; omega⟩
  have HY : Hid (e < s.size → (s.get! e).toNat = 43 ∨ (s.get! e).toNat = 45) := hyes
  have c31 := fun W => digits31_any W (s.extract 0 e) 0 8 (by omega) (by rw [ByteArray.size_extract]; omega) (by omega)
  rw [hsub.1] at c31
  have c31s := fun W => digits31_any W s 0 8 (by omega) hs (by omega)
  rw [hn] at c31s
  have hn8 : n ≤ 8 := by rw [← hn]; exact cnt_le s 8 0
  have HNE : Hid (n ≤ e) := by have := hsub.2; show n ≤ e; omega
  clear hyes hbad hcx hsub hn hE hsg
  obtain ⟨q, hq⟩ : ∃ q, w.heap.size = q := ⟨_, rfl⟩
  obtain ⟨W2, hW2⟩ : ∃ W2, (w.alloc (.cells #[.int .i64 0, .int .i64 0, .int .i64 0, .int .i64 0, .int .i64 0, .int .i64 0, .int .i64 0, .int .i64 0, .int .i64 0, .bool false, .int .i64 0] 130)).alloc (.cells #[.slice none 0 0, .int .i64 0] 35) = W2 := ⟨_, rfl⟩
  have HM : Hid (MN w W2 130 11 zm0) := by show MN w W2 130 11 zm0; rw [← hW2]; exact MN.start w _ 130
  have hl2 : w.heap.size + 2 ≤ W2.heap.size := by rw [← hW2]; simp
  have HW2 : Hid _ := hW2
  clear hW2
  go_enter Tryz.func86, Tryz.ntmps86
  go_wp2
  go_loopg [4, 5] e (fun g s4 s5 wx => ∃ i : Nat, s4 = .int .i64 (s.size : Int) ∧ s5 = .int .i64 (i : Int) ∧ g + i = e ∧ W2 = wx)
  case atStart => exact ⟨0, rfl, rfl, by omega, HW2.out.symm⟩
  case round =>
    obtain ⟨i, rfl, rfl, hg, rfl⟩ := hrel
    by_cases hi : i < e
    · have hno := HSG.out i hi
      have hil : i < s.size := by omega
      have hiI : decide ((i : Int) < (s.size : Int)) = true := by simp; omega
      have hiI2 : (i : Int) < (s.size : Int) := by omega
      rw [← get_get! s i hil] at hno
      obtain ⟨c, hc⟩ : ∃ c, s[i].toNat = c := ⟨_, rfl⟩
      rw [hc] at hno
      have h43 : ((c : Int) == 43) = false := by simp; omega
      have h45 : ((c : Int) == 45) = false := by simp; omega
      clear c31 c31s
      go_wp2
      go_roundg (e - (i + 1))
      case measure => omega
      case rel => exact ⟨i + 1, rfl, by first | rfl | simp, by omega, rfl⟩
    · obtain rfl : i = e := by omega
      by_cases hlt : i < s.size
      · have hx := HY.out hlt
        have hiI : decide ((i : Int) < (s.size : Int)) = true := by simp; omega
        have hiI2 : (i : Int) < (s.size : Int) := by omega
        rw [← get_get! s i hlt] at hx
        obtain ⟨c, hc⟩ : ∃ c, s[i].toNat = c := ⟨_, rfl⟩
        rw [hc] at hx
        rcases hx with rfl | rfl
        all_goals
          obtain ⟨B, hBB⟩ : ∃ B, W2.heap.size = B := ⟨_, rfl⟩
          obtain ⟨W3, hW3⟩ : ∃ W3, W2.alloc (.cells #[.int .i64 1, .int .i64 1, .int .i64 1, .int .i64 0, .int .i64 0, .int .i64 0, .int .i64 0, .int .i64 0, .int .i64 0, .bool false, .int .i64 0] 130) = W3 := ⟨_, rfl⟩
          have P3 : Hid (PM w W3 B m1) := by show PM _ _ _ _; rw [← hW3, ← hBB]; exact PM.start HM.out hl2
          have HW3 : Hid _ := hW3
          clear hW3
          have heI : (i : Int) ≤ (s.size : Int) := by omega
          go_wp2_with (go_at_call 56; refine Stop.mk ?_)
          rw [HW3.out]
          refine Stop.out ((c31 _).mono ?_)
          rintro e W4 ⟨rfl, rfl⟩
          clear c31 c31s HW3
          rcases HBD.out with ⟨b4, b6, b8⟩ | ⟨rfl, be⟩ | ⟨rfl, be⟩
          · go_wp2_with (go_at_call 31; refine Stop.mk ?_)
            refine Stop.out ((no_any ((n : Int)) 100 _).mono ?_)
            rintro e W9 ⟨v, rfl, hv, hb9⟩
            have P9 := P3.out.on hb9
            have hR := P9.m.r
            have hE := P9.m.e
            rw [hq] at hR hE
            obtain ⟨r0, r1, r2, r3, r4, r5, r6, r7, r8, r9, r10, s0, s1, rf, sf⟩ := z13 hR hE
            have n1 : Hid (Rne v q) := hv.ne r0 (fun s => by simp)
            have n2 : Hid (Rne v (q + 1)) := hv.ne s0 (fun s => by simp)
            have HV : Hid (RErr W9 v (some ((n : Int), 100))) := hv
            have HB9 : Hid (Below q w W9) := by have := P9.m.b; rw [hq] at this; exact this
            obtain ⟨g, k, rfl, _, _⟩ := hv
            clear hb9 P9 hR hE
            go_wp2
            refine bodyPost_ret (v := .tuple #[mo11 zeroS, .agg #[.slice (some ⟨g, 0, none⟩) 1 k, .int .i64 100]]) (by simp [results, Tryz.results86, go_sem, mo11, zeroS, r0, r1, r2, r3, r4, r5, r6, r7, r8, r9, r10, s0, s1]) rfl ⟨_, rfl, ?_, ?_⟩
            · exact g13 HV.out n1.out n2.out
            · rw [hq]
              exact b13 HB9.out
          · have hbe : decide ((4 : Int) < (i : Int)) = true := by simp; omega
            go_wp2_with (go_at_call 31; refine Stop.mk ?_)
            refine Stop.out ((no_any (4) 100 _).mono ?_)
            rintro e W9 ⟨v, rfl, hv, hb9⟩
            have P9 := P3.out.on hb9
            have hR := P9.m.r
            have hE := P9.m.e
            rw [hq] at hR hE
            obtain ⟨r0, r1, r2, r3, r4, r5, r6, r7, r8, r9, r10, s0, s1, rf, sf⟩ := z13 hR hE
            have n1 : Hid (Rne v q) := hv.ne r0 (fun s => by simp)
            have n2 : Hid (Rne v (q + 1)) := hv.ne s0 (fun s => by simp)
            have HV : Hid (RErr W9 v (some (4, 100))) := hv
            have HB9 : Hid (Below q w W9) := by have := P9.m.b; rw [hq] at this; exact this
            obtain ⟨g, k, rfl, _, _⟩ := hv
            clear hb9 P9 hR hE
            go_wp2
            refine bodyPost_ret (v := .tuple #[mo11 zeroS, .agg #[.slice (some ⟨g, 0, none⟩) 1 k, .int .i64 100]]) (by simp [results, Tryz.results86, go_sem, mo11, zeroS, r0, r1, r2, r3, r4, r5, r6, r7, r8, r9, r10, s0, s1]) rfl ⟨_, rfl, ?_, ?_⟩
            · exact g13 HV.out n1.out n2.out
            · rw [hq]
              exact b13 HB9.out
          · have hbe : decide ((6 : Int) < (i : Int)) = true := by simp; omega
            go_wp2_with (go_at_call 31; refine Stop.mk ?_)
            refine Stop.out ((no_any (6) 100 _).mono ?_)
            rintro e W9 ⟨v, rfl, hv, hb9⟩
            have P9 := P3.out.on hb9
            have hR := P9.m.r
            have hE := P9.m.e
            rw [hq] at hR hE
            obtain ⟨r0, r1, r2, r3, r4, r5, r6, r7, r8, r9, r10, s0, s1, rf, sf⟩ := z13 hR hE
            have n1 : Hid (Rne v q) := hv.ne r0 (fun s => by simp)
            have n2 : Hid (Rne v (q + 1)) := hv.ne s0 (fun s => by simp)
            have HV : Hid (RErr W9 v (some (6, 100))) := hv
            have HB9 : Hid (Below q w W9) := by have := P9.m.b; rw [hq] at this; exact this
            obtain ⟨g, k, rfl, _, _⟩ := hv
            clear hb9 P9 hR hE
            go_wp2
            refine bodyPost_ret (v := .tuple #[mo11 zeroS, .agg #[.slice (some ⟨g, 0, none⟩) 1 k, .int .i64 100]]) (by simp [results, Tryz.results86, go_sem, mo11, zeroS, r0, r1, r2, r3, r4, r5, r6, r7, r8, r9, r10, s0, s1]) rfl ⟨_, rfl, ?_, ?_⟩
            · exact g13 HV.out n1.out n2.out
            · rw [hq]
              exact b13 HB9.out
      · obtain rfl : i = s.size := by omega
        obtain ⟨B, hBB⟩ : ∃ B, W2.heap.size = B := ⟨_, rfl⟩
        obtain ⟨W3, hW3⟩ : ∃ W3, W2.alloc (.cells #[.int .i64 1, .int .i64 1, .int .i64 1, .int .i64 0, .int .i64 0, .int .i64 0, .int .i64 0, .int .i64 0, .int .i64 0, .bool false, .int .i64 0] 130) = W3 := ⟨_, rfl⟩
        have P3 : Hid (PM w W3 B m1) := by show PM _ _ _ _; rw [← hW3, ← hBB]; exact PM.start HM.out hl2
        have HW3 : Hid _ := hW3
        clear hW3
        go_wp2_with (go_at_call 56; refine Stop.mk ?_)
        rw [HW3.out]
        refine Stop.out ((c31s _).mono ?_)
        rintro e W4 ⟨rfl, rfl⟩
        clear c31 c31s HW3
        rcases HBD.out with ⟨b4, b6, b8⟩ | ⟨rfl, be⟩ | ⟨rfl, be⟩
        · go_wp2_with (go_at_call 31; refine Stop.mk ?_)
          refine Stop.out ((no_any ((n : Int)) 100 _).mono ?_)
          rintro e W9 ⟨v, rfl, hv, hb9⟩
          have P9 := P3.out.on hb9
          have hR := P9.m.r
          have hE := P9.m.e
          rw [hq] at hR hE
          obtain ⟨r0, r1, r2, r3, r4, r5, r6, r7, r8, r9, r10, s0, s1, rf, sf⟩ := z13 hR hE
          have n1 : Hid (Rne v q) := hv.ne r0 (fun s => by simp)
          have n2 : Hid (Rne v (q + 1)) := hv.ne s0 (fun s => by simp)
          have HV : Hid (RErr W9 v (some ((n : Int), 100))) := hv
          have HB9 : Hid (Below q w W9) := by have := P9.m.b; rw [hq] at this; exact this
          obtain ⟨g, k, rfl, _, _⟩ := hv
          clear hb9 P9 hR hE
          go_wp2
          refine bodyPost_ret (v := .tuple #[mo11 zeroS, .agg #[.slice (some ⟨g, 0, none⟩) 1 k, .int .i64 100]]) (by simp [results, Tryz.results86, go_sem, mo11, zeroS, r0, r1, r2, r3, r4, r5, r6, r7, r8, r9, r10, s0, s1]) rfl ⟨_, rfl, ?_, ?_⟩
          · exact g13 HV.out n1.out n2.out
          · rw [hq]
            exact b13 HB9.out
        · have hbe : decide ((4 : Int) < (s.size : Int)) = true := by simp; omega
          go_wp2_with (go_at_call 31; refine Stop.mk ?_)
          refine Stop.out ((no_any (4) 100 _).mono ?_)
          rintro e W9 ⟨v, rfl, hv, hb9⟩
          have P9 := P3.out.on hb9
          have hR := P9.m.r
          have hE := P9.m.e
          rw [hq] at hR hE
          obtain ⟨r0, r1, r2, r3, r4, r5, r6, r7, r8, r9, r10, s0, s1, rf, sf⟩ := z13 hR hE
          have n1 : Hid (Rne v q) := hv.ne r0 (fun s => by simp)
          have n2 : Hid (Rne v (q + 1)) := hv.ne s0 (fun s => by simp)
          have HV : Hid (RErr W9 v (some (4, 100))) := hv
          have HB9 : Hid (Below q w W9) := by have := P9.m.b; rw [hq] at this; exact this
          obtain ⟨g, k, rfl, _, _⟩ := hv
          clear hb9 P9 hR hE
          go_wp2
          refine bodyPost_ret (v := .tuple #[mo11 zeroS, .agg #[.slice (some ⟨g, 0, none⟩) 1 k, .int .i64 100]]) (by simp [results, Tryz.results86, go_sem, mo11, zeroS, r0, r1, r2, r3, r4, r5, r6, r7, r8, r9, r10, s0, s1]) rfl ⟨_, rfl, ?_, ?_⟩
          · exact g13 HV.out n1.out n2.out
          · rw [hq]
            exact b13 HB9.out
        · have hbe : decide ((6 : Int) < (s.size : Int)) = true := by simp; omega
          go_wp2_with (go_at_call 31; refine Stop.mk ?_)
          refine Stop.out ((no_any (6) 100 _).mono ?_)
          rintro e W9 ⟨v, rfl, hv, hb9⟩
          have P9 := P3.out.on hb9
          have hR := P9.m.r
          have hE := P9.m.e
          rw [hq] at hR hE
          obtain ⟨r0, r1, r2, r3, r4, r5, r6, r7, r8, r9, r10, s0, s1, rf, sf⟩ := z13 hR hE
          have n1 : Hid (Rne v q) := hv.ne r0 (fun s => by simp)
          have n2 : Hid (Rne v (q + 1)) := hv.ne s0 (fun s => by simp)
          have HV : Hid (RErr W9 v (some (6, 100))) := hv
          have HB9 : Hid (Below q w W9) := by have := P9.m.b; rw [hq] at this; exact this
          obtain ⟨g, k, rfl, _, _⟩ := hv
          clear hb9 P9 hR hE
          go_wp2
          refine bodyPost_ret (v := .tuple #[mo11 zeroS, .agg #[.slice (some ⟨g, 0, none⟩) 1 k, .int .i64 100]]) (by simp [results, Tryz.results86, go_sem, mo11, zeroS, r0, r1, r2, r3, r4, r5, r6, r7, r8, r9, r10, s0, s1]) rfl ⟨_, rfl, ?_, ?_⟩
          · exact g13 HV.out n1.out n2.out
          · rw [hq]
            exact b13 HB9.out
end Go.Proofs.YtehgeninocbpeaaGreatDoor.Tm
