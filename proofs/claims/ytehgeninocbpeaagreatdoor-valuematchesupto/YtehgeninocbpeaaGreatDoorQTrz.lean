import Derived.Test.YtehgeninocbpeaaGreatDoorQTs
namespace Go.Proofs.YtehgeninocbpeaaGreatDoor.Tm
open Go Go.Proofs Go.RowKit
set_option maxRecDepth 100000 in
set_option maxHeartbeats 1000000 in
theorem pmZ4 (w : World) (s : ByteArray) (hs : s.size ≤ 140737488351232) (hn : cnt s 0 8 = 4) (hsg : Sgn s 4) (x : Nat) (hx : (s.get! 4).toNat = x) (hx2 : x = 43 ∨ x = 45) (k : Nat) (hk : cnt s (4 + 1) 4 = k) (hlt : 4 < s.size) (hbad : k < 4 ∨ 4 + 5 < s.size) : Calls Tryz.prog 86 #[.string s] w (PostF w (mo11 zeroS) (some (((4 + 1 + k : Nat) : Int), 100))) := by
  have HSG : Hid (∀ k, k < 4 → (s.get! k).toNat ≠ 43 ∧ (s.get! k).toNat ≠ 45) := hsg.no
  have hle := hsg.le
  have hE : isD s 4 = false := by
    unfold isD
    rw [hx]
    simp; omega
  have hcx := cnt_ext hle hE 8 0 (by omega)
  rw [hn] at hcx
  have c31 := fun W => digits31_any W (s.extract 0 4) 0 8 (by omega) (by rw [ByteArray.size_extract]; omega) (by omega)
  rw [hcx.1] at c31
  have c31z := fun W => digits31_any W s (4 + 1) 4 (by omega) hs (by omega)
  rw [hk] at c31z
  have hk4 : k ≤ 4 := by rw [← hk]; exact cnt_le s 4 _
  rw [show ((4 + 1 + k : Nat) : Int) = 5 + (k : Int) by omega]
  have hiI : decide (4 < (s.size : Int)) = true := by simp; omega
  have hiI2 : 4 < (s.size : Int) := by omega
  have hx0 : s[4].toNat = x := by rw [get_get! s 4 hlt]; exact hx
  have hcs : Hid (decide ((k : Int) < 4) = true ∨ (k = 4 ∧ decide (9 < (s.size : Int)) = true)) := by
    show _ ∨ _
    by_cases h : k < 4
    · exact .inl (by simp; omega)
    · exact .inr ⟨by omega, by simp; omega⟩
  have hlI : (4 : Int) ≤ (s.size : Int) := by omega
  clear hcx hk hn hE hsg hx hbad
  obtain ⟨q, hq⟩ : ∃ q, w.heap.size = q := ⟨_, rfl⟩
  obtain ⟨W2, hW2⟩ : ∃ W2, (w.alloc (.cells #[.int .i64 0, .int .i64 0, .int .i64 0, .int .i64 0, .int .i64 0, .int .i64 0, .int .i64 0, .int .i64 0, .int .i64 0, .bool false, .int .i64 0] 130)).alloc (.cells #[.slice none 0 0, .int .i64 0] 35) = W2 := ⟨_, rfl⟩
  have HM : Hid (MN w W2 130 11 zm0) := by show MN w W2 130 11 zm0; rw [← hW2]; exact MN.start w _ 130
  have hl2 : w.heap.size + 2 ≤ W2.heap.size := by rw [← hW2]; simp
  have HW2 : Hid _ := hW2
  clear hW2
  go_enter Tryz.func86, Tryz.ntmps86
  go_wp2
  go_loopg [4, 5] 4 (fun g s4 s5 wx => ∃ i : Nat, s4 = .int .i64 (s.size : Int) ∧ s5 = .int .i64 (i : Int) ∧ g + i = 4 ∧ W2 = wx)
  case atStart => exact ⟨0, rfl, rfl, by omega, HW2.out.symm⟩
  case round =>
    obtain ⟨i, rfl, rfl, hg, rfl⟩ := hrel
    by_cases hi : i < 4
    · have hno := HSG.out i hi
      have hil : i < s.size := by omega
      have hiI : decide ((i : Int) < (s.size : Int)) = true := by simp; omega
      have hiI2 : (i : Int) < (s.size : Int) := by omega
      rw [← get_get! s i hil] at hno
      obtain ⟨c, hc⟩ : ∃ c, s[i].toNat = c := ⟨_, rfl⟩
      rw [hc] at hno
      have h43 : ((c : Int) == 43) = false := by simp; omega
      have h45 : ((c : Int) == 45) = false := by simp; omega
      clear c31 c31z
      go_wp2
      go_roundg (4 - (i + 1))
      case measure => omega
      case rel => exact ⟨i + 1, rfl, by first | rfl | simp, by omega, rfl⟩
    · obtain rfl : i = 4 := by omega
      rcases hx2 with rfl | rfl
      all_goals
        obtain ⟨B, hBB⟩ : ∃ B, W2.heap.size = B := ⟨_, rfl⟩
        obtain ⟨W3, hW3⟩ : ∃ W3, W2.alloc (.cells #[.int .i64 1, .int .i64 1, .int .i64 1, .int .i64 0, .int .i64 0, .int .i64 0, .int .i64 0, .int .i64 0, .int .i64 0, .bool false, .int .i64 0] 130) = W3 := ⟨_, rfl⟩
        have P3 : Hid (PM w W3 B m1) := by show PM _ _ _ _; rw [← hW3, ← hBB]; exact PM.start HM.out hl2
        have HW3 : Hid _ := hW3
        clear hW3
        go_wp2_with (go_at_call 56; refine Stop.mk ?_)
        rw [HW3.out]
        refine Stop.out ((c31 _).mono ?_)
        rintro e W4 ⟨rfl, rfl⟩
        clear c31 HW3 HW2 HM hl2
        go_wp2_with (go_at_call 56; refine Stop.mk ?_)
        refine Stop.out ((c31z _).mono ?_)
        rintro e W4 ⟨rfl, rfl⟩
        clear c31z
        rcases hcs.out with hcs1 | ⟨rfl, hcs1⟩
        all_goals
          go_wp2_with (go_at_call 31; refine Stop.mk ?_)
          refine Stop.out ((no_any (_) 100 _).mono ?_)
          rintro e W9 ⟨v, rfl, hv, hb9⟩
          have P9 := P3.out.on hb9
          have hR := P9.m.r
          have hE := P9.m.e
          rw [hq] at hR hE
          obtain ⟨r0, r1, r2, r3, r4, r5, r6, r7, r8, r9, r10, s0, s1, rf, sf⟩ := z13 hR hE
          have n1 : Hid (Rne v q) := hv.ne r0 (fun s => by simp)
          have n2 : Hid (Rne v (q + 1)) := hv.ne s0 (fun s => by simp)
          have HV : Hid (RErr W9 v (some (_, 100))) := hv
          have HB9 : Hid (Below q w W9) := by have := P9.m.b; rw [hq] at this; exact this
          obtain ⟨g, k, rfl, _, _⟩ := hv
          clear hb9 P9 hR hE
          go_wp2
          refine bodyPost_ret (v := .tuple #[mo11 zeroS, .agg #[.slice (some ⟨g, 0, none⟩) 1 k, .int .i64 100]]) (by simp [results, Tryz.results86, go_sem, mo11, zeroS, r0, r1, r2, r3, r4, r5, r6, r7, r8, r9, r10, s0, s1]) rfl ⟨_, rfl, ?_, ?_⟩
          · exact g13 HV.out n1.out n2.out
          · rw [hq]
            exact b13 HB9.out
set_option maxRecDepth 100000 in
set_option maxHeartbeats 1000000 in
theorem pmZ6 (w : World) (s : ByteArray) (hs : s.size ≤ 140737488351232) (hn : cnt s 0 8 = 6) (hsg : Sgn s 6) (x : Nat) (hx : (s.get! 6).toNat = x) (hx2 : x = 43 ∨ x = 45) (k : Nat) (hk : cnt s (6 + 1) 4 = k) (hlt : 6 < s.size) (hbad : k < 4 ∨ 6 + 5 < s.size) : Calls Tryz.prog 86 #[.string s] w (PostF w (mo11 zeroS) (some (((6 + 1 + k : Nat) : Int), 100))) := by
  have HSG : Hid (∀ k, k < 6 → (s.get! k).toNat ≠ 43 ∧ (s.get! k).toNat ≠ 45) := hsg.no
  have hle := hsg.le
  have hE : isD s 6 = false := by
    unfold isD
    rw [hx]
    simp; omega
  have hcx := cnt_ext hle hE 8 0 (by omega)
  rw [hn] at hcx
  have c31 := fun W => digits31_any W (s.extract 0 6) 0 8 (by omega) (by rw [ByteArray.size_extract]; omega) (by omega)
  rw [hcx.1] at c31
  have c31z := fun W => digits31_any W s (6 + 1) 4 (by omega) hs (by omega)
  rw [hk] at c31z
  have hk4 : k ≤ 4 := by rw [← hk]; exact cnt_le s 4 _
  rw [show ((6 + 1 + k : Nat) : Int) = 7 + (k : Int) by omega]
  have hiI : decide (6 < (s.size : Int)) = true := by simp; omega
  have hiI2 : 6 < (s.size : Int) := by omega
  have hx0 : s[6].toNat = x := by rw [get_get! s 6 hlt]; exact hx
  have hcs : Hid (decide ((k : Int) < 4) = true ∨ (k = 4 ∧ decide (11 < (s.size : Int)) = true)) := by
    show _ ∨ _
    by_cases h : k < 4
    · exact .inl (by simp; omega)
    · exact .inr ⟨by omega, by simp; omega⟩
  have hlI : (6 : Int) ≤ (s.size : Int) := by omega
  clear hcx hk hn hE hsg hx hbad
  obtain ⟨q, hq⟩ : ∃ q, w.heap.size = q := ⟨_, rfl⟩
  obtain ⟨W2, hW2⟩ : ∃ W2, (w.alloc (.cells #[.int .i64 0, .int .i64 0, .int .i64 0, .int .i64 0, .int .i64 0, .int .i64 0, .int .i64 0, .int .i64 0, .int .i64 0, .bool false, .int .i64 0] 130)).alloc (.cells #[.slice none 0 0, .int .i64 0] 35) = W2 := ⟨_, rfl⟩
  have HM : Hid (MN w W2 130 11 zm0) := by show MN w W2 130 11 zm0; rw [← hW2]; exact MN.start w _ 130
  have hl2 : w.heap.size + 2 ≤ W2.heap.size := by rw [← hW2]; simp
  have HW2 : Hid _ := hW2
  clear hW2
  go_enter Tryz.func86, Tryz.ntmps86
  go_wp2
  go_loopg [4, 5] 6 (fun g s4 s5 wx => ∃ i : Nat, s4 = .int .i64 (s.size : Int) ∧ s5 = .int .i64 (i : Int) ∧ g + i = 6 ∧ W2 = wx)
  case atStart => exact ⟨0, rfl, rfl, by omega, HW2.out.symm⟩
  case round =>
    obtain ⟨i, rfl, rfl, hg, rfl⟩ := hrel
    by_cases hi : i < 6
    · have hno := HSG.out i hi
      have hil : i < s.size := by omega
      have hiI : decide ((i : Int) < (s.size : Int)) = true := by simp; omega
      have hiI2 : (i : Int) < (s.size : Int) := by omega
      rw [← get_get! s i hil] at hno
      obtain ⟨c, hc⟩ : ∃ c, s[i].toNat = c := ⟨_, rfl⟩
      rw [hc] at hno
      have h43 : ((c : Int) == 43) = false := by simp; omega
      have h45 : ((c : Int) == 45) = false := by simp; omega
      clear c31 c31z
      go_wp2
      go_roundg (6 - (i + 1))
      case measure => omega
      case rel => exact ⟨i + 1, rfl, by first | rfl | simp, by omega, rfl⟩
    · obtain rfl : i = 6 := by omega
      rcases hx2 with rfl | rfl
      all_goals
        obtain ⟨B, hBB⟩ : ∃ B, W2.heap.size = B := ⟨_, rfl⟩
        obtain ⟨W3, hW3⟩ : ∃ W3, W2.alloc (.cells #[.int .i64 1, .int .i64 1, .int .i64 1, .int .i64 0, .int .i64 0, .int .i64 0, .int .i64 0, .int .i64 0, .int .i64 0, .bool false, .int .i64 0] 130) = W3 := ⟨_, rfl⟩
        have P3 : Hid (PM w W3 B m1) := by show PM _ _ _ _; rw [← hW3, ← hBB]; exact PM.start HM.out hl2
        have HW3 : Hid _ := hW3
        clear hW3
        go_wp2_with (go_at_call 56; refine Stop.mk ?_)
        rw [HW3.out]
        refine Stop.out ((c31 _).mono ?_)
        rintro e W4 ⟨rfl, rfl⟩
        clear c31 HW3 HW2 HM hl2
        go_wp2_with (go_at_call 56; refine Stop.mk ?_)
        refine Stop.out ((c31z _).mono ?_)
        rintro e W4 ⟨rfl, rfl⟩
        clear c31z
        rcases hcs.out with hcs1 | ⟨rfl, hcs1⟩
        all_goals
          go_wp2_with (go_at_call 31; refine Stop.mk ?_)
          refine Stop.out ((no_any (_) 100 _).mono ?_)
          rintro e W9 ⟨v, rfl, hv, hb9⟩
          have P9 := P3.out.on hb9
          have hR := P9.m.r
          have hE := P9.m.e
          rw [hq] at hR hE
          obtain ⟨r0, r1, r2, r3, r4, r5, r6, r7, r8, r9, r10, s0, s1, rf, sf⟩ := z13 hR hE
          have n1 : Hid (Rne v q) := hv.ne r0 (fun s => by simp)
          have n2 : Hid (Rne v (q + 1)) := hv.ne s0 (fun s => by simp)
          have HV : Hid (RErr W9 v (some (_, 100))) := hv
          have HB9 : Hid (Below q w W9) := by have := P9.m.b; rw [hq] at this; exact this
          obtain ⟨g, k, rfl, _, _⟩ := hv
          clear hb9 P9 hR hE
          go_wp2
          refine bodyPost_ret (v := .tuple #[mo11 zeroS, .agg #[.slice (some ⟨g, 0, none⟩) 1 k, .int .i64 100]]) (by simp [results, Tryz.results86, go_sem, mo11, zeroS, r0, r1, r2, r3, r4, r5, r6, r7, r8, r9, r10, s0, s1]) rfl ⟨_, rfl, ?_, ?_⟩
          · exact g13 HV.out n1.out n2.out
          · rw [hq]
            exact b13 HB9.out
set_option maxRecDepth 100000 in
set_option maxHeartbeats 1000000 in
theorem pmZ8 (w : World) (s : ByteArray) (hs : s.size ≤ 140737488351232) (hn : cnt s 0 8 = 8) (hsg : Sgn s 8) (x : Nat) (hx : (s.get! 8).toNat = x) (hx2 : x = 43 ∨ x = 45) (k : Nat) (hk : cnt s (8 + 1) 4 = k) (hlt : 8 < s.size) (hbad : k < 4 ∨ 8 + 5 < s.size) : Calls Tryz.prog 86 #[.string s] w (PostF w (mo11 zeroS) (some (((8 + 1 + k : Nat) : Int), 100))) := by
  have HSG : Hid (∀ k, k < 8 → (s.get! k).toNat ≠ 43 ∧ (s.get! k).toNat ≠ 45) := hsg.no
  have hle := hsg.le
  have hE : isD s 8 = false := by
    unfold isD
    rw [hx]
    simp; omega
  have hcx := cnt_ext hle hE 8 0 (by omega)
  rw [hn] at hcx
  have c31 := fun W => digits31_any W (s.extract 0 8) 0 8 (by omega) (by rw [ByteArray.size_extract]; omega) (by omega)
  rw [hcx.1] at c31
  have c31z := fun W => digits31_any W s (8 + 1) 4 (by omega) hs (by omega)
  rw [hk] at c31z
  have hk4 : k ≤ 4 := by rw [← hk]; exact cnt_le s 4 _
  rw [show ((8 + 1 + k : Nat) : Int) = 9 + (k : Int) by omega]
  have hiI : decide (8 < (s.size : Int)) = true := by simp; omega
  have hiI2 : 8 < (s.size : Int) := by omega
  have hx0 : s[8].toNat = x := by rw [get_get! s 8 hlt]; exact hx
  have hcs : Hid (decide ((k : Int) < 4) = true ∨ (k = 4 ∧ decide (13 < (s.size : Int)) = true)) := by
    show _ ∨ _
    by_cases h : k < 4
    · exact .inl (by simp; omega)
    · exact .inr ⟨by omega, by simp; omega⟩
  have hlI : (8 : Int) ≤ (s.size : Int) := by omega
  clear hcx hk hn hE hsg hx hbad
  obtain ⟨q, hq⟩ : ∃ q, w.heap.size = q := ⟨_, rfl⟩
  obtain ⟨W2, hW2⟩ : ∃ W2, (w.alloc (.cells #[.int .i64 0, .int .i64 0, .int .i64 0, .int .i64 0, .int .i64 0, .int .i64 0, .int .i64 0, .int .i64 0, .int .i64 0, .bool false, .int .i64 0] 130)).alloc (.cells #[.slice none 0 0, .int .i64 0] 35) = W2 := ⟨_, rfl⟩
  have HM : Hid (MN w W2 130 11 zm0) := by show MN w W2 130 11 zm0; rw [← hW2]; exact MN.start w _ 130
  have hl2 : w.heap.size + 2 ≤ W2.heap.size := by rw [← hW2]; simp
  have HW2 : Hid _ := hW2
  clear hW2
  go_enter Tryz.func86, Tryz.ntmps86
  go_wp2
  go_loopg [4, 5] 8 (fun g s4 s5 wx => ∃ i : Nat, s4 = .int .i64 (s.size : Int) ∧ s5 = .int .i64 (i : Int) ∧ g + i = 8 ∧ W2 = wx)
  case atStart => exact ⟨0, rfl, rfl, by omega, HW2.out.symm⟩
  case round =>
    obtain ⟨i, rfl, rfl, hg, rfl⟩ := hrel
    by_cases hi : i < 8
    · have hno := HSG.out i hi
      have hil : i < s.size := by omega
      have hiI : decide ((i : Int) < (s.size : Int)) = true := by simp; omega
      have hiI2 : (i : Int) < (s.size : Int) := by omega
      rw [← get_get! s i hil] at hno
      obtain ⟨c, hc⟩ : ∃ c, s[i].toNat = c := ⟨_, rfl⟩
      rw [hc] at hno
      have h43 : ((c : Int) == 43) = false := by simp; omega
      have h45 : ((c : Int) == 45) = false := by simp; omega
      clear c31 c31z
      go_wp2
      go_roundg (8 - (i + 1))
      case measure => omega
      case rel => exact ⟨i + 1, rfl, by first | rfl | simp, by omega, rfl⟩
    · obtain rfl : i = 8 := by omega
      rcases hx2 with rfl | rfl
      all_goals
        obtain ⟨B, hBB⟩ : ∃ B, W2.heap.size = B := ⟨_, rfl⟩
        obtain ⟨W3, hW3⟩ : ∃ W3, W2.alloc (.cells #[.int .i64 1, .int .i64 1, .int .i64 1, .int .i64 0, .int .i64 0, .int .i64 0, .int .i64 0, .int .i64 0, .int .i64 0, .bool false, .int .i64 0] 130) = W3 := ⟨_, rfl⟩
        have P3 : Hid (PM w W3 B m1) := by show PM _ _ _ _; rw [← hW3, ← hBB]; exact PM.start HM.out hl2
        have HW3 : Hid _ := hW3
        clear hW3
        go_wp2_with (go_at_call 56; refine Stop.mk ?_)
        rw [HW3.out]
        refine Stop.out ((c31 _).mono ?_)
        rintro e W4 ⟨rfl, rfl⟩
        clear c31 HW3 HW2 HM hl2
        go_wp2_with (go_at_call 56; refine Stop.mk ?_)
        refine Stop.out ((c31z _).mono ?_)
        rintro e W4 ⟨rfl, rfl⟩
        clear c31z
        rcases hcs.out with hcs1 | ⟨rfl, hcs1⟩
        all_goals
          go_wp2_with (go_at_call 31; refine Stop.mk ?_)
          refine Stop.out ((no_any (_) 100 _).mono ?_)
          rintro e W9 ⟨v, rfl, hv, hb9⟩
          have P9 := P3.out.on hb9
          have hR := P9.m.r
          have hE := P9.m.e
          rw [hq] at hR hE
          obtain ⟨r0, r1, r2, r3, r4, r5, r6, r7, r8, r9, r10, s0, s1, rf, sf⟩ := z13 hR hE
          have n1 : Hid (Rne v q) := hv.ne r0 (fun s => by simp)
          have n2 : Hid (Rne v (q + 1)) := hv.ne s0 (fun s => by simp)
          have HV : Hid (RErr W9 v (some (_, 100))) := hv
          have HB9 : Hid (Below q w W9) := by have := P9.m.b; rw [hq] at this; exact this
          obtain ⟨g, k, rfl, _, _⟩ := hv
          clear hb9 P9 hR hE
          go_wp2
          refine bodyPost_ret (v := .tuple #[mo11 zeroS, .agg #[.slice (some ⟨g, 0, none⟩) 1 k, .int .i64 100]]) (by simp [results, Tryz.results86, go_sem, mo11, zeroS, r0, r1, r2, r3, r4, r5, r6, r7, r8, r9, r10, s0, s1]) rfl ⟨_, rfl, ?_, ?_⟩
          · exact g13 HV.out n1.out n2.out
          · rw [hq]
            exact b13 HB9.out
set_option maxRecDepth 100000 in
set_option maxHeartbeats 1000000 in
theorem pmZ8t (w : World) (s : ByteArray) (hs : s.size ≤ 140737488351232) (hn : cnt s 0 8 = 8) (e : Nat) (h8 : 8 < e) (hsg : Sgn s e) (x : Nat) (hx : (s.get! e).toNat = x) (hx2 : x = 43 ∨ x = 45) (k : Nat) (hk : cnt s (e + 1) 4 = k) (hlt : e < s.size) (hbad : k < 4 ∨ e + 5 < s.size) (h m sc mc p : Nat) (c a : Int) (hc : c = 0 ∨ c = 101) (c42 : ∀ W, Calls Tryz.prog 110 #[.string s, .int .i64 8, .int .i64 (e : Int)] W (PostK W (t5 h m sc mc p) c a)) : Calls Tryz.prog 86 #[.string s] w (PostF w (mo11 zeroS) (some (((e + 1 + k : Nat) : Int), 100))) := by
  have HSG : Hid (∀ k, k < e → (s.get! k).toNat ≠ 43 ∧ (s.get! k).toNat ≠ 45) := hsg.no
  have hle := hsg.le
  have hE : isD s e = false := by
    unfold isD
    rw [hx]
    simp; omega
  have hcx := cnt_ext hle hE 8 0 (by omega)
  rw [hn] at hcx
  have c31 := fun W => digits31_any W (s.extract 0 e) 0 8 (by omega) (by rw [ByteArray.size_extract]; omega) (by omega)
  rw [hcx.1] at c31
  have c31z := fun W => digits31_any W s (e + 1) 4 (by omega) hs (by omega)
  rw [hk] at c31z
  have hk4 : k ≤ 4 := by rw [← hk]; exact cnt_le s 4 _
  rw [show ((e + 1 : Nat) : Int) = (e : Int) + 1 by omega] at c31z
  rw [show ((e + 1 + k : Nat) : Int) = (e : Int) + 1 + (k : Int) by omega]
  have hiI : decide ((e : Int) < (s.size : Int)) = true := by simp; omega
  have hiI2 : (e : Int) < (s.size : Int) := by omega
  have hx0 : s[e].toNat = x := by rw [get_get! s e hlt]; exact hx
  have hcs : Hid (decide ((k : Int) < 4) = true ∨ (k = 4 ∧ decide ((e : Int) + 5 < (s.size : Int)) = true)) := by
    show _ ∨ _
    by_cases h : k < 4
    · exact .inl (by simp; omega)
    · exact .inr ⟨by omega, by simp; omega⟩
  have h8I : decide ((8 : Int) < (e : Int)) = true := by simp; omega
  have heI : (e : Int) ≤ (s.size : Int) := by omega
  unfold t5 at c42
  clear hcx hk hn hE hsg hx hbad
  obtain ⟨q, hq⟩ : ∃ q, w.heap.size = q := ⟨_, rfl⟩
  obtain ⟨W2, hW2⟩ : ∃ W2, (w.alloc (.cells #[.int .i64 0, .int .i64 0, .int .i64 0, .int .i64 0, .int .i64 0, .int .i64 0, .int .i64 0, .int .i64 0, .int .i64 0, .bool false, .int .i64 0] 130)).alloc (.cells #[.slice none 0 0, .int .i64 0] 35) = W2 := ⟨_, rfl⟩
  have HM : Hid (MN w W2 130 11 zm0) := by show MN w W2 130 11 zm0; rw [← hW2]; exact MN.start w _ 130
  have hl2 : w.heap.size + 2 ≤ W2.heap.size := by rw [← hW2]; simp
  have HW2 : Hid _ := hW2
  clear hW2
  go_enter Tryz.func86, Tryz.ntmps86
  go_wp2
  go_loopg [4, 5] e (fun g s4 s5 wx => ∃ i : Nat, s4 = .int .i64 (s.size : Int) ∧ s5 = .int .i64 (i : Int) ∧ g + i = e ∧ W2 = wx)
  case atStart => exact ⟨0, rfl, rfl, by omega, HW2.out.symm⟩
  case round =>
    obtain ⟨i, rfl, rfl, hg, rfl⟩ := hrel
    by_cases hi : i < e
    · have hno := HSG.out i hi
      have hil : i < s.size := by omega
      have hiI : decide ((i : Int) < (s.size : Int)) = true := by simp; omega
      have hiI2 : (i : Int) < (s.size : Int) := by omega
      rw [← get_get! s i hil] at hno
      obtain ⟨c, hc⟩ : ∃ c, s[i].toNat = c := ⟨_, rfl⟩
      rw [hc] at hno
      have h43 : ((c : Int) == 43) = false := by simp; omega
      have h45 : ((c : Int) == 45) = false := by simp; omega
      clear c31 c31z c42
      go_wp2
      go_roundg (e - (i + 1))
      case measure => omega
      case rel => exact ⟨i + 1, rfl, by first | rfl | simp, by omega, rfl⟩
    · obtain rfl : i = e := by omega
      rcases hx2 with rfl | rfl
      all_goals
        obtain ⟨B, hBB⟩ : ∃ B, W2.heap.size = B := ⟨_, rfl⟩
        obtain ⟨W3, hW3⟩ : ∃ W3, W2.alloc (.cells #[.int .i64 1, .int .i64 1, .int .i64 1, .int .i64 0, .int .i64 0, .int .i64 0, .int .i64 0, .int .i64 0, .int .i64 0, .bool false, .int .i64 0] 130) = W3 := ⟨_, rfl⟩
        have P3 : Hid (PM w W3 B m1) := by show PM _ _ _ _; rw [← hW3, ← hBB]; exact PM.start HM.out hl2
        have HW3 : Hid _ := hW3
        clear hW3
        go_wp2_with (go_at_call 56; refine Stop.mk ?_)
        rw [HW3.out]
        refine Stop.out ((c31 _).mono ?_)
        rintro e W4 ⟨rfl, rfl⟩
        clear c31 HW3 HW2 HM hl2
        go_wp2_with (go_at_call 110; refine Stop.mk ?_)
        refine Stop.out ((c42 _).mono ?_)
        rintro e W4 ⟨rfl, hb4⟩
        have P4 : Hid (PM w W4 B m1) := P3.out.on hb4
        clear c42 hb4 P3
        have b0 : W4.cell? ⟨B, 0, none⟩ = some (.int .i64 1) := P4.out.row.cell (i := 0) (by omega)
        have b1 : W4.cell? ⟨B, 1, none⟩ = some (.int .i64 1) := P4.out.row.cell (i := 1) (by omega)
        have b2 : W4.cell? ⟨B, 2, none⟩ = some (.int .i64 1) := P4.out.row.cell (i := 2) (by omega)
        have b3 : W4.cell? ⟨B, 3, none⟩ = some (.int .i64 0) := P4.out.row.cell (i := 3) (by omega)
        have b4 : W4.cell? ⟨B, 4, none⟩ = some (.int .i64 0) := P4.out.row.cell (i := 4) (by omega)
        have b5 : W4.cell? ⟨B, 5, none⟩ = some (.int .i64 0) := P4.out.row.cell (i := 5) (by omega)
        have b6 : W4.cell? ⟨B, 6, none⟩ = some (.int .i64 0) := P4.out.row.cell (i := 6) (by omega)
        have b7 : W4.cell? ⟨B, 7, none⟩ = some (.int .i64 0) := P4.out.row.cell (i := 7) (by omega)
        have b8 : W4.cell? ⟨B, 8, none⟩ = some (.int .i64 0) := P4.out.row.cell (i := 8) (by omega)
        have b9 : W4.cell? ⟨B, 9, none⟩ = some (.bool false) := P4.out.row.cell (i := 9) (by omega)
        have b10 : W4.cell? ⟨B, 10, none⟩ = some (.int .i64 0) := P4.out.row.cell (i := 10) (by omega)
        have bf := fun i => P4.out.row.frozen i
        have hc1 : (c == 100) = false := by rcases hc with rfl | rfl <;> rfl
        have P5 := ((((P4.out.set 4 (.int .i64 (h : Int))).set 5 (.int .i64 (m : Int))).set 6 (.int .i64 (sc : Int))).set 7 (.int .i64 (mc : Int))).set 8 (.int .i64 (p : Int))
        obtain ⟨W5, hW5⟩ : ∃ W5, ((((W4.setCell ⟨B, 4, none⟩ (.int .i64 (h : Int))).setCell ⟨B, 5, none⟩ (.int .i64 (m : Int))).setCell ⟨B, 6, none⟩ (.int .i64 (sc : Int))).setCell ⟨B, 7, none⟩ (.int .i64 (mc : Int))).setCell ⟨B, 8, none⟩ (.int .i64 (p : Int)) = W5 := ⟨_, rfl⟩
        rw [hW5] at P5
        have P5' : Hid _ := P5
        clear P5 P4
        go_wp2_with (go_at_call 56; refine Stop.mk ?_)
        refine Stop.out ((c31z _).mono ?_)
        rintro e W4 ⟨rfl, rfl⟩
        clear c31z
        rcases hcs.out with hcs1 | ⟨rfl, hcs1⟩
        all_goals
          go_wp2_with (go_at_call 31; refine Stop.mk ?_)
          refine Stop.out ((no_any (_) 100 _).mono ?_)
          rintro e W9 ⟨v, rfl, hv, hb9⟩
          have P9 := P5'.out.on hb9
          have hR := P9.m.r
          have hE := P9.m.e
          rw [hq] at hR hE
          obtain ⟨r0, r1, r2, r3, r4, r5, r6, r7, r8, r9, r10, s0, s1, rf, sf⟩ := z13 hR hE
          have n1 : Hid (Rne v q) := hv.ne r0 (fun s => by simp)
          have n2 : Hid (Rne v (q + 1)) := hv.ne s0 (fun s => by simp)
          have HV : Hid (RErr W9 v (some (_, 100))) := hv
          have HB9 : Hid (Below q w W9) := by have := P9.m.b; rw [hq] at this; exact this
          obtain ⟨g, k, rfl, _, _⟩ := hv
          clear hb9 P9 hR hE
          go_wp2
          refine bodyPost_ret (v := .tuple #[mo11 zeroS, .agg #[.slice (some ⟨g, 0, none⟩) 1 k, .int .i64 100]]) (by simp [results, Tryz.results86, go_sem, mo11, zeroS, r0, r1, r2, r3, r4, r5, r6, r7, r8, r9, r10, s0, s1]) rfl ⟨_, rfl, ?_, ?_⟩
          · exact g13 HV.out n1.out n2.out
          · rw [hq]
            exact b13 HB9.out
set_option maxRecDepth 100000 in
set_option maxHeartbeats 1000000 in
theorem pmC (w : World) (s : ByteArray) (hs : s.size ≤ 140737488351232) (hn : cnt s 0 8 = 8) (e : Nat) (h8 : 8 < e) (hsg : Sgn s e) (a : Int) (c42 : ∀ W, Calls Tryz.prog 110 #[.string s, .int .i64 8, .int .i64 (e : Int)] W (PostK W (t5 0 0 0 0 0) 100 a)) : Calls Tryz.prog 86 #[.string s] w (PostF w (mo11 zeroS) (some (a, 100))) := by
  have HSG : Hid (∀ k, k < e → (s.get! k).toNat ≠ 43 ∧ (s.get! k).toNat ≠ 45) := hsg.no
  have hle := hsg.le
  have hE : isD s e = false := by
    unfold isD
    by_cases h : e < s.size
    · have := hsg.yes h
      simp; omega
    · rw [decide_eq_false h, Bool.false_and]
  have hcx := cnt_ext hle hE 8 0 (by omega)
  rw [hn] at hcx
  have HY : Hid (e < s.size → (s.get! e).toNat = 43 ∨ (s.get! e).toNat = 45) := hsg.yes
  have c31 := fun W => digits31_any W (s.extract 0 e) 0 8 (by omega) (by rw [ByteArray.size_extract]; omega) (by omega)
  rw [hcx.1] at c31
  have c31s := fun W => digits31_any W s 0 8 (by omega) hs (by omega)
  rw [hn] at c31s
  have h8I : decide ((8 : Int) < (e : Int)) = true := by simp; omega
  have heI : (e : Int) ≤ (s.size : Int) := by omega
  unfold t5 at c42
  clear hcx hn hE hsg
  obtain ⟨q, hq⟩ : ∃ q, w.heap.size = q := ⟨_, rfl⟩
  obtain ⟨W2, hW2⟩ : ∃ W2, (w.alloc (.cells #[.int .i64 0, .int .i64 0, .int .i64 0, .int .i64 0, .int .i64 0, .int .i64 0, .int .i64 0, .int .i64 0, .int .i64 0, .bool false, .int .i64 0] 130)).alloc (.cells #[.slice none 0 0, .int .i64 0] 35) = W2 := ⟨_, rfl⟩
  have HM : Hid (MN w W2 130 11 zm0) := by show MN w W2 130 11 zm0; rw [← hW2]; exact MN.start w _ 130
  have hl2 : w.heap.size + 2 ≤ W2.heap.size := by rw [← hW2]; simp
  have HW2 : Hid _ := hW2
  clear hW2
  go_enter Tryz.func86, Tryz.ntmps86
  go_wp2
  go_loopg [4, 5] e (fun g s4 s5 wx => ∃ i : Nat, s4 = .int .i64 (s.size : Int) ∧ s5 = .int .i64 (i : Int) ∧ g + i = e ∧ W2 = wx)
  case atStart => exact ⟨0, rfl, rfl, by omega, HW2.out.symm⟩
  case round =>
    obtain ⟨i, rfl, rfl, hg, rfl⟩ := hrel
    by_cases hi : i < e
    · have hno := HSG.out i hi
      have hil : i < s.size := by omega
      have hiI : decide ((i : Int) < (s.size : Int)) = true := by simp; omega
      have hiI2 : (i : Int) < (s.size : Int) := by omega
      rw [← get_get! s i hil] at hno
      obtain ⟨c, hc⟩ : ∃ c, s[i].toNat = c := ⟨_, rfl⟩
      rw [hc] at hno
      have h43 : ((c : Int) == 43) = false := by simp; omega
      have h45 : ((c : Int) == 45) = false := by simp; omega
      clear c31 c31s c42
      go_wp2
      go_roundg (e - (i + 1))
      case measure => omega
      case rel => exact ⟨i + 1, rfl, by first | rfl | simp, by omega, rfl⟩
    · obtain rfl : i = e := by omega
      by_cases hlt : i < s.size
      · have hx := HY.out hlt
        have hiI : decide ((i : Int) < (s.size : Int)) = true := by simp; omega
        have hiI2 : (i : Int) < (s.size : Int) := by omega
        rw [← get_get! s i hlt] at hx
        obtain ⟨c, hc⟩ : ∃ c, s[i].toNat = c := ⟨_, rfl⟩
        rw [hc] at hx
        rcases hx with rfl | rfl
        all_goals
          obtain ⟨B, hBB⟩ : ∃ B, W2.heap.size = B := ⟨_, rfl⟩
          obtain ⟨W3, hW3⟩ : ∃ W3, W2.alloc (.cells #[.int .i64 1, .int .i64 1, .int .i64 1, .int .i64 0, .int .i64 0, .int .i64 0, .int .i64 0, .int .i64 0, .int .i64 0, .bool false, .int .i64 0] 130) = W3 := ⟨_, rfl⟩
          have P3 : Hid (PM w W3 B m1) := by show PM _ _ _ _; rw [← hW3, ← hBB]; exact PM.start HM.out hl2
          have HW3 : Hid _ := hW3
          clear hW3
          go_wp2_with (go_at_call 56; refine Stop.mk ?_)
          rw [HW3.out]
          refine Stop.out ((c31 _).mono ?_)
          rintro e W4 ⟨rfl, rfl⟩
          clear c31 c31s HW3 HW2 HM hl2
          go_wp2_with (go_at_call 110; refine Stop.mk ?_)
          refine Stop.out ((c42 _).mono ?_)
          rintro e W4 ⟨rfl, hb4⟩
          have P4 : Hid (PM w W4 B m1) := P3.out.on hb4
          clear c42 hb4 P3
          have b0 : W4.cell? ⟨B, 0, none⟩ = some (.int .i64 1) := P4.out.row.cell (i := 0) (by omega)
          have b1 : W4.cell? ⟨B, 1, none⟩ = some (.int .i64 1) := P4.out.row.cell (i := 1) (by omega)
          have b2 : W4.cell? ⟨B, 2, none⟩ = some (.int .i64 1) := P4.out.row.cell (i := 2) (by omega)
          have b3 : W4.cell? ⟨B, 3, none⟩ = some (.int .i64 0) := P4.out.row.cell (i := 3) (by omega)
          have b4 : W4.cell? ⟨B, 4, none⟩ = some (.int .i64 0) := P4.out.row.cell (i := 4) (by omega)
          have b5 : W4.cell? ⟨B, 5, none⟩ = some (.int .i64 0) := P4.out.row.cell (i := 5) (by omega)
          have b6 : W4.cell? ⟨B, 6, none⟩ = some (.int .i64 0) := P4.out.row.cell (i := 6) (by omega)
          have b7 : W4.cell? ⟨B, 7, none⟩ = some (.int .i64 0) := P4.out.row.cell (i := 7) (by omega)
          have b8 : W4.cell? ⟨B, 8, none⟩ = some (.int .i64 0) := P4.out.row.cell (i := 8) (by omega)
          have b9 : W4.cell? ⟨B, 9, none⟩ = some (.bool false) := P4.out.row.cell (i := 9) (by omega)
          have b10 : W4.cell? ⟨B, 10, none⟩ = some (.int .i64 0) := P4.out.row.cell (i := 10) (by omega)
          have bf := fun i => P4.out.row.frozen i
          have P5 := ((((P4.out.set 4 (.int .i64 0)).set 5 (.int .i64 0)).set 6 (.int .i64 0)).set 7 (.int .i64 0)).set 8 (.int .i64 0)
          have P5' : Hid _ := P5
          clear P5 P4
          go_wp2_with (go_at_call 31; refine Stop.mk ?_)
          refine Stop.out ((no_any (a) 100 _).mono ?_)
          rintro e W9 ⟨v, rfl, hv, hb9⟩
          have P9 := P5'.out.on hb9
          have hR := P9.m.r
          have hE := P9.m.e
          rw [hq] at hR hE
          obtain ⟨r0, r1, r2, r3, r4, r5, r6, r7, r8, r9, r10, s0, s1, rf, sf⟩ := z13 hR hE
          have n1 : Hid (Rne v q) := hv.ne r0 (fun s => by simp)
          have n2 : Hid (Rne v (q + 1)) := hv.ne s0 (fun s => by simp)
          have HV : Hid (RErr W9 v (some (a, 100))) := hv
          have HB9 : Hid (Below q w W9) := by have := P9.m.b; rw [hq] at this; exact this
          obtain ⟨g, k, rfl, _, _⟩ := hv
          clear hb9 P9 hR hE
          go_wp2
          refine bodyPost_ret (v := .tuple #[mo11 zeroS, .agg #[.slice (some ⟨g, 0, none⟩) 1 k, .int .i64 100]]) (by simp [results, Tryz.results86, go_sem, mo11, zeroS, r0, r1, r2, r3, r4, r5, r6, r7, r8, r9, r10, s0, s1]) rfl ⟨_, rfl, ?_, ?_⟩
          · exact g13 HV.out n1.out n2.out
          · rw [hq]
            exact b13 HB9.out
      · obtain rfl : i = s.size := by omega
        obtain ⟨B, hBB⟩ : ∃ B, W2.heap.size = B := ⟨_, rfl⟩
        obtain ⟨W3, hW3⟩ : ∃ W3, W2.alloc (.cells #[.int .i64 1, .int .i64 1, .int .i64 1, .int .i64 0, .int .i64 0, .int .i64 0, .int .i64 0, .int .i64 0, .int .i64 0, .bool false, .int .i64 0] 130) = W3 := ⟨_, rfl⟩
        have P3 : Hid (PM w W3 B m1) := by show PM _ _ _ _; rw [← hW3, ← hBB]; exact PM.start HM.out hl2
        have HW3 : Hid _ := hW3
        clear hW3
        go_wp2_with (go_at_call 56; refine Stop.mk ?_)
        rw [HW3.out]
        refine Stop.out ((c31s _).mono ?_)
        rintro e W4 ⟨rfl, rfl⟩
        clear c31 c31s HW3 HW2 HM hl2
        go_wp2_with (go_at_call 110; refine Stop.mk ?_)
        refine Stop.out ((c42 _).mono ?_)
        rintro e W4 ⟨rfl, hb4⟩
        have P4 : Hid (PM w W4 B m1) := P3.out.on hb4
        clear c42 hb4 P3
        have b0 : W4.cell? ⟨B, 0, none⟩ = some (.int .i64 1) := P4.out.row.cell (i := 0) (by omega)
        have b1 : W4.cell? ⟨B, 1, none⟩ = some (.int .i64 1) := P4.out.row.cell (i := 1) (by omega)
        have b2 : W4.cell? ⟨B, 2, none⟩ = some (.int .i64 1) := P4.out.row.cell (i := 2) (by omega)
        have b3 : W4.cell? ⟨B, 3, none⟩ = some (.int .i64 0) := P4.out.row.cell (i := 3) (by omega)
        have b4 : W4.cell? ⟨B, 4, none⟩ = some (.int .i64 0) := P4.out.row.cell (i := 4) (by omega)
        have b5 : W4.cell? ⟨B, 5, none⟩ = some (.int .i64 0) := P4.out.row.cell (i := 5) (by omega)
        have b6 : W4.cell? ⟨B, 6, none⟩ = some (.int .i64 0) := P4.out.row.cell (i := 6) (by omega)
        have b7 : W4.cell? ⟨B, 7, none⟩ = some (.int .i64 0) := P4.out.row.cell (i := 7) (by omega)
        have b8 : W4.cell? ⟨B, 8, none⟩ = some (.int .i64 0) := P4.out.row.cell (i := 8) (by omega)
        have b9 : W4.cell? ⟨B, 9, none⟩ = some (.bool false) := P4.out.row.cell (i := 9) (by omega)
        have b10 : W4.cell? ⟨B, 10, none⟩ = some (.int .i64 0) := P4.out.row.cell (i := 10) (by omega)
        have bf := fun i => P4.out.row.frozen i
        have P5 := ((((P4.out.set 4 (.int .i64 0)).set 5 (.int .i64 0)).set 6 (.int .i64 0)).set 7 (.int .i64 0)).set 8 (.int .i64 0)
        have P5' : Hid _ := P5
        clear P5 P4
        go_wp2_with (go_at_call 31; refine Stop.mk ?_)
        refine Stop.out ((no_any (a) 100 _).mono ?_)
        rintro e W9 ⟨v, rfl, hv, hb9⟩
        have P9 := P5'.out.on hb9
        have hR := P9.m.r
        have hE := P9.m.e
        rw [hq] at hR hE
        obtain ⟨r0, r1, r2, r3, r4, r5, r6, r7, r8, r9, r10, s0, s1, rf, sf⟩ := z13 hR hE
        have n1 : Hid (Rne v q) := hv.ne r0 (fun s => by simp)
        have n2 : Hid (Rne v (q + 1)) := hv.ne s0 (fun s => by simp)
        have HV : Hid (RErr W9 v (some (a, 100))) := hv
        have HB9 : Hid (Below q w W9) := by have := P9.m.b; rw [hq] at this; exact this
        obtain ⟨g, k, rfl, _, _⟩ := hv
        clear hb9 P9 hR hE
        go_wp2
        refine bodyPost_ret (v := .tuple #[mo11 zeroS, .agg #[.slice (some ⟨g, 0, none⟩) 1 k, .int .i64 100]]) (by simp [results, Tryz.results86, go_sem, mo11, zeroS, r0, r1, r2, r3, r4, r5, r6, r7, r8, r9, r10, s0, s1]) rfl ⟨_, rfl, ?_, ?_⟩
        · exact g13 HV.out n1.out n2.out
        · rw [hq]
          exact b13 HB9.out
end Go.Proofs.YtehgeninocbpeaaGreatDoor.Tm
