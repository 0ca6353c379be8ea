import Derived.Test.YtehgeninocbpeaaGreatDoorOh
namespace Go.Proofs.YtehgeninocbpeaaGreatDoor.Tm
open Go Go.Proofs Go.RowKit
set_option maxRecDepth 100000 in
set_option maxHeartbeats 4000000 in
theorem asked7_21 (w : World) (s : ByteArray) (hs : s.size ≤ 140737488351232) :
    Calls Tryz.prog 32 #[.int .i64 21, .string s] w (PostF w (sp (ask 21 s).1.1 (ask 21 s).1.2) (ask 21 s).2) := by
  have cD := fun W => bar_any W 21 s hs
  have cO := fun W u (hu : u.size ≤ 140737488351232) => own5_any W 21 (.inr (.inr rfl)) u hu
  obtain ⟨A, hA⟩ : ∃ A, (ask 21 s).1.1 = A := ⟨_, rfl⟩
  obtain ⟨B, hB⟩ : ∃ B, (ask 21 s).1.2 = B := ⟨_, rfl⟩
  obtain ⟨o, ho⟩ : ∃ o, (ask 21 s).2 = o := ⟨_, rfl⟩
  have HA : Hid (ask 21 s = ((A, B), o)) := Prod.ext (Prod.ext hA hB) ho
  rw [hA, hB, ho]
  clear hA hB ho
  unfold ask at HA
  have hD := dsh_is 21 s
  have hDa := fun d hd h => dsh_at (vr := 21) (s := s) (d := d) hd h
  obtain ⟨q, hq⟩ : ∃ q, w.heap.size = q := ⟨_, rfl⟩
  obtain ⟨W0, hW0⟩ : ∃ W0, (w.alloc (.cells #[.int .i64 0, .int .i64 0] 66)).alloc (.cells #[.slice none 0 0, .int .i64 0] 35) = W0 := ⟨_, rfl⟩
  have K0 : Hid (A2 w W0 q) := by show A2 w W0 q; rw [← hW0, ← hq]; exact A2.start w
  have HW0 : Hid _ := hW0
  have hsz : W0.heap.size = q + 2 := by rw [← hW0, ← hq]; simp
  generalize dsh 21 s = E at *
  have HO : Hid _ := cO
  clear cO hW0
  unfold sp at HO ⊢
  go_enter Tryz.func32, Tryz.ntmps32
  go_wp2_with (go_at_call 54; refine Stop.mk ?_)
  rw [HW0.out]
  refine Stop.out ((cD _).mono ?_)
  rintro e W1 ⟨rfl, rfl⟩
  clear cD HW0
  rcases hD with rfl | ⟨d, rfl, hd⟩
  · have HR : Hid ((ow 21 s 0, oR 21 s 0) = ((A, B), o)) := by have := HA.out; rw [if_pos (by decide)] at this; exact this
    have c := HO.out W0 s hs
    generalize (ow 21 s 0) = P at *
    generalize oR 21 s 0 = oP' at *
    clear HA HO hDa
    go_wp2_with (go_at_call 50; refine Stop.mk ?_)
    refine Stop.out (c.mono ?_)
    rintro e W3 ⟨v, rfl, hv3, hb⟩
    have K3 : Hid (A2 w W3 q) := K0.out.on hb
    have HV : Hid (RErr W3 v oP') := hv3
    clear hb K0 c
    obtain ⟨va, vn, vk, vc, rfl⟩ := hv3.shape
    clear hv3
    have Z0 : W3.cell? ⟨q, 0, none⟩ = some (.int .i64 0) := K3.out.zr.cell (i := 0) (by omega)
    have Z1 : W3.cell? ⟨q, 1, none⟩ = some (.int .i64 0) := K3.out.zr.cell (i := 1) (by omega)
    have Y0 : W3.cell? ⟨q + 1, 0, none⟩ = some (.slice none 0 0) := K3.out.ze.cell (i := 0) (by omega)
    have Y1 : W3.cell? ⟨q + 1, 1, none⟩ = some (.int .i64 0) := K3.out.ze.cell (i := 1) (by omega)
    have zf := fun i => K3.out.zr.frozen i
    have yf := fun i => K3.out.ze.frozen i
    go_wp2
    refine bodyPost_ret (v := .tuple #[.agg #[.int .i64 A, .int .i64 B], .agg #[.slice va vn vk, .int .i64 vc]]) ?_ rfl ⟨_, rfl, ?_, ?_⟩
    · obtain ⟨h1, h2⟩ := Prod.mk.inj HR.out
      rw [h1]
      simp [results, Tryz.results32, go_sem, Z0, Z1, Y0, Y1]
    · rw [← (Prod.mk.inj HR.out).2]
      exact (K3.out.fin HV.out Z0 Y0 _ _ _ _).1
    · rw [hq]
      exact (K3.out.fin HV.out Z0 Y0 _ _ _ _).2
  · have hx := hDa d hd rfl
    have hd0 : ¬ ((d : Int) < 0) := by omega
    have HA1 : Hid ((if s.size = 1 then (((0 : Int), (0 : Int)), some ((1 : Int), (100 : Int))) else bt 21 s d) = ((A, B), o)) := by have := HA.out; rw [if_neg hd0, Int.toNat_natCast] at this; exact this
    clear HA hDa
    by_cases h1 : s.size = 1
    · obtain rfl : d = 0 := by omega
      obtain rfl := one_dash h1 hx
      have HR : Hid ((((0 : Int), (0 : Int)), some ((1 : Int), (100 : Int))) = ((A, B), o)) := by have := HA1.out; rw [if_pos h1] at this; exact this
      have cN := fun W => no_any 1 100 W
      clear HA1 HO h1 hx
      go_wp2_with (go_at_call 31; refine Stop.mk ?_)
      refine Stop.out ((cN _).mono ?_)
      rintro e W3 ⟨v, rfl, hv3, hb⟩
      have K3 : Hid (A2 w W3 q) := K0.out.on hb
      have HV : Hid (RErr W3 v (some (1, 100))) := hv3
      clear hb K0 cN
      obtain ⟨va, vn, vk, vc, rfl⟩ := hv3.shape
      clear hv3
      have Z0 : W3.cell? ⟨q, 0, none⟩ = some (.int .i64 0) := K3.out.zr.cell (i := 0) (by omega)
      have Z1 : W3.cell? ⟨q, 1, none⟩ = some (.int .i64 0) := K3.out.zr.cell (i := 1) (by omega)
      have Y0 : W3.cell? ⟨q + 1, 0, none⟩ = some (.slice none 0 0) := K3.out.ze.cell (i := 0) (by omega)
      have Y1 : W3.cell? ⟨q + 1, 1, none⟩ = some (.int .i64 0) := K3.out.ze.cell (i := 1) (by omega)
      have zf := fun i => K3.out.zr.frozen i
      have yf := fun i => K3.out.ze.frozen i
      go_wp2
      refine bodyPost_ret (v := .tuple #[.agg #[.int .i64 A, .int .i64 B], .agg #[.slice va vn vk, .int .i64 vc]]) ?_ rfl ⟨_, rfl, ?_, ?_⟩
      · obtain ⟨h1, h2⟩ := Prod.mk.inj HR.out
        obtain ⟨rfl, rfl⟩ := Prod.mk.inj h1
        simp [results, Tryz.results32, go_sem, Z0, Z1, Y0, Y1]
      · rw [← (Prod.mk.inj HR.out).2]
        exact (K3.out.fin HV.out Z0 Y0 _ _ _ _).1
      · rw [hq]
        exact (K3.out.fin HV.out Z0 Y0 _ _ _ _).2
    · have hne : (s.toList == [45]) = false := by
        rw [Bool.eq_false_iff]
        intro h
        have h2 : s.toList = [45] := by simpa using h
        rw [Gl_toList] at h2
        apply h1
        have h3 : s.data.toList.length = 1 := by rw [h2]; rfl
        rw [Array.length_toList] at h3
        exact h3
      have HA2 : Hid (bt 21 s d = ((A, B), o)) := by have := HA1.out; rw [if_neg h1] at this; exact this
      have hx2 : (s.extract 0 d).size ≤ 140737488351232 := by rw [ByteArray.size_extract]; omega
      have hy2 : (suf s (d + 1)).size ≤ 140737488351232 := by rw [suf_size (by omega)]; omega
      have cP := fun W => HO.out W (s.extract 0 d) hx2
      have cQ := fun W => HO.out W (suf s (d + 1)) hy2
      have eQ : (s.extract (d + 1) s.size) = suf s (d + 1) := rfl
      have HBd : Hid (∀ a c, oR 21 (suf s (d + 1)) 0 = some (a, c) → 0 ≤ a ∧ a ≤ 200000000000000) := fun a c h => by have := oR_bd 21 (suf s (d + 1)) a c h; omega
      unfold bt at HA2
      rw [ow_suf (by omega), oR_suf (by omega)] at HA2
      have HF : Hid (btF 21 s d = if d = 0 then -4611686018427387904 else (ow 21 (s.extract 0 d) 0).1) := rfl
      have HOo : Hid (btO 21 s d = if d = 0 then none else oR 21 (s.extract 0 d) 0) := rfl
      clear HA1 h1 hx HO hx2 hy2
      generalize btF 21 s d = F at *
      generalize btO 21 s d = oF at *
      generalize (ow 21 (s.extract 0 d) 0).1 = F1 at *
      generalize (ow 21 (s.extract 0 d) 0).2 = L1 at *
      generalize oR 21 (s.extract 0 d) 0 = o1 at *
      generalize (ow 21 (suf s (d + 1)) 0).1 = F2 at *
      generalize (ow 21 (suf s (d + 1)) 0).2 = L2 at *
      generalize oR 21 (suf s (d + 1)) 0 = o2 at *
      generalize suf s (d + 1) = U at *
      have hdI : (d : Int) ≤ (s.size : Int) := by omega
      have hdN : ¬ ((d : Int) < 0) := hd0
      have KA : Hid (A3 w (W0.alloc (.cells #[.int .i64 (-4611686018427387904), .int .i64 4611686018427387904] 66)) q (-4611686018427387904) 4611686018427387904) := by
        refine ⟨K0.out.on ((Below.refl _ _).alloc (Nat.le_refl _) _), ?_⟩
        have := World.rowIs_alloc W0 #[.int .i64 (-4611686018427387904), .int .i64 4611686018427387904] 66 _ (row_lit _)
        rw [hsz] at this
        exact this
      have HCP : Hid _ := cP
      have HCQ : Hid _ := cQ
      clear K0 cP cQ
      go_upto_if 40 with fail
      generalize W0.alloc (.cells #[.int .i64 (-4611686018427387904), .int .i64 4611686018427387904] 66) = WA at *
      go_cut [4, 5, 6, 7] from 8 (fun s4 s5 s6 s7 wx => s4 = .pointer (some ⟨q, 0, none⟩) ∧ s5 = .pointer (some ⟨q + 1, 0, none⟩) ∧ s6 = .int .i64 (d : Int) ∧ s7 = .pointer (some ⟨q + 2, 0, none⟩) ∧ oF = none ∧ Hid (A3 w wx q F 4611686018427387904))
      case first =>
        by_cases h0 : d = 0
        · have h0n : ¬ ((0 : Int) < (d : Int)) := by omega
          have h0m : ¬ (0 < d) := by omega
          have eF : F = -4611686018427387904 := by rw [HF.out, if_pos h0]
          have eO : oF = none := by rw [HOo.out, if_pos h0]
          have K1 : Hid (A3 w WA q F 4611686018427387904) := by rw [eF]; exact KA
          have HH0 : Hid (d = 0) := h0
          clear h0 eF HA2 HF HOo HCP HCQ KA
          go_wp2
          go_meet
          case rel => exact ⟨by simp, by simp, by simp, by simp, eO, K1⟩
        · have h0I : (0 : Int) < (d : Int) := by omega
          have h0m : 0 < d := by omega
          have eF : Hid (F = F1) := by show _ = _; rw [HF.out, if_neg h0]
          have eO : Hid (oF = o1) := by show _ = _; rw [HOo.out, if_neg h0]
          have c := HCP.out WA
          clear HF HOo HCP HCQ
          go_wp2_with (go_at_call 50; refine Stop.mk ?_)
          refine Stop.out (c.mono ?_)
          rintro e W1 ⟨v, rfl, hvv, hb⟩
          have K1 : Hid (A3 w W1 q (-4611686018427387904) 4611686018427387904) := KA.out.on hb
          have HV : Hid (RErr W1 v o1) := hvv
          clear hb KA c hvv
          cases o1 with
          | some x =>
            obtain ⟨a, c⟩ := x
            obtain ⟨g, k, rfl, _, _⟩ := HV.out
            have HR : Hid ((((0 : Int), (0 : Int)), some (a, c)) = ((A, B), o)) := by
              have := HA2.out
              rw [if_pos (by rw [eO.out]; simp), eO.out] at this
              exact this
            go_upto_region 11 with fail
            obtain ⟨C, hC⟩ : ∃ C, W1.heap.size = C := ⟨_, rfl⟩
            obtain ⟨W2, hW2⟩ : ∃ W2, (W1.alloc (.cells #[.int .i64 F1, .int .i64 L1] 66)).alloc (.cells #[.slice (some ⟨g, 0, none⟩) 1 k, .int .i64 c] 35) = W2 := ⟨_, rfl⟩
            obtain ⟨b2, r2, s2⟩ := two_al W1 F1 L1 _ hW2
            have hlt : q + 2 < C := hC ▸ K1.out.s.lt
            have K2 : Hid (A3 w W2 q (-4611686018427387904) 4611686018427387904) := K1.out.on b2
            have HV2 : Hid (RErr W2 _ (some (a, c))) := HV.out.next b2
            rw [hC] at s2
            rw [hW2, hC]
            have HS2 : Hid _ := s2
            have e0 : W2.cell? ⟨C + 1, 0, none⟩ = some (.slice (some ⟨g, 0, none⟩) 1 k) := s2.cell (i := 0) (by simp)
            have e1 : W2.cell? ⟨C + 1, 1, none⟩ = some (.int .i64 c) := s2.cell (i := 1) (by simp)
            clear b2 r2 s2 HA2 eF eO HV K1 hW2
            have c11 := fun W => any_some W g k c
            go_wp2_with (go_at_call 28; refine Stop.mk ?_)
            refine Stop.out ((c11 _).mono ?_)
            rintro e W3 ⟨rfl, hb3⟩
            have K3 : Hid (A3 w W3 q (-4611686018427387904) 4611686018427387904) := K2.out.on hb3
            have HV3 : Hid (RErr W3 (.agg #[.slice (some ⟨g, 0, none⟩) 1 k, .int .i64 c]) (some (a, c))) := HV2.out.next hb3
            have HS3 := row_on HS2.out hb3
            clear e0 e1 hb3 K2 HV2 HS2 c11
            have e0 : W3.cell? ⟨C + 1, 0, none⟩ = some (.slice (some ⟨g, 0, none⟩) 1 k) := HS3.cell (i := 0) (by simp)
            have e1 : W3.cell? ⟨C + 1, 1, none⟩ = some (.int .i64 c) := HS3.cell (i := 1) (by simp)
            have Z0 : W3.cell? ⟨q, 0, none⟩ = some (.int .i64 0) := K3.out.a.zr.cell (i := 0) (by omega)
            have Z1 : W3.cell? ⟨q, 1, none⟩ = some (.int .i64 0) := K3.out.a.zr.cell (i := 1) (by omega)
            have Y0 : W3.cell? ⟨q + 1, 0, none⟩ = some (.slice none 0 0) := K3.out.a.ze.cell (i := 0) (by omega)
            have Y1 : W3.cell? ⟨q + 1, 1, none⟩ = some (.int .i64 0) := K3.out.a.ze.cell (i := 1) (by omega)
            have zf := fun i => K3.out.a.zr.frozen i
            have yf := fun i => K3.out.a.ze.frozen i
            have HN1 : Hid _ := HV3.out.ne Z0 (fun s h => by cases h)
            have HN2 : Hid _ := HV3.out.ne Y0 (fun s h => by cases h)
            have hBq : q ≠ C + 1 ∧ q + 1 ≠ C + 1 ∧ C + 1 ≠ q ∧ C + 1 ≠ q + 1 := by omega
            clear HS3
            go_upto_region 12 with fail
            go_region
            all_goals
              go_wp2
              refine bodyPost_ret (v := .tuple #[.agg #[.int .i64 A, .int .i64 B], .agg #[.slice (some ⟨g, 0, none⟩) 1 k, .int .i64 c]]) ?_ rfl ⟨_, rfl, ?_, ?_⟩
              · obtain ⟨h1, h2⟩ := Prod.mk.inj HR.out
                obtain ⟨rfl, rfl⟩ := Prod.mk.inj h1
                simp [results, Tryz.results32, go_sem, Z0, Z1, Y0, Y1]
              · rw [← (Prod.mk.inj HR.out).2]
                repeat (first | refine RErr.drewW ?_ | refine RErr.set ?_ HN1.out | refine RErr.set ?_ HN2.out)
                exact HV3.out
              · rw [hq]
                repeat (first | refine Below.drew ?_ | refine Below.setCell ?_ (by first | exact Nat.le_refl _ | exact Nat.le_succ _) _)
                exact K3.out.a.b
          | none =>
            obtain rfl : v = .agg #[.slice none 0 0, .int .i64 0] := HV.out
            go_upto_region 11 with fail
            obtain ⟨C, hC⟩ : ∃ C, W1.heap.size = C := ⟨_, rfl⟩
            obtain ⟨W2, hW2⟩ : ∃ W2, (W1.alloc (.cells #[.int .i64 F1, .int .i64 L1] 66)).alloc (.cells #[.slice none 0 0, .int .i64 0] 35) = W2 := ⟨_, rfl⟩
            obtain ⟨b2, r2, s2⟩ := two_al W1 F1 L1 _ hW2
            have hlt : q + 2 < C := hC ▸ K1.out.s.lt
            have K2 : Hid (A3 w W2 q (-4611686018427387904) 4611686018427387904) := K1.out.on b2
            rw [hC] at s2 r2
            rw [hW2, hC]
            have HR2 : Hid _ := r2
            have e0 : W2.cell? ⟨C + 1, 0, none⟩ = some (.slice none 0 0) := s2.cell (i := 0) (by simp)
            have e1 : W2.cell? ⟨C + 1, 1, none⟩ = some (.int .i64 0) := s2.cell (i := 1) (by simp)
            clear b2 r2 s2 HA2 HV K1 hW2
            have c11 := fun W => any_none W
            go_wp2_with (go_at_call 28; refine Stop.mk ?_)
            refine Stop.out ((c11 _).mono ?_)
            rintro e W3 ⟨rfl, hb3⟩
            have K3 : Hid (A3 w W3 q (-4611686018427387904) 4611686018427387904) := K2.out.on hb3
            have R3 := row_on HR2.out hb3
            clear e0 e1 hb3 K2 HR2 c11
            have x0 : W3.cell? ⟨C, 0, none⟩ = some (.int .i64 F1) := R3.cell (i := 0) (by omega)
            have s0 : W3.cell? ⟨q + 2, 0, none⟩ = some (.int .i64 (-4611686018427387904)) := K3.out.s.cell (i := 0) (by omega)
            have sf := fun i => K3.out.s.frozen i
            have eO' : oF = none := eO.out
            have K4 : Hid (A3 w (W3.setCell ⟨q + 2, 0, none⟩ (.int .i64 F1)) q F 4611686018427387904) := by
              rw [eF.out]
              exact K3.out.put 0 F1 _ _ (.inl ⟨rfl, rfl, rfl⟩)
            clear R3 eO
            go_wp2
            go_meet
            case rel => exact ⟨by simp, by simp, by simp, by simp, eO', K4⟩
      case rest =>
      obtain ⟨rfl, rfl, rfl, rfl, hoF, K⟩ := hcut
      subst hoF
      have HA3 : Hid ((if d + 1 = s.size then ((F, (4611686018427387904 : Int)), (none : Option (Int × Int))) else if mvO (d + 1) o2 ≠ none then ((0, 0), mvO (d + 1) o2) else if L2 < F then ((0, 0), some (((d + 1 : Nat) : Int), 101)) else ((F, L2), none)) = ((A, B), o)) := by
        have := HA2.out
        rw [if_neg (by simp)] at this
        exact this
      clear HA2 HF HOo HCP KA
      by_cases he : d + 1 = s.size
      · have heI : ¬ ((d : Int) + 1 < (s.size : Int)) := by omega
        have HR : Hid (((F, (4611686018427387904 : Int)), (none : Option (Int × Int))) = ((A, B), o)) := by have := HA3.out; rw [if_pos he] at this; exact this
        have HE : Hid (d + 1 = s.size) := he
        have KD : Hid (A3 w wc.drew q F 4611686018427387904) := K.out.drew
        clear HA3 he HCQ HBd
        have S0 : wc.cell? ⟨q + 2, 0, none⟩ = some (.int .i64 F) := K.out.s.cell (i := 0) (by omega)
        have S1 : wc.cell? ⟨q + 2, 1, none⟩ = some (.int .i64 4611686018427387904) := K.out.s.cell (i := 1) (by omega)
        go_upto_region 21 with fail
        go_region_with (first | (go_at_call 27; refine (none34_any _).mono ?_; rintro e W9 ⟨rfl, hb9⟩; have K9 := KD.out.on hb9; have T0 : W9.cell? ⟨q + 2, 0, none⟩ = some (.int .i64 F) := K9.s.cell (i := 0) (by omega); have T1 : W9.cell? ⟨q + 2, 1, none⟩ = some (.int .i64 4611686018427387904) := K9.s.cell (i := 1) (by omega); have Z0 : W9.cell? ⟨q, 0, none⟩ = some (.int .i64 0) := K9.a.zr.cell (i := 0) (by omega); have Z1 : W9.cell? ⟨q, 1, none⟩ = some (.int .i64 0) := K9.a.zr.cell (i := 1) (by omega); have Y0 : W9.cell? ⟨q + 1, 0, none⟩ = some (.slice none 0 0) := K9.a.ze.cell (i := 0) (by omega); have Y1 : W9.cell? ⟨q + 1, 1, none⟩ = some (.int .i64 0) := K9.a.ze.cell (i := 1) (by omega); have zf := fun i => K9.a.zr.frozen i; have yf := fun i => K9.a.ze.frozen i) | fail)
        all_goals
          go_wp2
          refine bodyPost_ret (v := .tuple #[.agg #[.int .i64 A, .int .i64 B], .agg #[.slice none 0 0, .int .i64 0]]) ?_ rfl ⟨_, rfl, ?_, ?_⟩
          · obtain ⟨h1, h2⟩ := Prod.mk.inj HR.out
            obtain ⟨rfl, rfl⟩ := Prod.mk.inj h1
            simp [results, Tryz.results32, go_sem, Z0, Z1, Y0, Y1]
          · rw [← (Prod.mk.inj HR.out).2]; rfl
          · rw [hq]
            repeat (first | refine Below.drew ?_ | refine Below.setCell ?_ (by first | exact Nat.le_refl _ | exact Nat.le_succ _) _)
            exact K9.a.b
      · have heI : (d : Int) + 1 < (s.size : Int) := by omega
        have HA4 : Hid ((if mvO (d + 1) o2 ≠ none then ((0, 0), mvO (d + 1) o2) else if L2 < F then ((0, 0), some (((d + 1 : Nat) : Int), 101)) else ((F, L2), none)) = ((A, B), o)) := by have := HA3.out; rw [if_neg he] at this; exact this
        have HE : Hid (¬ d + 1 = s.size) := he
        have c := HCQ.out wc
        have HQ : Hid _ := eQ
        clear HA3 he HCQ eQ
        go_wp2_with (go_at_call 50; refine Stop.mk ?_)
        rw [HQ.out]
        refine Stop.out (c.mono ?_)
        rintro e W1 ⟨v, rfl, hvv, hb⟩
        have K1 : Hid (A3 w W1 q F 4611686018427387904) := K.out.on hb
        have HV : Hid (RErr W1 v o2) := hvv
        clear hb K c hvv
        cases o2 with
        | some x =>
          obtain ⟨a, c⟩ := x
          obtain ⟨g, k, rfl, _, _⟩ := HV.out
          have hbd := HBd.out a c rfl
          have HR : Hid ((((0 : Int), (0 : Int)), some (a + ((d + 1 : Nat) : Int), c)) = ((A, B), o)) := by
            have := HA4.out
            rw [if_pos (by simp [mvO])] at this
            exact this
          go_upto_region 16 with fail
          obtain ⟨C, hC⟩ : ∃ C, W1.heap.size = C := ⟨_, rfl⟩
          obtain ⟨W2, hW2⟩ : ∃ W2, (W1.alloc (.cells #[.int .i64 F2, .int .i64 L2] 66)).alloc (.cells #[.slice (some ⟨g, 0, none⟩) 1 k, .int .i64 c] 35) = W2 := ⟨_, rfl⟩
          obtain ⟨b2, r2, s2⟩ := two_al W1 F2 L2 _ hW2
          have hlt : q + 2 < C := hC ▸ K1.out.s.lt
          have K2 : Hid (A3 w W2 q F 4611686018427387904) := K1.out.on b2
          have HV2 : Hid (RErr W2 _ (some (a, c))) := HV.out.next b2
          rw [hC] at s2
          rw [hW2, hC]
          have HS2 : Hid _ := s2
          have e0 : W2.cell? ⟨C + 1, 0, none⟩ = some (.slice (some ⟨g, 0, none⟩) 1 k) := s2.cell (i := 0) (by simp)
          have e1 : W2.cell? ⟨C + 1, 1, none⟩ = some (.int .i64 c) := s2.cell (i := 1) (by simp)
          clear b2 r2 s2 HA4 HV K1 hW2
          have c11 := fun W => any_some W g k c
          go_wp2_with (go_at_call 28; refine Stop.mk ?_)
          refine Stop.out ((c11 _).mono ?_)
          rintro e W3 ⟨rfl, hb3⟩
          have K3 : Hid (A3 w W3 q F 4611686018427387904) := K2.out.on hb3
          have HV3 : Hid (RErr W3 (.agg #[.slice (some ⟨g, 0, none⟩) 1 k, .int .i64 c]) (some (a, c))) := HV2.out.next hb3
          have HS3 := row_on HS2.out hb3
          clear e0 e1 hb3 K2 HV2 HS2 c11
          have e0 : W3.cell? ⟨C + 1, 0, none⟩ = some (.slice (some ⟨g, 0, none⟩) 1 k) := HS3.cell (i := 0) (by simp)
          have e1 : W3.cell? ⟨C + 1, 1, none⟩ = some (.int .i64 c) := HS3.cell (i := 1) (by simp)
          clear HS3
          have cM := moved_any W3 _ a c (d + 1) HV3.out hbd.1 hbd.2 (by omega)
          have ed : ((d + 1 : Nat) : Int) = (d : Int) + 1 := by omega
          rw [ed] at cM
          go_wp2_with (go_at_call 55; refine Stop.mk ?_)
          refine Stop.out (cM.mono ?_)
          rintro e W4 ⟨v4, rfl, hv4, hb4⟩
          have K4 : Hid (A3 w W4 q F 4611686018427387904) := K3.out.on hb4
          have HV4 : Hid (RErr W4 v4 (some (a + ((d : Int) + 1), c))) := hv4
          clear hb4 K3 cM HV3 e0 e1
          obtain ⟨g4, k4, rfl, _, _⟩ := hv4
          have Z0 : W4.cell? ⟨q, 0, none⟩ = some (.int .i64 0) := K4.out.a.zr.cell (i := 0) (by omega)
          have Z1 : W4.cell? ⟨q, 1, none⟩ = some (.int .i64 0) := K4.out.a.zr.cell (i := 1) (by omega)
          have Y0 : W4.cell? ⟨q + 1, 0, none⟩ = some (.slice none 0 0) := K4.out.a.ze.cell (i := 0) (by omega)
          have Y1 : W4.cell? ⟨q + 1, 1, none⟩ = some (.int .i64 0) := K4.out.a.ze.cell (i := 1) (by omega)
          have zf := fun i => K4.out.a.zr.frozen i
          have yf := fun i => K4.out.a.ze.frozen i
          go_wp2
          refine bodyPost_ret (v := .tuple #[.agg #[.int .i64 A, .int .i64 B], .agg #[.slice (some ⟨g4, 0, none⟩) 1 k4, .int .i64 c]]) ?_ rfl ⟨_, rfl, ?_, ?_⟩
          · obtain ⟨h1, h2⟩ := Prod.mk.inj HR.out
            obtain ⟨rfl, rfl⟩ := Prod.mk.inj h1
            simp [results, Tryz.results32, go_sem, Z0, Z1, Y0, Y1]
          · rw [← (Prod.mk.inj HR.out).2, ed]
            exact (K4.out.a.fin HV4.out Z0 Y0 _ _ _ _).1
          · rw [hq]
            exact (K4.out.a.fin HV4.out Z0 Y0 _ _ _ _).2
        | none =>
          obtain rfl : v = .agg #[.slice none 0 0, .int .i64 0] := HV.out
          have HA5 : Hid ((if L2 < F then (((0 : Int), (0 : Int)), some (((d + 1 : Nat) : Int), (101 : Int))) else ((F, L2), none)) = ((A, B), o)) := by
            have := HA4.out
            rw [if_neg (by simp [mvO])] at this
            exact this
          go_upto_region 16 with fail
          obtain ⟨C, hC⟩ : ∃ C, W1.heap.size = C := ⟨_, rfl⟩
          obtain ⟨W2, hW2⟩ : ∃ W2, (W1.alloc (.cells #[.int .i64 F2, .int .i64 L2] 66)).alloc (.cells #[.slice none 0 0, .int .i64 0] 35) = W2 := ⟨_, rfl⟩
          obtain ⟨b2, r2, s2⟩ := two_al W1 F2 L2 _ hW2
          have hlt : q + 2 < C := hC ▸ K1.out.s.lt
          have K2 : Hid (A3 w W2 q F 4611686018427387904) := K1.out.on b2
          rw [hC] at s2 r2
          rw [hW2, hC]
          have HR2 : Hid _ := r2
          have e0 : W2.cell? ⟨C + 1, 0, none⟩ = some (.slice none 0 0) := s2.cell (i := 0) (by simp)
          have e1 : W2.cell? ⟨C + 1, 1, none⟩ = some (.int .i64 0) := s2.cell (i := 1) (by simp)
          clear b2 r2 s2 HA4 HV K1 hW2
          have c11 := fun W => any_none W
          go_wp2_with (go_at_call 28; refine Stop.mk ?_)
          refine Stop.out ((c11 _).mono ?_)
          rintro e W3 ⟨rfl, hb3⟩
          have K3 : Hid (A3 w W3 q F 4611686018427387904) := K2.out.on hb3
          have R3 : Hid (W3.rowIs C 66 2 (f2I F2 L2)) := row_on HR2.out hb3
          clear e0 e1 hb3 K2 HR2 c11
          have x1 : W3.cell? ⟨C, 1, none⟩ = some (.int .i64 L2) := R3.out.cell (i := 1) (by omega)
          have s0 : W3.cell? ⟨q + 2, 0, none⟩ = some (.int .i64 F) := K3.out.s.cell (i := 0) (by omega)
          have s1 : W3.cell? ⟨q + 2, 1, none⟩ = some (.int .i64 4611686018427387904) := K3.out.s.cell (i := 1) (by omega)
          have sf := fun i => K3.out.s.frozen i
          have hCq : C ≠ q + 2 := by omega
          have K4 : Hid (A3 w (W3.setCell ⟨q + 2, 1, none⟩ (.int .i64 L2)) q F L2) := K3.out.put 1 L2 _ _ (.inr ⟨rfl, rfl, rfl⟩)
          have R4 : Hid ((W3.setCell ⟨q + 2, 1, none⟩ (.int .i64 L2)).rowIs C 66 2 (f2I F2 L2)) := R3.out.setOther hCq _
          clear R3
          go_upto_region 19 with fail
          generalize W3.setCell ⟨q + 2, 1, none⟩ (.int .i64 L2) = W5 at *
          clear x1 s0 s1 sf K3
          have x1 : W5.cell? ⟨C, 1, none⟩ = some (.int .i64 L2) := R4.out.cell (i := 1) (by omega)
          have S0 : W5.cell? ⟨q + 2, 0, none⟩ = some (.int .i64 F) := K4.out.s.cell (i := 0) (by omega)
          have S1 : W5.cell? ⟨q + 2, 1, none⟩ = some (.int .i64 L2) := K4.out.s.cell (i := 1) (by omega)
          by_cases hl : L2 < F
          · have HR : Hid ((((0 : Int), (0 : Int)), some (((d + 1 : Nat) : Int), (101 : Int))) = ((A, B), o)) := by have := HA5.out; rw [if_pos hl] at this; exact this
            have cN := fun W => no_any ((d : Int) + 1) 101 W
            have ed : ((d + 1 : Nat) : Int) = (d : Int) + 1 := by omega
            clear HA5 R4
            go_wp2_with (go_at_call 31; refine Stop.mk ?_)
            refine Stop.out ((cN _).mono ?_)
            rintro e W6 ⟨v6, rfl, hv6, hb6⟩
            have K6 : Hid (A3 w W6 q F L2) := K4.out.on hb6
            have HV6 : Hid (RErr W6 v6 (some ((d : Int) + 1, 101))) := hv6
            clear hb6 K4 cN x1 S0 S1
            obtain ⟨g6, k6, rfl, _, _⟩ := hv6
            have Z0 : W6.cell? ⟨q, 0, none⟩ = some (.int .i64 0) := K6.out.a.zr.cell (i := 0) (by omega)
            have Z1 : W6.cell? ⟨q, 1, none⟩ = some (.int .i64 0) := K6.out.a.zr.cell (i := 1) (by omega)
            have Y0 : W6.cell? ⟨q + 1, 0, none⟩ = some (.slice none 0 0) := K6.out.a.ze.cell (i := 0) (by omega)
            have Y1 : W6.cell? ⟨q + 1, 1, none⟩ = some (.int .i64 0) := K6.out.a.ze.cell (i := 1) (by omega)
            have zf := fun i => K6.out.a.zr.frozen i
            have yf := fun i => K6.out.a.ze.frozen i
            go_wp2
            refine bodyPost_ret (v := .tuple #[.agg #[.int .i64 A, .int .i64 B], .agg #[.slice (some ⟨g6, 0, none⟩) 1 k6, .int .i64 101]]) ?_ rfl ⟨_, rfl, ?_, ?_⟩
            · obtain ⟨h1, h2⟩ := Prod.mk.inj HR.out
              obtain ⟨rfl, rfl⟩ := Prod.mk.inj h1
              simp [results, Tryz.results32, go_sem, Z0, Z1, Y0, Y1]
            · rw [← (Prod.mk.inj HR.out).2, ed]
              exact (K6.out.a.fin HV6.out Z0 Y0 _ _ _ _).1
            · rw [hq]
              exact (K6.out.a.fin HV6.out Z0 Y0 _ _ _ _).2
          · have HR : Hid (((F, L2), (none : Option (Int × Int))) = ((A, B), o)) := by have := HA5.out; rw [if_neg hl] at this; exact this
            have KD : Hid (A3 w W5.drew q F L2) := K4.out.drew
            clear HA5 R4
            go_upto_region 21 with fail
            clear x1
            go_region_with (first | (go_at_call 27; refine (none34_any _).mono ?_; rintro e W9 ⟨rfl, hb9⟩; have K9 := KD.out.on hb9; have T0 : W9.cell? ⟨q + 2, 0, none⟩ = some (.int .i64 F) := K9.s.cell (i := 0) (by omega); have T1 : W9.cell? ⟨q + 2, 1, none⟩ = some (.int .i64 L2) := K9.s.cell (i := 1) (by omega); have Z0 : W9.cell? ⟨q, 0, none⟩ = some (.int .i64 0) := K9.a.zr.cell (i := 0) (by omega); have Z1 : W9.cell? ⟨q, 1, none⟩ = some (.int .i64 0) := K9.a.zr.cell (i := 1) (by omega); have Y0 : W9.cell? ⟨q + 1, 0, none⟩ = some (.slice none 0 0) := K9.a.ze.cell (i := 0) (by omega); have Y1 : W9.cell? ⟨q + 1, 1, none⟩ = some (.int .i64 0) := K9.a.ze.cell (i := 1) (by omega); have zf := fun i => K9.a.zr.frozen i; have yf := fun i => K9.a.ze.frozen i) | fail)
            all_goals
              go_wp2
              refine bodyPost_ret (v := .tuple #[.agg #[.int .i64 A, .int .i64 B], .agg #[.slice none 0 0, .int .i64 0]]) ?_ rfl ⟨_, rfl, ?_, ?_⟩
              · obtain ⟨h1, h2⟩ := Prod.mk.inj HR.out
                obtain ⟨rfl, rfl⟩ := Prod.mk.inj h1
                simp [results, Tryz.results32, go_sem, Z0, Z1, Y0, Y1]
              · rw [← (Prod.mk.inj HR.out).2]; rfl
              · rw [hq]
                repeat (first | refine Below.drew ?_ | refine Below.setCell ?_ (by first | exact Nat.le_refl _ | exact Nat.le_succ _) _)
                exact K9.a.b
end Go.Proofs.YtehgeninocbpeaaGreatDoor.Tm
