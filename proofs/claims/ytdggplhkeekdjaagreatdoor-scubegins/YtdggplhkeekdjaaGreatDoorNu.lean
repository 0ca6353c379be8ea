import Derived.Test.YtdggplhkeekdjaaGreatDoorNv
/-
  DERIVED. The document's New.
-/
namespace Go.Proofs.YtdggplhkeekdjaaGreatDoor.Ck
open Go Go.Proofs Go.RowKit

set_option maxRecDepth 100000 in
set_option maxHeartbeats 8000000 in
theorem rnew_any (w : World) (t c : ByteArray) (ao bo : Option Addr) (n cp m dp : Nat) (mo ar : Int) (T : List ByteArray) (l : List Int) (hn : T.length = n) (hm : l.length = m) (hT : TxD w ao T) (hl : IxD w bo l)
    (hN : n * 16 ≤ 140737488355328) (hM : m * 8 ≤ 140737488355328) (ht : t.size ≤ 140737488351232) (hc : c.size ≤ 140737488351232) (hz : ∀ p ∈ T, p.size ≤ 140737488351232) :
    Calls Tryz.prog 10 #[.agg #[.string t, .string c, .slice ao n cp, .slice bo m dp, .int .u32 mo, .int .i64 ar]] w (RNewP w (wsO (tlB t) (tlB c) (csB T) (ssB l) mo ar)) := by
  have HT : Hid (TxD w ao T ∧ T.length = n ∧ n * 16 ≤ 140737488355328 ∧ ∀ p ∈ T, p.size ≤ 140737488351232) := ⟨hT, hn, hN, hz⟩
  have HL : Hid (IxD w bo l ∧ l.length = m ∧ m * 8 ≤ 140737488355328) := ⟨hl, hm, hM⟩
  have HS : Hid (t.size ≤ 140737488351232 ∧ c.size ≤ 140737488351232) := ⟨ht, hc⟩
  obtain ⟨W0, hW0⟩ : ∃ W0, (w.alloc (.cells #[.string t, .string c, .slice ao n cp, .slice bo m dp, .int .u32 mo, .int .i64 ar] 26)).alloc (.cells #[.slice none 0 0, .int .i64 0] 45) = W0 := ⟨_, rfl⟩
  have HD : Hid (DI w W0 #[.string t, .string c, .slice ao n cp, .slice bo m dp, .int .u32 mo, .int .i64 ar]) := by
    subst hW0
    refine ⟨(Bk.new _ _ _).alloc _, ?_, ((Below.refl _ _).alloc (Nat.le_refl _) _).alloc (by simp) _⟩
    have := Rz.new (w.alloc (.cells #[.string t, .string c, .slice ao n cp, .slice bo m dp, .int .u32 mo, .int .i64 ar] 26))
    rw [Wk.size_alloc] at this
    exact this
  obtain ⟨O, hO⟩ : ∃ O, wsO (tlB t) (tlB c) (csB T) (ssB l) mo ar = O := ⟨_, rfl⟩
  have HO : Hid (wsO (tlB t) (tlB c) (csB T) (ssB l) mo ar = O) := hO
  rw [hO]
  unfold wsO at HO
  have ct := title_any W0 t ht
  have cc := title_any W0 c hc
  have z0 := HD.out.k.cell (i := 0) (v := .string t) rfl
  have z1 := HD.out.k.cell (i := 1) (v := .string c) rfl
  have z2 := HD.out.k.cell (i := 2) (v := .slice ao n cp) rfl
  have z3 := HD.out.k.cell (i := 3) (v := .slice bo m dp) rfl
  clear hn hm hT hl hN hM ht hc hz hO
  generalize tlB t = a1 at *
  generalize tlB c = a2 at *
  have HCt : Hid (Calls Tryz.prog 21 #[.string t] W0 fun e w' => e = .returned (.bool a1) ∧ W0 = w') := ct
  have HCc : Hid (Calls Tryz.prog 21 #[.string c] W0 fun e w' => e = .returned (.bool a2) ∧ W0 = w') := cc
  clear ct cc
  go_enter Tryz.func10, Tryz.ntmps10
  go_wp2_with (go_at_call 21; refine Stop.mk ?_)
  refine Stop.out (HCt.out.mono ?_)
  rintro e W1 ⟨rfl, rfl⟩
  clear HCt hW0
  obtain ⟨r0, r1, rf⟩ := HD.out.r
  cases a1 with
  | false =>
    obtain rfl : O = some 0 := by have := HO.out; rw [if_pos rfl] at this; exact this.symm
    go_wp2_with (go_at_call 22; refine Stop.mk ?_)
    refine Stop.out ((cno_any _ 0 340).mono ?_)
    rintro e W2 ⟨g, rfl, hg, hl, hb⟩
    have HF : Hid _ := told_fault HD.out hg hl hb (.slice (some ⟨g, 0, none⟩) 1 1) (.int .i64 340)
    obtain ⟨s0, s1, sf⟩ := HD.out.r.on hb
    clear hg hl hb r0 r1 rf z0 z1 z2 z3
    go_wp2
    exact bodyPost_ret (v := .tuple #[.pointer none, .agg #[.slice (some ⟨g, 0, none⟩) 1 1, .int .i64 340]]) (by simp [results, Tryz.results10, go_sem, s0, s1]) rfl ⟨⟨g, rfl, HF.out.1, HF.out.2.2⟩, HF.out.2.1⟩
  | true =>
    rw [if_neg (by decide)] at HO
    go_wp2_with (go_at_call 21; refine Stop.mk ?_)
    refine Stop.out (HCc.out.mono ?_)
    rintro e W1 ⟨rfl, rfl⟩
    clear HCc
    cases a2 with
    | false =>
      obtain rfl : O = some 1 := by have := HO.out; rw [if_pos rfl] at this; exact this.symm
      go_wp2_with (go_at_call 22; refine Stop.mk ?_)
      refine Stop.out ((cno_any _ 1 340).mono ?_)
      rintro e W2 ⟨g, rfl, hg, hl, hb⟩
      have HF : Hid _ := told_fault HD.out hg hl hb (.slice (some ⟨g, 0, none⟩) 1 1) (.int .i64 340)
      obtain ⟨s0, s1, sf⟩ := HD.out.r.on hb
      clear hg hl hb r0 r1 rf z0 z1 z2 z3
      go_wp2
      exact bodyPost_ret (v := .tuple #[.pointer none, .agg #[.slice (some ⟨g, 0, none⟩) 1 1, .int .i64 340]]) (by simp [results, Tryz.results10, go_sem, s0, s1]) rfl ⟨⟨g, rfl, HF.out.1, HF.out.2.2⟩, HF.out.2.1⟩
    | true =>
      rw [if_neg (by decide)] at HO
      go_upto_region 5 with fail
      obtain ⟨b0, hb0⟩ : ∃ b0 : Bool, (decide (n < 1) || decide (128 < n)) = b0 := ⟨_, rfl⟩
      obtain ⟨R, hR⟩ : ∃ R : Bool, csB T = !R := ⟨!csB T, by simp⟩
      have HR : Hid ((b0 || !(T.drop 0).all clB) = R) := by
        show (b0 || !(T.drop 0).all clB) = R
        rw [← hb0, cs_out T n HT.out.2.1, hR, Bool.not_not]
      rw [hR] at HO
      clear hR
      have HC0 : Hid (W0.heap.size = W0.heap.size) := rfl
      go_cut [4] from 23 (fun s4 wx => s4 = .bool b0 ∧ wx = W0)
      case first =>
        by_cases h1 : n < 1
        · have i1 : (n : Int) < 1 := by omega
          obtain rfl : true = b0 := by rw [← hb0, decide_eq_true h1]; rfl
          go_wp2_with fail
          go_meet
          case rel => exact ⟨rfl, rfl⟩
        have i1 : ¬ ((n : Int) < 1) := by omega
        by_cases h2 : 128 < n
        · have i2 : (n : Int) > 128 := by omega
          obtain rfl : true = b0 := by rw [← hb0, decide_eq_true h2, Bool.or_true]
          go_wp2_with fail
          go_meet
          case rel => exact ⟨rfl, rfl⟩
        have i2 : ¬ ((n : Int) > 128) := by omega
        obtain rfl : false = b0 := by rw [← hb0, decide_eq_false h1, decide_eq_false h2]; rfl
        go_wp2_with fail
        go_meet
        case rel => exact ⟨rfl, rfl⟩
      case rest =>
      obtain ⟨rfl, hw⟩ := hcut
      subst hw
      clear hb0 HC0
      go_wp2
      clear r0 r1 rf z0 z1 z2 z3
      have hnb : n ≤ 140737488355328 := by have := HT.out.2.2.1; omega
      go_loopg [4, 5] n (fun k s4 s5 wx => ∃ (i : Nat) (bi : Bool), s4 = .bool bi ∧ s5 = .int .i64 (i : Int) ∧ i ≤ n ∧ k + i = n ∧ Hid ((bi || !(T.drop i).all clB) = R) ∧ Hid (DI w wx #[.string t, .string c, .slice ao n cp, .slice bo m dp, .int .u32 mo, .int .i64 ar]))
      case atStart => exact ⟨0, b0, rfl, rfl, by omega, by omega, HR, HD⟩
      case round =>
        clear HR HD
        obtain ⟨i, bi, rfl, rfl, hi, hg, HI, HD⟩ := hrel
        have z2 := HD.out.k.cell (i := 2) (v := .slice ao n cp) rfl
        by_cases hlt : i < n
        · have iI : (i : Int) < (n : Int) := by omega
          clear HO
          cases bi with
          | true =>
            have HI2 : Hid ((true || !(T.drop (i + 1)).all clB) = R) := by have := HI.out; rw [Bool.true_or] at this ⊢; exact this
            clear HI
            go_wp2
            go_roundg (n - (i + 1))
            case measure => omega
            case rel => exact ⟨i + 1, true, rfl, by simp, by omega, by omega, HI2, HD⟩
          | false =>
            have hlx : i < T.length := by have := HT.out.2.1; omega
            obtain ⟨u, hu⟩ : ∃ u, T[i] = u := ⟨_, rfl⟩
            obtain ⟨g, o, hao, cl⟩ := (HT.out.1.on HD.out.b) i hlx
            rw [hu] at cl
            have hsz : u.size ≤ 140737488351232 := HT.out.2.2.2 u (by rw [← hu]; exact List.getElem_mem hlx)
            have HI2 : Hid ((!(!u.toList.isEmpty && (ckK 23 u).isNone) || !(T.drop (i + 1)).all clB) = R) := by
              have := HI.out
              rw [List.drop_eq_getElem_cons hlx, List.all_cons, hu, Bool.false_or, Bool.not_and] at this
              exact this
            have HU : Hid (u.size ≤ 140737488351232) := hsz
            clear HI hlx hu hsz
            rw [hao] at z2
            clear hao
            cases h2 : u.toList.isEmpty with
            | true =>
              have HI3 : Hid ((true || !(T.drop (i + 1)).all clB) = R) := by have := HI2.out; rw [h2] at this; exact this
              clear HI2
              go_wp2
              go_roundg (n - (i + 1))
              case measure => omega
              case rel => exact ⟨i + 1, true, rfl, by simp, by omega, by omega, HI3, HD⟩
            | false =>
              have HI3 : Hid ((!(ckK 23 u).isNone || !(T.drop (i + 1)).all clB) = R) := by have := HI2.out; rw [h2] at this; exact this
              clear HI2
              go_wp2_with (go_at_call 24; refine Stop.mk ?_)
              refine Stop.out ((rcheck_any _ 23 u HU.out).mono ?_)
              rintro e W2 ⟨r, rfl, hr, hb2⟩
              have HC : Hid (Calls Tryz.prog 23 #[r] W2 fun e w' => e = .returned (.bool (!(ckK 23 u).isNone)) ∧ Below W2.heap.size W2 w') := any_ck W2 23 u r hr
              have HD2 : Hid (DI w W2 #[.string t, .string c, .slice ao n cp, .slice bo m dp, .int .u32 mo, .int .i64 ar]) := HD.out.on hb2
              generalize (!(ckK 23 u).isNone) = K at *
              clear hr hb2 HD cl z2
              go_wp2_with (go_at_call 23; refine Stop.mk ?_)
              refine Stop.out (HC.out.mono ?_)
              rintro e W3 ⟨rfl, hb3⟩
              have HD3 : Hid (DI w W3 #[.string t, .string c, .slice ao n cp, .slice bo m dp, .int .u32 mo, .int .i64 ar]) := HD2.out.on hb3
              clear hb3 HD2 HC
              go_wp2
              go_roundg (n - (i + 1))
              case measure => omega
              case rel => exact ⟨i + 1, K, rfl, by simp, by omega, by omega, HI3, HD3⟩
        · have iI : ¬ ((i : Int) < (n : Int)) := by omega
          obtain rfl : bi = R := by
            have := HI.out
            rw [List.drop_eq_nil_of_le (by have := HT.out.2.1; omega)] at this
            simpa using this
          clear HI
          cases bi with
          | true =>
            rw [show (!true) = false from rfl, if_pos rfl] at HO
            obtain rfl : O = some 2 := HO.out.symm
            go_wp2_with (go_at_call 22; refine Stop.mk ?_)
            refine Stop.out ((cno_any _ 2 340).mono ?_)
            rintro e W2 ⟨g, rfl, hg, hl, hb⟩
            have HF : Hid _ := told_fault HD.out hg hl hb (.slice (some ⟨g, 0, none⟩) 1 1) (.int .i64 340)
            obtain ⟨s0, s1, sf⟩ := HD.out.r.on hb
            clear hg hl hb z2
            go_wp2
            exact bodyPost_ret (v := .tuple #[.pointer none, .agg #[.slice (some ⟨g, 0, none⟩) 1 1, .int .i64 340]]) (by simp [results, Tryz.results10, go_sem, s0, s1]) rfl ⟨⟨g, rfl, HF.out.1, HF.out.2.2⟩, HF.out.2.1⟩
          | false =>
            rw [show (!false) = true from rfl, if_neg (by decide)] at HO
            have z3 := HD.out.k.cell (i := 3) (v := .slice bo m dp) rfl
            go_upto_region 12 with fail
            obtain ⟨b2, hb2⟩ : ∃ b2 : Bool, (decide (m < 1) || decide (2 < m)) = b2 := ⟨_, rfl⟩
            obtain ⟨R2, hR2⟩ : ∃ R2 : Bool, ssB l = !R2 := ⟨!ssB l, by simp⟩
            have HR2 : Hid ((b2 || syG l m 0) = R2) := by
              show (b2 || syG l m 0) = R2
              rw [← hb2, sy_out l m HL.out.2.1, hR2, Bool.not_not]
            rw [hR2] at HO
            clear hR2
            go_cut [4] from 60 (fun s4 wx => s4 = .bool b2 ∧ wx = wr)
            case first =>
              by_cases h1 : m < 1
              · have i1 : (m : Int) < 1 := by omega
                obtain rfl : true = b2 := by rw [← hb2, decide_eq_true h1]; rfl
                go_wp2_with fail
                go_meet
                case rel => exact ⟨rfl, rfl⟩
              have i1 : ¬ ((m : Int) < 1) := by omega
              by_cases h2 : 2 < m
              · have i2 : (m : Int) > 2 := by omega
                obtain rfl : true = b2 := by rw [← hb2, decide_eq_true h2, Bool.or_true]
                go_wp2_with fail
                go_meet
                case rel => exact ⟨rfl, rfl⟩
              have i2 : ¬ ((m : Int) > 2) := by omega
              obtain rfl : false = b2 := by rw [← hb2, decide_eq_false h1, decide_eq_false h2]; rfl
              go_wp2_with fail
              go_meet
              case rel => exact ⟨rfl, rfl⟩
            case rest =>
            obtain ⟨rfl, hw⟩ := hcut
            subst hw
            clear hb2
            go_wp2
            clear z2 z3
            have hmb : m ≤ 140737488355328 := by have := HL.out.2.2; omega
            go_loopg [4, 6] m (fun k s4 s6 wx => ∃ (i : Nat) (bi : Bool), s4 = .bool bi ∧ s6 = .int .i64 (i : Int) ∧ i ≤ m ∧ k + i = m ∧ Hid ((bi || syG l (m - i) i) = R2) ∧ Hid (DI w wx #[.string t, .string c, .slice ao n cp, .slice bo m dp, .int .u32 mo, .int .i64 ar]))
            case atStart => exact ⟨0, b2, rfl, rfl, by omega, by omega, HR2, HD⟩
            case round =>
              clear HR2 HD
              obtain ⟨i, bi, rfl, rfl, hi, hg, HI, HD⟩ := hrel
              have z3 := HD.out.k.cell (i := 3) (v := .slice bo m dp) rfl
              by_cases hlt : i < m
              · have iI : (i : Int) < (m : Int) := by omega
                clear HO
                cases bi with
                | true =>
                  have HI2 : Hid ((true || syG l (m - (i + 1)) (i + 1)) = R2) := by have := HI.out; rw [Bool.true_or] at this ⊢; exact this
                  clear HI
                  go_wp2
                  go_quiet (fail)
                  go_wp2
                  go_roundg (m - (i + 1))
                  case measure => omega
                  case rel => exact ⟨i + 1, true, rfl, by simp, by omega, by omega, HI2, HD.out.on (drewN_b _ _)⟩
                | false =>
                  have hlx : i < l.length := by have := HL.out.2.1; omega
                  have hl0 : 0 < l.length := by omega
                  obtain ⟨x, hx⟩ : ∃ x, l[i] = x := ⟨_, rfl⟩
                  obtain ⟨y, hy⟩ : ∃ y, l[0] = y := ⟨_, rfl⟩
                  obtain ⟨g, o, hbo2, cl⟩ := (HL.out.1.on HD.out.b) i hlx
                  obtain ⟨g0, o0, hbo3, c0⟩ := (HL.out.1.on HD.out.b) 0 hl0
                  rw [hbo2] at hbo3 z3
                  obtain ⟨rfl, rfl⟩ : g = g0 ∧ o = o0 := by simpa using hbo3
                  rw [hx] at cl
                  rw [hy, Nat.add_zero] at c0
                  have HI2 : Hid (((!s12 x || (decide (0 < i) && (x == y))) || syG l (m - (i + 1)) (i + 1)) = R2) := by
                    have := HI.out
                    rw [show m - i = (m - (i + 1)) + 1 by omega, syG, Bool.false_or] at this
                    unfold syB at this
                    rw [show l.getD i 0 = x by simp [List.getD_eq_getElem?_getD, List.getElem?_eq_getElem hlx, hx], show l.getD 0 0 = y by simp [List.getD_eq_getElem?_getD, List.getElem?_eq_getElem hl0, hy]] at this
                    exact this
                  clear HI hlx hl0 hx hy hbo2 hbo3
                  by_cases hs : s12 x = true
                  · have HI3 : Hid (((decide (0 < i) && (x == y)) || syG l (m - (i + 1)) (i + 1)) = R2) := by have := HI2.out; rw [hs] at this; exact this
                    clear HI2
                    have hx12 : (x != 1) = false ∨ ((x != 1) = true ∧ (x != 2) = false) := by
                      unfold s12 at hs
                      by_cases h1 : x = 1
                      · exact .inl (by rw [h1]; rfl)
                      · refine .inr ⟨by simpa using h1, ?_⟩
                        rw [beq_eq_false_iff_ne.2 h1, Bool.false_or] at hs
                        rw [eq_of_beq hs]
                        rfl
                    clear hs
                    by_cases h0 : 0 < i
                    · have j0 : (i : Int) > 0 := by omega
                      have j1 : decide ((0 : Int) < (i : Int)) = true := decide_eq_true j0
                      have j2 : decide (0 < i) = true := decide_eq_true h0
                      have j3 : (0 : Int) < (m : Int) := by omega
                      have HI4 : Hid (((x == y) || syG l (m - (i + 1)) (i + 1)) = R2) := by have := HI3.out; rw [decide_eq_true h0] at this; exact this
                      clear HI3 h0
                      rcases hx12 with e1 | ⟨e1, e2⟩
                      · go_wp2
                        go_quiet (fail)
                        go_wp2
                        go_roundg (m - (i + 1))
                        case measure => omega
                        case rel => exact ⟨i + 1, x == y, rfl, by simp, by omega, by omega, HI4, HD.out.on (drewN_b _ _)⟩
                      · go_wp2
                        go_quiet (fail)
                        go_wp2
                        go_roundg (m - (i + 1))
                        case measure => omega
                        case rel => exact ⟨i + 1, x == y, rfl, by simp, by omega, by omega, HI4, HD.out.on (drewN_b _ _)⟩
                    · have j0 : ¬ ((i : Int) > 0) := by omega
                      have j1 : decide ((0 : Int) < (i : Int)) = false := decide_eq_false j0
                      have j2 : decide (0 < i) = false := decide_eq_false h0
                      have HI4 : Hid ((false || syG l (m - (i + 1)) (i + 1)) = R2) := by have := HI3.out; rw [decide_eq_false h0] at this; exact this
                      clear HI3 h0
                      rcases hx12 with e1 | ⟨e1, e2⟩
                      · go_wp2
                        go_quiet (fail)
                        go_wp2
                        go_roundg (m - (i + 1))
                        case measure => omega
                        case rel => exact ⟨i + 1, false, rfl, by simp, by omega, by omega, HI4, HD.out.on (drewN_b _ _)⟩
                      · go_wp2
                        go_quiet (fail)
                        go_wp2
                        go_roundg (m - (i + 1))
                        case measure => omega
                        case rel => exact ⟨i + 1, false, rfl, by simp, by omega, by omega, HI4, HD.out.on (drewN_b _ _)⟩
                  · have hs2 : s12 x = false := by simpa using hs
                    have HI3 : Hid ((true || syG l (m - (i + 1)) (i + 1)) = R2) := by have := HI2.out; rw [hs2] at this; exact this
                    have e1 : (x != 1) = true := by
                      unfold s12 at hs2
                      have := (Bool.or_eq_false_iff.1 hs2).1
                      rw [bne, this]
                      rfl
                    have e2 : (x != 2) = true := by
                      unfold s12 at hs2
                      have := (Bool.or_eq_false_iff.1 hs2).2
                      rw [bne, this]
                      rfl
                    clear HI2 hs hs2
                    go_wp2
                    go_quiet (fail)
                    go_wp2
                    go_roundg (m - (i + 1))
                    case measure => omega
                    case rel => exact ⟨i + 1, true, rfl, by simp, by omega, by omega, HI3, HD.out.on (drewN_b _ _)⟩
              · have iI : ¬ ((i : Int) < (m : Int)) := by omega
                obtain rfl : bi = R2 := by
                  have := HI.out
                  rw [show m - i = 0 by omega] at this
                  simpa [syG] using this
                clear HI
                cases bi with
                | true =>
                  rw [show (!true) = false from rfl, if_pos rfl] at HO
                  obtain rfl : O = some 3 := HO.out.symm
                  go_wp2_with (go_at_call 22; refine Stop.mk ?_)
                  refine Stop.out ((cno_any _ 3 340).mono ?_)
                  rintro e W2 ⟨g, rfl, hg, hl, hb⟩
                  have HF : Hid _ := told_fault HD.out hg hl hb (.slice (some ⟨g, 0, none⟩) 1 1) (.int .i64 340)
                  obtain ⟨s0, s1, sf⟩ := HD.out.r.on hb
                  clear hg hl hb z3
                  go_wp2
                  exact bodyPost_ret (v := .tuple #[.pointer none, .agg #[.slice (some ⟨g, 0, none⟩) 1 1, .int .i64 340]]) (by simp [results, Tryz.results10, go_sem, s0, s1]) rfl ⟨⟨g, rfl, HF.out.1, HF.out.2.2⟩, HF.out.2.1⟩
                | false =>
                  rw [show (!false) = true from rfl, if_neg (by decide)] at HO
                  have z4 := HD.out.k.cell (i := 4) (v := .int .u32 mo) rfl
                  go_upto_region 19 with fail
                  clear z3
                  obtain ⟨bm, hbm⟩ : ∃ bm : Bool, decide (mo ≠ 0 ∧ mo < 64) = bm := ⟨_, rfl⟩
                  go_cut [119] from 112 (fun s119 wx => s119 = .bool bm ∧ wx = wr)
                  case first =>
                    by_cases k0 : mo = 0
                    · have e0 : (mo != 0) = false := by rw [k0]; rfl
                      obtain rfl : false = bm := by rw [← hbm, decide_eq_false (fun x => x.1 k0)]
                      clear k0 hbm HO
                      go_wp2_with fail
                      go_meet
                      case rel => exact ⟨rfl, rfl⟩
                    have e0 : (mo != 0) = true := by simpa using k0
                    by_cases k1 : mo < 64
                    · obtain rfl : true = bm := by rw [← hbm, decide_eq_true ⟨k0, k1⟩]
                      clear k0 hbm HO
                      go_wp2_with fail
                      go_meet
                      case rel => exact ⟨rfl, rfl⟩
                    obtain rfl : false = bm := by rw [← hbm, decide_eq_false (fun x => k1 x.2)]
                    clear k0 hbm HO
                    go_wp2_with fail
                    go_meet
                    case rel => exact ⟨rfl, rfl⟩
                  case rest =>
                  obtain ⟨rfl, hw⟩ := hcut
                  subst hw
                  cases bm with
                  | true =>
                    obtain rfl : O = some 4 := by have := HO.out; rw [if_pos (of_decide_eq_true hbm)] at this; exact this.symm
                    clear hbm HO
                    go_wp2_with (go_at_call 22; refine Stop.mk ?_)
                    refine Stop.out ((cno_any _ 4 340).mono ?_)
                    rintro e W2 ⟨g, rfl, hg, hl, hb⟩
                    have HF : Hid _ := told_fault HD.out hg hl hb (.slice (some ⟨g, 0, none⟩) 1 1) (.int .i64 340)
                    obtain ⟨s0, s1, sf⟩ := HD.out.r.on hb
                    clear hg hl hb z4
                    go_wp2
                    exact bodyPost_ret (v := .tuple #[.pointer none, .agg #[.slice (some ⟨g, 0, none⟩) 1 1, .int .i64 340]]) (by simp [results, Tryz.results10, go_sem, s0, s1]) rfl ⟨⟨g, rfl, HF.out.1, HF.out.2.2⟩, HF.out.2.1⟩
                  | false =>
                    rw [if_neg (of_decide_eq_false hbm)] at HO
                    clear hbm
                    have z5 := HD.out.k.cell (i := 5) (v := .int .i64 ar) rfl
                    by_cases har : ar < 1 ∨ 1000 < ar
                    · obtain rfl : O = some 5 := by have := HO.out; rw [if_pos har] at this; exact this.symm
                      have HAR : Hid (ar < 1 ∨ 1000 < ar) := har
                      clear HO har z4
                      go_wp2_with (go_at_call 25; refine Stop.mk ?_)
                      refine Stop.out ((rupperNew_bad _ ar HAR.out).mono ?_)
                      rintro e W2 ⟨g5, rfl, hb⟩
                      have HD2 : Hid (DI w (W2.alloc (.cells #[.slice (some ⟨g5, 0, none⟩) 1 1, .int .i64 180] 45)) #[.string t, .string c, .slice ao n cp, .slice bo m dp, .int .u32 mo, .int .i64 ar]) := (HD.out.on hb).on ((Below.refl _ _).alloc (Nat.le_refl _) _)
                      clear hb z5 HD
                      go_wp2_with (go_at_call 23; refine Stop.mk ?_)
                      refine Stop.out ((any_yes _ g5 1 1 180 (by decide)).mono ?_)
                      rintro e W3 ⟨rfl, hb⟩
                      have HD : Hid (DI w W3 #[.string t, .string c, .slice ao n cp, .slice bo m dp, .int .u32 mo, .int .i64 ar]) := HD2.out.on hb
                      clear hb HD2
                      go_wp2_with (go_at_call 22; refine Stop.mk ?_)
                      refine Stop.out ((cno_any _ 5 340).mono ?_)
                      rintro e W4 ⟨g, rfl, hg, hl, hb⟩
                      have HF : Hid _ := told_fault HD.out hg hl hb (.slice (some ⟨g, 0, none⟩) 1 1) (.int .i64 340)
                      obtain ⟨s0, s1, sf⟩ := HD.out.r.on hb
                      clear hg hl hb
                      go_wp2
                      exact bodyPost_ret (v := .tuple #[.pointer none, .agg #[.slice (some ⟨g, 0, none⟩) 1 1, .int .i64 340]]) (by simp [results, Tryz.results10, go_sem, s0, s1]) rfl ⟨⟨g, rfl, HF.out.1, HF.out.2.2⟩, HF.out.2.1⟩
                    obtain rfl : O = none := by have := HO.out; rw [if_neg har] at this; exact this.symm
                    have HAR : Hid (1 ≤ ar ∧ ar ≤ 1000) := ⟨by omega, by omega⟩
                    clear HO har z4
                    go_wp2_with (go_at_call 25; refine Stop.mk ?_)
                    refine Stop.out ((rupperNew_ok _ ar HAR.out.1 HAR.out.2).mono ?_)
                    rintro e W2 ⟨rfl, -, hp1, hb⟩
                    have HD2 : Hid (DI w W2 #[.string t, .string c, .slice ao n cp, .slice bo m dp, .int .u32 mo, .int .i64 ar] ∧ W2.cell? ⟨wc.heap.size + 1, 1, none⟩ = some (.int .i64 1)) := ⟨HD.out.on hb, hp1⟩
                    have HP0 : Hid (w.heap.size + 1 < wc.heap.size + 1) := Nat.lt_succ_of_lt (clt HD.out.r.r0)
                    clear hb z5 HD hp1
                    generalize wc.heap.size + 1 = p at *
                    have HD3 : Hid (DI w (W2.alloc (.cells #[.slice none 0 0, .int .i64 0] 45)) #[.string t, .string c, .slice ao n cp, .slice bo m dp, .int .u32 mo, .int .i64 ar] ∧ (W2.alloc (.cells #[.slice none 0 0, .int .i64 0] 45)).cell? ⟨p, 1, none⟩ = some (.int .i64 1)) := by
                      have hb : Below W2.heap.size W2 (W2.alloc (.cells #[.slice none 0 0, .int .i64 0] 45)) := (Below.refl _ _).alloc (Nat.le_refl _) _
                      exact ⟨HD2.out.1.on hb, (hb.cell (clt HD2.out.2)).trans HD2.out.2⟩
                    clear HD2
                    go_wp2_with (go_at_call 23; refine Stop.mk ?_)
                    refine Stop.out ((any_no _).mono ?_)
                    rintro e W3 ⟨rfl, hb⟩
                    have HD : Hid (DI w W3 #[.string t, .string c, .slice ao n cp, .slice bo m dp, .int .u32 mo, .int .i64 ar] ∧ W3.cell? ⟨p, 1, none⟩ = some (.int .i64 1)) := ⟨HD3.out.1.on hb, (hb.cell (clt HD3.out.2)).trans HD3.out.2⟩
                    clear hb HD3
                    have z0 := HD.out.1.k.cell (i := 0) (v := .string t) rfl
                    have z1 := HD.out.1.k.cell (i := 1) (v := .string c) rfl
                    have z2 := HD.out.1.k.cell (i := 2) (v := .slice ao n cp) rfl
                    have z3 := HD.out.1.k.cell (i := 3) (v := .slice bo m dp) rfl
                    have z4 := HD.out.1.k.cell (i := 4) (v := .int .u32 mo) rfl
                    have z5 := HD.out.1.k.cell (i := 5) (v := .int .i64 ar) rfl
                    have HJ : Hid (DJ w (W3.alloc (.cells #[.string t, .string c, .slice none 0 0, .slice none 0 0, .int .u32 mo, .int .i64 ar] 26)) #[.string t, .string c, .slice ao n cp, .slice bo m dp, .int .u32 mo, .int .i64 ar] W3.heap.size p 2 9 (fun a k cp => #[.string t, .string c, .slice a k cp, .slice none 0 0, .int .u32 mo, .int .i64 ar]) none 0 0 (Sp.u8s (T.take 0))) := by
                      have hb : Below W3.heap.size W3 (W3.alloc (.cells #[.string t, .string c, .slice none 0 0, .slice none 0 0, .int .u32 mo, .int .i64 ar] 26)) := (Below.refl _ _).alloc (Nat.le_refl _) _
                      exact ⟨HD.out.1.on hb, (hb.cell (clt HD.out.2)).trans HD.out.2, Bk.new _ _ _, World.ownsRow_nil _ _ _ _, clt HD.out.1.r.r0, clt HD.out.2⟩
                    clear HD
                    go_wp2
                    clear z0 z1 z2 z3 z4 z5
                    generalize W3.heap.size = D at *
                    go_loopg [10] n (fun k s10 wx => ∃ (i : Nat) (a : Option Addr) (cq : Nat), s10 = .int .i64 (i : Int) ∧ i ≤ n ∧ k + i = n ∧ Hid (DJ w wx #[.string t, .string c, .slice ao n cp, .slice bo m dp, .int .u32 mo, .int .i64 ar] D p 2 9 (fun a k cp => #[.string t, .string c, .slice a k cp, .slice none 0 0, .int .u32 mo, .int .i64 ar]) a i cq (Sp.u8s (T.take i))))
                    case atStart => exact ⟨0, none, 0, rfl, by omega, by omega, HJ⟩
                    case round =>
                      clear HJ
                      obtain ⟨i, a, cq, rfl, hi, hg, HJ⟩ := hrel
                      have z2 := HJ.out.di.k.cell (i := 2) (v := .slice ao n cp) rfl
                      by_cases hlt : i < n
                      · have iI : (i : Int) < (n : Int) := by omega
                        have hlx : i < T.length := by have := HT.out.2.1; omega
                        obtain ⟨u, hu⟩ : ∃ u, T[i] = u := ⟨_, rfl⟩
                        obtain ⟨g, o, hao, cl⟩ := (HT.out.1.on HJ.out.di.b) i hlx
                        rw [hu] at cl
                        rw [hao] at z2
                        have HX : Hid (Sp.u8s (T.take i) ++ [.string u] = Sp.u8s (T.take (i + 1))) := by
                          show Sp.u8s (T.take i) ++ [.string u] = Sp.u8s (T.take (i + 1))
                          rw [List.take_succ_eq_append_getElem hlx, Sp.u8s_append, hu]
                          rfl
                        have cj := HJ.out.d.cell (i := 2) (v := .slice a i cq) rfl
                        have hD1 : D < wr.heap.size := clt cj
                        have hD2 : w.heap.size < wr.heap.size := clt z2
                        have hD3 : g < wr.heap.size := clt cl
                        have hD4 : D ≠ wr.heap.size := by omega
                        have hD5 : w.heap.size ≠ wr.heap.size := by omega
                        have hD6 : g ≠ wr.heap.size := by omega
                        have HNX : Hid (∀ (W4 : World) (g4 c4 : Nat) (o' : Obj), W4.ownsRow (D + 1) 9 1 (.slice (some ⟨g4, 0, none⟩) (i + 1) c4) (i + 1) (Sp.u8s (T.take i) ++ [.string u]) → (wr.alloc o').drew.grownBy W4 (Value.slice a i cq).ownBlock → Bk W4 D #[.string t, .string c, .slice a i cq, .slice none 0 0, .int .u32 mo, .int .i64 ar] 26 ∧ DJ w (W4.setCell ⟨D, 2, none⟩ (.slice (some ⟨g4, 0, none⟩) (i + 1) c4)) #[.string t, .string c, .slice ao n cp, .slice bo m dp, .int .u32 mo, .int .i64 ar] D p 2 9 (fun a k cp => #[.string t, .string c, .slice a k cp, .slice none 0 0, .int .u32 mo, .int .i64 ar]) (some ⟨g4, 0, none⟩) (i + 1) c4 (Sp.u8s (T.take i) ++ [.string u])) := fun W4 g4 c4 o' ho hg => HJ.out.next (fun _ _ _ _ _ _ => rfl) ho hg
                        have H63 : i + 1 ≤ maxLen := by unfold maxLen; omega
                        have HBY : (i + 1) * 16 ≤ 140737488355328 := by have := HT.out.2.2.1; omega
                        have HK1 : Hid (∀ v ∈ ([.string u] : List Value), v.oneCell' = true) := by intro v hv; simp at hv; subst hv; rfl
                        have HK2 : Hid (∀ j v, ([.string u] : List Value)[j]? = some v → (wr.alloc (.cells #[.string u] 9)).drew.cell? ((⟨wr.heap.size, 0, none⟩ : Addr).add j) = some v) := fun j v hv => World.news_of_block (Wk.heap_new wr (.cells #[.string u] 9)) j v hv
                        have HK3 : Hid ((wr.alloc (.cells #[.string u] 9)).drew.ownsRow (D + 1) 9 1 (.slice a i cq) i (Sp.u8s (T.take i))) := World.ownsRow.alloc HJ.out.o _
                        have HK4 : Hid (D + 1 ≤ (wr.alloc (.cells #[.string u] 9)).drew.heap.size) := by
                          show D + 1 ≤ (wr.alloc (.cells #[.string u] 9)).heap.size
                          rw [Wk.size_alloc]
                          have := HJ.out.d.lt
                          omega
                        obtain ⟨i0, hi0, hz⟩ := Option.map_eq_some_iff.1 infoS
                        obtain ⟨hz0, hz1, hz2⟩ : i0.zero = some (.string { data := #[] }) ∧ i0.size = 1 ∧ i0.bytes = 16 := by simpa using hz
                        clear HJ hao hu hlx hz
                        go_wp2
                        go_region_law (go_loud (refine step_append_lies _ rfl (.tmp 141) (.tmp 147) 22 rfl (D + 1) 9 i0 _ 1 16 Tryz.underlying22 hi0 hz0 hz1 hz2 rfl (by decide) (.slice a i cq) i (Sp.u8s (T.take i)) (by simp [Act.eval]) HK3.out ⟨wr.heap.size, 0, none⟩ 1 1 [.string u] (by simp [Act.eval]) rfl HK2.out HK1.out (by decide) H63 HBY HK4.out _ rfl ?_); intro g4 c4 W4 ho4 hg4 hd4 hl4; have hx4 := HNX.out W4 g4 c4 _ ho4 hg4; have y0 := hx4.1.cell (i := 2) (v := .slice a i cq) rfl; have yf := hx4.1.fz)
                        all_goals
                          have HJ4 : Hid _ := hx4.2
                          clear hx4 ho4 hg4 hd4 hl4 y0 yf cl z2 cj hD1 hD2 hD3 hD4 hD5 hD6 H63 HBY HK1 HK2 HK3 HK4 HNX hi0 hz0 hz1 hz2
                          rw [HX.out] at HJ4
                          go_wp2
                          go_roundg (n - (i + 1))
                          case measure => omega
                          case rel => exact ⟨i + 1, some ⟨g4, 0, none⟩, c4, by simp, by omega, by omega, HJ4⟩
                      · have iI : ¬ ((i : Int) < (n : Int)) := by omega
                        obtain rfl : n = i := by omega
                        have HJ2 : Hid (∃ a2 cq2, DJ w wr #[.string t, .string c, .slice ao n cp, .slice bo m dp, .int .u32 mo, .int .i64 ar] D p 3 48 (fun a k cp => #[.string t, .string c, .slice a2 n cq2, .slice a k cp, .int .u32 mo, .int .i64 ar]) none 0 0 (i8s (l.take 0))) := ⟨a, cq, HJ.out.di, HJ.out.p1, HJ.out.d, World.ownsRow_nil _ _ _ _, HJ.out.l1, HJ.out.l2⟩
                        obtain ⟨a2, cq2, HJ3⟩ := HJ2.out
                        have HJ4 : Hid (DJ w wr #[.string t, .string c, .slice ao n cp, .slice bo m dp, .int .u32 mo, .int .i64 ar] D p 3 48 (fun a k cp => #[.string t, .string c, .slice a2 n cq2, .slice a k cp, .int .u32 mo, .int .i64 ar]) none 0 0 (i8s (l.take 0))) := HJ3
                        clear HJ HJ2 HJ3 HT
                        go_wp2
                        clear z2
                        go_loopg [11] m (fun k s11 wx => ∃ (i : Nat) (a : Option Addr) (cq : Nat), s11 = .int .i64 (i : Int) ∧ i ≤ m ∧ k + i = m ∧ Hid (DJ w wx #[.string t, .string c, .slice ao n cp, .slice bo m dp, .int .u32 mo, .int .i64 ar] D p 3 48 (fun a k cp => #[.string t, .string c, .slice a2 n cq2, .slice a k cp, .int .u32 mo, .int .i64 ar]) a i cq (i8s (l.take i))))
                        case atStart => exact ⟨0, none, 0, rfl, by omega, by omega, HJ4⟩
                        case round =>
                          clear HJ4
                          obtain ⟨i, a, cq, rfl, hi, hg, HJ⟩ := hrel
                          have z3 := HJ.out.di.k.cell (i := 3) (v := .slice bo m dp) rfl
                          by_cases hlt : i < m
                          · have iI : (i : Int) < (m : Int) := by omega
                            have hlx : i < l.length := by have := HL.out.2.1; omega
                            obtain ⟨u, hu⟩ : ∃ u, l[i] = u := ⟨_, rfl⟩
                            obtain ⟨g, o, hbo, cl⟩ := (HL.out.1.on HJ.out.di.b) i hlx
                            rw [hu] at cl
                            rw [hbo] at z3
                            have HX : Hid (i8s (l.take i) ++ [.int .i64 u] = i8s (l.take (i + 1))) := by
                              show i8s (l.take i) ++ [.int .i64 u] = i8s (l.take (i + 1))
                              rw [List.take_succ_eq_append_getElem hlx, hu]
                              simp [i8s]
                            have cj := HJ.out.d.cell (i := 3) (v := .slice a i cq) rfl
                            have hD1 : D < wr.heap.size := clt cj
                            have hD2 : w.heap.size < wr.heap.size := clt z3
                            have hD3 : g < wr.heap.size := clt cl
                            have hD4 : D ≠ wr.heap.size := by omega
                            have hD5 : w.heap.size ≠ wr.heap.size := by omega
                            have hD6 : g ≠ wr.heap.size := by omega
                            have HNX : Hid (∀ (W4 : World) (g4 c4 : Nat) (o' : Obj), W4.ownsRow (D + 1) 48 1 (.slice (some ⟨g4, 0, none⟩) (i + 1) c4) (i + 1) (i8s (l.take i) ++ [.int .i64 u]) → (wr.alloc o').drew.grownBy W4 (Value.slice a i cq).ownBlock → Bk W4 D #[.string t, .string c, .slice a2 n cq2, .slice a i cq, .int .u32 mo, .int .i64 ar] 26 ∧ DJ w (W4.setCell ⟨D, 3, none⟩ (.slice (some ⟨g4, 0, none⟩) (i + 1) c4)) #[.string t, .string c, .slice ao n cp, .slice bo m dp, .int .u32 mo, .int .i64 ar] D p 3 48 (fun a k cp => #[.string t, .string c, .slice a2 n cq2, .slice a k cp, .int .u32 mo, .int .i64 ar]) (some ⟨g4, 0, none⟩) (i + 1) c4 (i8s (l.take i) ++ [.int .i64 u])) := fun W4 g4 c4 o' ho hg => HJ.out.next (fun _ _ _ _ _ _ => rfl) ho hg
                            have H63 : i + 1 ≤ maxLen := by unfold maxLen; omega
                            have HBY : (i + 1) * 8 ≤ 140737488355328 := by have := HL.out.2.2; omega
                            have HK1 : Hid (∀ v ∈ ([.int .i64 u] : List Value), v.oneCell' = true) := by intro v hv; simp at hv; subst hv; rfl
                            have HK2 : Hid (∀ j v, ([.int .i64 u] : List Value)[j]? = some v → (wr.alloc (.cells #[.int .i64 u] 48)).drew.cell? ((⟨wr.heap.size, 0, none⟩ : Addr).add j) = some v) := fun j v hv => World.news_of_block (Wk.heap_new wr (.cells #[.int .i64 u] 48)) j v hv
                            have HK3 : Hid ((wr.alloc (.cells #[.int .i64 u] 48)).drew.ownsRow (D + 1) 48 1 (.slice a i cq) i (i8s (l.take i))) := World.ownsRow.alloc HJ.out.o _
                            have HK4 : Hid (D + 1 ≤ (wr.alloc (.cells #[.int .i64 u] 48)).drew.heap.size) := by
                              show D + 1 ≤ (wr.alloc (.cells #[.int .i64 u] 48)).heap.size
                              rw [Wk.size_alloc]
                              have := HJ.out.d.lt
                              omega
                            obtain ⟨i0, hi0, hz⟩ := Option.map_eq_some_iff.1 infoY
                            obtain ⟨hz0, hz1, hz2⟩ : i0.zero = some (.int .i64 0) ∧ i0.size = 1 ∧ i0.bytes = 8 := by simpa using hz
                            clear HJ hbo hu hlx hz
                            go_wp2
                            go_region_law (go_loud (refine step_append_lies _ rfl (.tmp 158) (.tmp 164) 23 rfl (D + 1) 48 i0 _ 1 8 Tryz.underlying23 hi0 hz0 hz1 hz2 rfl (by decide) (.slice a i cq) i (i8s (l.take i)) (by simp [Act.eval]) HK3.out ⟨wr.heap.size, 0, none⟩ 1 1 [.int .i64 u] (by simp [Act.eval]) rfl HK2.out HK1.out (by decide) H63 HBY HK4.out _ rfl ?_); intro g4 c4 W4 ho4 hg4 hd4 hl4; have hx4 := HNX.out W4 g4 c4 _ ho4 hg4; have y0 := hx4.1.cell (i := 3) (v := .slice a i cq) rfl; have yf := hx4.1.fz)
                            all_goals
                              have HJ4 : Hid _ := hx4.2
                              clear hx4 ho4 hg4 hd4 hl4 y0 yf cl z3 cj hD1 hD2 hD3 hD4 hD5 hD6 H63 HBY HK1 HK2 HK3 HK4 HNX hi0 hz0 hz1 hz2
                              rw [HX.out] at HJ4
                              go_wp2
                              go_roundg (m - (i + 1))
                              case measure => omega
                              case rel => exact ⟨i + 1, some ⟨g4, 0, none⟩, c4, by simp, by omega, by omega, HJ4⟩
                          · have iI : ¬ ((i : Int) < (m : Int)) := by omega
                            obtain rfl : m = i := by omega
                            have d0 := HJ.out.d.cell (i := 0) (v := .string t) rfl
                            have d1 := HJ.out.d.cell (i := 1) (v := .string c) rfl
                            have d2 := HJ.out.d.cell (i := 2) (v := .slice a2 n cq2) rfl
                            have d3 := HJ.out.d.cell (i := 3) (v := .slice a m cq) rfl
                            have d4 := HJ.out.d.cell (i := 4) (v := .int .u32 mo) rfl
                            have d5 := HJ.out.d.cell (i := 5) (v := .int .i64 ar) rfl
                            go_wp2_with (go_at_call 26; refine Stop.mk ?_)
                            have hk := Bk.new wr #[.string t, .string c, .slice a2 n cq2, .slice a m cq, .int .u32 mo, .int .i64 ar, .pointer (some ⟨p, 0, none⟩), .pointer none, .pointer none, .slice none 0 0, .int .i64 0, .slice none 0 0] 88
                            have hb : Below wr.heap.size wr (wr.alloc (.cells #[.string t, .string c, .slice a2 n cq2, .slice a m cq, .int .u32 mo, .int .i64 ar, .pointer (some ⟨p, 0, none⟩), .pointer none, .pointer none, .slice none 0 0, .int .i64 0, .slice none 0 0] 88)) := (Below.refl _ _).alloc (Nat.le_refl _) _
                            have hf : Nv.FgAt (wr.alloc (.cells #[.string t, .string c, .slice a2 n cq2, .slice a m cq, .int .u32 mo, .int .i64 ar, .pointer (some ⟨p, 0, none⟩), .pointer none, .pointer none, .slice none 0 0, .int .i64 0, .slice none 0 0] 88)) wr.heap.size p := ⟨hk.cell rfl, ⟨_, hk.cell (i := 8) (v := .pointer none) rfl⟩, hk.cell rfl, hk.cell rfl, hk.cell rfl, hk.fz, (hb.cell (clt HJ.out.p1)).trans HJ.out.p1⟩
                            have hpq : p < wr.heap.size := clt HJ.out.p1
                            refine Stop.out ((Nv.forget_new _ wr.heap.size p (.pointer none) hf (hk.cell rfl) (by omega)).mono ?_)
                            rintro e W5 ⟨⟨v5, rfl⟩, hr5, hb5⟩
                            have HE : Hid (DI w W5 #[.string t, .string c, .slice ao n cp, .slice bo m dp, .int .u32 mo, .int .i64 ar] ∧ Nv.RpAt W5 wr.heap.size p ∧ w.heap.size + 1 < p ∧ p < wr.heap.size) := ⟨HJ.out.di.on (hb.trans hb5), hr5, HP0.out, hpq⟩
                            clear hk hb hf hpq hr5 hb5 HJ d0 d1 d2 d3 d4 d5 z3 HP0 HL
                            generalize wr.heap.size = q at *
                            go_wp2_with (go_at_call 27; refine Stop.mk ?_)
                            refine Stop.out ((rnone_any _).mono ?_)
                            rintro e W6 ⟨rfl, hb6⟩
                            obtain ⟨s0, s1, sf⟩ := HE.out.1.r.on hb6
                            have hr6 := HE.out.2.1.on hb6
                            have n1 : w.heap.size + 1 ≠ q := by have := HE.out.2.2; omega
                            have n2 : w.heap.size + 1 ≠ p := by have := HE.out.2.2; omega
                            have HR6 : Hid (Nv.RpAt ((W6.setCell ⟨w.heap.size + 1, 0, none⟩ (.slice none 0 0)).setCell ⟨w.heap.size + 1, 1, none⟩ (.int .i64 0)) q p ∧ Below w.heap.size w ((W6.setCell ⟨w.heap.size + 1, 0, none⟩ (.slice none 0 0)).setCell ⟨w.heap.size + 1, 1, none⟩ (.int .i64 0))) :=
                              ⟨⟨(Nv.set_off n1).trans ((Nv.set_off n1).trans hr6.c6), (Nv.set_off n1).trans ((Nv.set_off n1).trans hr6.c9), (Nv.set_off n1).trans ((Nv.set_off n1).trans hr6.c10), (Nv.set_off n1).trans ((Nv.set_off n1).trans hr6.c11), (Nv.set_off n2).trans ((Nv.set_off n2).trans hr6.p1)⟩, ((HE.out.1.b.trans (hb6.mono HE.out.1.b.size)).setCell (p := ⟨w.heap.size + 1, 0, none⟩) (show w.heap.size ≤ w.heap.size + 1 by omega) _).setCell (p := ⟨w.heap.size + 1, 1, none⟩) (show w.heap.size ≤ w.heap.size + 1 by omega) _⟩
                            have HLQ : Hid (w.heap.size ≤ p ∧ w.heap.size ≤ q) := by have := HE.out.2.2; exact ⟨by omega, by omega⟩
                            clear hr6 n1 n2 hb6 HE
                            go_wp2
                            exact bodyPost_ret (v := .tuple #[.pointer (some ⟨q, 0, none⟩), .agg #[.slice none 0 0, .int .i64 0]]) (by simp [results, Tryz.results10, go_sem, s0, s1]) rfl ⟨⟨q, p, rfl, HR6.out.1, HLQ.out.2, HLQ.out.1⟩, HR6.out.2⟩
end Go.Proofs.YtdggplhkeekdjaaGreatDoor.Ck
