import Derived.Test.YtoikdpjjcnmgeaaGreatDoorZh
import Derived.Test.YtoikdpjjcnmgeaaGreatDoorZf
import Derived.Deep.LoopGhost
/-
  DERIVED. A sequence's items: the document's: up to an end.
-/
namespace Go.Proofs.YtoikdpjjcnmgeaaGreatDoor
open Go Go.Proofs Go.RowKit
open Wk (Nd nds)
open Go.Sort

set_option maxRecDepth 100000 in
set_option maxHeartbeats 32000000 in
theorem it_shut (d : Nat) (hd : d ≤ 4) (hrm : d + 1 ≤ 4 → RmC (d + 1)) (w : World) (base rb : Nat) (a : Option Addr) (n cap : Nat) (ys : List UInt8) (L : List Nd) (nv : Value) (k fin : Nat) (ex : Bool) (hA : Ask base rb a n cap ys w L nv) (hkf : k ≤ fin) (hfn : fin ≤ n) :
    Calls Tryz.prog 108 #[.pointer (some ⟨rb, 0, none⟩), .int .i64 (k : Int), .int .i64 (fin : Int), .bool false, .bool ex, .int .i64 (d : Int)] w (OutP (srcS ys) base rb a n cap ys w L (2 * d + 1) (isp fin false ex) k fin) := by
  have HRM : Hid (d + 1 ≤ 4 → RmC (d + 1)) := hrm
  have hnb : n ≤ 1048576 := hA.bv.s
  have HI0 : Hid (ItI base rb a n cap ys w L d k fin false ex k 0 w) := ⟨[], nv, by rw [List.append_nil]; exact hA, Below.refl _ _, Kq.refl _, GoesFor.start _ _ _ _ _⟩
  have hfb : fin ≤ 1048576 := by omega
  clear hrm hA
  go_enter Tryz.func108, Tryz.ntmps108
  go_wp2
  go_loopw [1, 14] (fun x1 x14 wr => ∃ (p cnt : Nat), x1 = .int .i64 (p : Int) ∧ x14 = .int .i64 (cnt : Int) ∧ k ≤ p ∧ p ≤ fin ∧ cnt ≤ p ∧ Hid (ItI base rb a n cap ys w L d k fin false ex p cnt wr)) (fun x1 _ _ => n - (intOf x1).toNat)
  case atStart => exact ⟨k, 0, rfl, rfl, Nat.le_refl _, hkf, Nat.zero_le _, HI0⟩
  case round =>
    obtain ⟨p, cnt, rfl, rfl, hkp, hpf, hcp, HI⟩ := hrel
    obtain ⟨wo, rfl⟩ : ∃ wo, wo = wr := ⟨_, rfl⟩
    obtain ⟨X, nv', hA, hB, hK, hG⟩ := HI.out
    have HA : Hid (Ask base rb a n cap ys wo (L ++ X) nv') := hA
    have HB : Hid (Below base w wo) := hB
    have HK : Hid (Kq w wo) := hK
    have HG : Hid (GoesFor (srcS ys) L.length (2 * d + 1) (isp fin false ex) (isp fin false ex) k p cnt X) := hG
    have hbo : base ≤ wo.heap.size := hA.dr.lt
    clear HI HI0 hA hB hK hG
    by_cases hlt : p < fin
    case neg =>
      obtain rfl : p = fin := by omega
      have hltI : ¬ (p : Int) < (p : Int) := by omega
      go_wp2
      exact bodyPost_ret (v := .tuple #[.int .i64 (p : Int), .int .i64 (cnt : Int)]) (by simp [results, Tryz.results108, go_sem]) rfl ⟨p, cnt, rfl, HB.out, HK.out, .inr ⟨X, nv', HA.out, hkp, Nat.le_refl _, hcp, HG.out.out fun M nd rest => zs_end rfl rfl⟩⟩
    have hltI : (p : Int) < (fin : Int) := by omega
    by_cases h8 : fin - p < 8
    case pos =>
      have b8 : (fin : Int) - (p : Int) < 8 := by omega
      go_wp2_with (go_at_call 61; refine StopV.out ?_)
      refine ⟨Calls.mono (bad_any base rb _ nv' _ 0 (p : Int) 122 (L ++ X) _ HA.out.dr) ?_⟩
      rintro e W9 ⟨rfl, hbad, hb9, hk9⟩
      go_wp2
      exact bodyPost_ret (v := .tuple #[.int .i64 (p : Int), .int .i64 (cnt : Int)]) (by simp [results, Tryz.results108, go_sem]) rfl ⟨p, cnt, rfl, HB.out.trans ((Below.refl base wo).trans hb9.out), HK.out.trans ((Kq.refl wo).trans hk9.out), .inl ⟨p, 122, (BadIn.of hbad.out (by decide)).less (by rw [List.length_append]; omega), HG.out.bad fun M nd rest hl _ hr => .bad (zs_few (.inr hlt) h8)⟩⟩
    have b8 : ¬ (fin : Int) - (p : Int) < 8 := by omega
    have hp8 : p + 8 ≤ fin := by omega
    have cT := HA.out.tag (p := p) (by omega)
    have ht := tagS_lt ys p
    obtain ⟨T, hT⟩ : ∃ T, tagS ys p = T := ⟨_, rfl⟩
    rw [hT] at cT ht
    have HT : Hid (tagS ys p = T) := hT
    have HH8 : Hid (¬ fin - p < 8) := h8
    clear hT h8
    go_wp2_with (go_at_call 62; refine StopV.out ?_)
    refine ⟨Calls.mono cT ?_⟩
    rintro e W1 ⟨rfl, hb1⟩
    have HA1 : Hid (Ask base rb a n cap ys W1 (L ++ X) nv') := HA.out.on hb1
    have cZ := HA1.out.num (p := p) (by omega)
    have hZl := numS_lt ys (p + 4)
    obtain ⟨Z, hZ⟩ : ∃ Z, numS ys (p + 4) = Z := ⟨_, rfl⟩
    rw [hZ] at cZ hZl
    have HZ : Hid (numS ys (p + 4) = Z) := hZ
    clear cT hZ
    go_wp2_with (go_at_call 63; refine StopV.out ?_)
    refine ⟨Calls.mono cZ ?_⟩
    rintro e W2 ⟨rfl, hb2⟩
    have HA2 : Hid (Ask base rb a n cap ys W2 (L ++ X) nv') := HA1.out.on hb2
    have hb12 : Below wo.heap.size wo W2 := hb1.trans (hb2.mono hb1.size)
    clear cZ
    have HIN : Hid (∀ (M : List Nd) (nd : Option Nat) (rest : List Sp), step (srcS ys) p M (isp fin false ex nd) rest = stepI (srcS ys) p M (isp fin false ex nd) rest) := fun M nd rest => by
      rw [zs_in (.inr hlt) HH8.out (fun h => by have h1 : false = true := h.1; cases h1)]
      rfl
    have hm2 : (Z : Int).tmod 2 = (Z : Int) % 2 := by rw [Int.tmod_eq_emod_of_nonneg (by omega)]
    have wq : IntKind.u64.wrap ((fin : Int) - (p : Int) - 8) = (fin : Int) - (p : Int) - 8 := by rw [IntKind.wrap_u64]; omega
    have wz : IntKind.i64.wrap (Z : Int) = (Z : Int) := by rw [IntKind.wrap_i64]; omega
    obtain ⟨na, ncap, rfl, hna⟩ := own_form HA.out.dr.nd
    have c1 := HA2.out.dr.c1
    have l4 := HA.out.l4
    rw [List.length_append] at l4
    clear hna
    by_cases hti : T = 4294893568
    case neg =>
      have bt : ((T : Int) != 4294893568) = true := bne_iff_ne.2 (by omega)
      have HC : Hid (itC (srcS ys) (L.length + X.length) d fin p = 123) := by
        show _ = _
        unfold itC
        rw [show (srcS ys).tag p = T from HT.out, show (srcS ys).num (p + 4) = Z from HZ.out]
        simp [hti]
      clear hti
      go_wp2_with (go_at_call 61; refine StopV.out ?_)
      refine ⟨Calls.mono (bad_any base rb _ _ _ 0 (p : Int) 123 (L ++ X) _ HA2.out.dr) ?_⟩
      rintro e W9 ⟨rfl, hbad, hb9, hk9⟩
      obtain ⟨g6, e2, e3⟩ := hbad.out.cells
      have hbl9 : base ≤ W9.heap.size := Nat.le_trans hbo (Nat.le_trans hb12.size hb9.out.size)
      go_wp2_with (go_at_call 26; refine StopV.out ?_)
      refine ⟨Calls.mono (any_bad _ g6 1 123 (by decide)) ?_⟩
      rintro e W7 ⟨rfl, hb7⟩
      go_wp2
      exact bodyPost_ret (v := .tuple #[.int .i64 (p : Int), .int .i64 (cnt : Int)]) (by simp [results, Tryz.results108, go_sem]) rfl ⟨p, cnt, rfl, HB.out.trans ((hb12.mono hbo).trans (hb9.out.trans (hb7.mono hbl9))), HK.out.trans ((Kq.below hb12).trans (hk9.out.trans (Kq.below hb7))), .inl ⟨p, 123, ((BadIn.of hbad.out (by decide)).less (by rw [List.length_append]; omega)).on hb7, HG.out.bad fun M nd rest hl _ hr => .bad (by rw [HIN.out]; exact stepI_bad HC.out (by decide) hl hr)⟩⟩
    have bt : ((T : Int) != 4294893568) = false := by rw [hti]; rfl
    by_cases hu : Z = und
    case pos =>
      have bu : ((Z : Int) == 4294967295) = true := by rw [hu]; rfl
      by_cases hdp : 4 < d + 1
      case pos =>
        have hdd : (4 : Int) < (d : Int) + 1 := by omega
        have HC : Hid (itC (srcS ys) (L.length + X.length) d fin p = 126) := by
          show _ = _
          unfold itC
          rw [show (srcS ys).tag p = T from HT.out, show (srcS ys).num (p + 4) = Z from HZ.out]
          simp [hti, hu, hdp]
        clear hti hu hdp
        go_wp2_with (go_at_call 61; refine StopV.out ?_)
        refine ⟨Calls.mono (bad_any base rb _ _ _ 0 (p : Int) 126 (L ++ X) _ HA2.out.dr) ?_⟩
        rintro e W9 ⟨rfl, hbad, hb9, hk9⟩
        obtain ⟨g6, e2, e3⟩ := hbad.out.cells
        have hbl9 : base ≤ W9.heap.size := Nat.le_trans hbo (Nat.le_trans hb12.size hb9.out.size)
        go_wp2_with (go_at_call 26; refine StopV.out ?_)
        refine ⟨Calls.mono (any_bad _ g6 1 126 (by decide)) ?_⟩
        rintro e W7 ⟨rfl, hb7⟩
        go_wp2
        exact bodyPost_ret (v := .tuple #[.int .i64 (p : Int), .int .i64 (cnt : Int)]) (by simp [results, Tryz.results108, go_sem]) rfl ⟨p, cnt, rfl, HB.out.trans ((hb12.mono hbo).trans (hb9.out.trans (hb7.mono hbl9))), HK.out.trans ((Kq.below hb12).trans (hk9.out.trans (Kq.below hb7))), .inl ⟨p, 126, ((BadIn.of hbad.out (by decide)).less (by rw [List.length_append]; omega)).on hb7, HG.out.bad fun M nd rest hl _ hr => .bad (by rw [HIN.out]; exact stepI_bad HC.out (by decide) hl hr)⟩⟩
      by_cases hmany : L.length + X.length = 4096
      case pos =>
        have hdd : ¬ (4 : Int) < (d : Int) + 1 := by omega
        have HMA : Hid ((L ++ X).length = 4096) := by show _ = _; rw [List.length_append]; exact hmany
        rw [HMA.out] at c1
        have HC : Hid (itC (srcS ys) (L.length + X.length) d fin p = 127) := by
          show _ = _
          unfold itC
          rw [show (srcS ys).tag p = T from HT.out, show (srcS ys).num (p + 4) = Z from HZ.out]
          simp [hti, hu, hdp, hmany]
        clear hti hu hdp hmany
        go_wp2_with (go_at_call 61; refine StopV.out ?_)
        refine ⟨Calls.mono (bad_any base rb _ _ _ 0 (p : Int) 127 (L ++ X) _ HA2.out.dr) ?_⟩
        rintro e W9 ⟨rfl, hbad, hb9, hk9⟩
        obtain ⟨g6, e2, e3⟩ := hbad.out.cells
        have hbl9 : base ≤ W9.heap.size := Nat.le_trans hbo (Nat.le_trans hb12.size hb9.out.size)
        go_wp2_with (go_at_call 26; refine StopV.out ?_)
        refine ⟨Calls.mono (any_bad _ g6 1 127 (by decide)) ?_⟩
        rintro e W7 ⟨rfl, hb7⟩
        go_wp2
        exact bodyPost_ret (v := .tuple #[.int .i64 (p : Int), .int .i64 (cnt : Int)]) (by simp [results, Tryz.results108, go_sem]) rfl ⟨p, cnt, rfl, HB.out.trans ((hb12.mono hbo).trans (hb9.out.trans (hb7.mono hbl9))), HK.out.trans ((Kq.below hb12).trans (hk9.out.trans (Kq.below hb7))), .inl ⟨p, 127, ((BadIn.of hbad.out (by decide)).less (by rw [List.length_append]; omega)).on hb7, HG.out.bad fun M nd rest hl _ hr => .bad (by rw [HIN.out]; exact stepI_bad HC.out (by decide) hl hr)⟩⟩
      have HSG : Hid (∀ (M : List Nd) (nd : Option Nat) (rest : List Sp), M.length = L.length + X.length → rest.length = 2 * d + 1 → step (srcS ys) p M (isp fin false ex nd) rest = .go (p + 8) (bump M nd 1 ++ [itN 0]) (rsp fin true ex 0 (some M.length) :: isp fin false ex nd :: rest)) := fun M nd rest hl hr => by
        have q1 : (srcS ys).tag p = T := HT.out
        have q2 : (srcS ys).num (p + 4) = Z := HZ.out
        rw [HIN.out, stepI_go (by rw [q1]; exact hti) (by rw [q2]; exact fun h => h.1 hu) (by omega) (by rw [q2]; exact fun h => h.1 hu) (by omega), q2]
        show Res.go _ _ (⟨some M.length, if Z = und then fin else p + 8 + Z, decide (Z = und), false, ex, 0⟩ :: _ :: rest) = _
        rw [if_pos hu, decide_eq_true hu]
        rfl
      have HTI : Hid (T = 4294893568) := hti
      have HMX : Hid (L.length + X.length ≠ 4096 ∧ L.length + X.length ≤ 4096) := ⟨hmany, l4⟩
      have HRC : Hid (RmC (d + 1)) := HRM.out (by omega)
      have bmm : decide ((4096 : Int) ≤ ((L ++ X).length : Int)) = false := decide_eq_false (by rw [List.length_append]; omega)
      have hdd : ¬ (4 : Int) < (d : Int) + 1 := by omega
      obtain ⟨i0, hi, hz0, hz1, hz2⟩ := info_parts Wk.info34
      obtain ⟨m, hml⟩ : ∃ m, (L ++ X).length = m := ⟨_, rfl⟩
      have HL : Hid ((L ++ X).length = m) := hml
      have hmm : m ≠ 4096 ∧ m ≤ 4096 := by rw [List.length_append] at hml; omega
      rw [hml] at c1 bmm
      have e2 := HA2.out.dr.c2
      have e3 := HA2.out.dr.c3
      clear hml hmany hti l4 hu
      go_wp2_with (go_at_call 26; refine StopV.out ?_)
      refine ⟨Calls.mono (any_no _) ?_⟩
      rintro e W3 ⟨rfl, hb3⟩
      have hb13 : Below wo.heap.size wo W3 := hb12.trans (hb3.mono hb12.size)
      have HA3 : Hid (Ask base rb a n cap ys W3 (L ++ X) (.slice na m ncap)) := by have := HA2.out.on hb3; rw [HL.out] at this; exact this
      have c13 := HA3.out.dr.c1
      have HO : Hid (∀ o, (W3.alloc o).ownsRow base 54 4 (.slice na m ncap) m (nds (L ++ X))) := fun o => by
        have := HA3.out.dr.nd
        rw [HL.out] at this
        exact World.ownsRow.alloc this o
      have HBS : Hid (∀ o, base ≤ (W3.alloc o).heap.size) := fun o => Nat.le_trans HA3.out.dr.lt (by simp)
      have h63 : m + 1 ≤ maxLen := by unfold maxLen; omega
      have hby : (m + 1) * 40 ≤ 140737488355328 := by omega
      have HADD : Hid (∀ (Y W4 : World) (g4 c4 : Nat), Below W3.heap.size W3 Y → Y.grownBy W4 (Value.slice na m ncap).ownBlock → W4.ownsRow base 54 4 (.slice (some ⟨g4, 0, none⟩) (m + 1) c4) (m + 1) (nds (L ++ X) ++ [.int .u32 (T : Int), .int .i64 29, .int .i64 0, .string ⟨#[]⟩]) →
          W4.cell? ⟨rb, 1, none⟩ = some (.slice na m ncap) ∧ W4.frozen? ⟨rb, 1, none⟩ = false ∧ Ask base rb a n cap ys (W4.setCell ⟨rb, 1, none⟩ (.slice (some ⟨g4, 0, none⟩) (m + 1) c4)) (L ++ X ++ [itN 0]) (.slice (some ⟨g4, 0, none⟩) (m + 1) c4) ∧ Below base wo (W4.setCell ⟨rb, 1, none⟩ (.slice (some ⟨g4, 0, none⟩) (m + 1) c4)) ∧ Kq wo (W4.setCell ⟨rb, 1, none⟩ (.slice (some ⟨g4, 0, none⟩) (m + 1) c4))) := by
        intro Y W4 g4 c4 hY hg4 ho
        have hAX := HA3.out.on hY
        have hn' : W4.ownsRow base 54 4 (.slice (some ⟨g4, 0, none⟩) (m + 1) c4) (L ++ X ++ [itN 0]).length (nds (L ++ X ++ [itN 0])) := by
          rw [List.length_append, HL.out, Wk.nds_append]
          rw [HTI.out] at ho
          exact ho
        obtain ⟨p1, p2, p3, p4, p5⟩ := hAX.dr.added hg4 hn'
        have hb0X : Below wo.heap.size wo Y := hb13.trans (hY.mono hb13.size)
        exact ⟨p1, p2, ⟨hAX.bv.on p4, p3, by rw [List.length_append, HL.out]; simp; omega⟩, (hb0X.mono hbo).trans p4, (Kq.below hb0X).trans p5⟩
      clear e2 e3 c1
      go_wp2_with (at_builtin; refine StopB2.out ?_)
      refine ⟨wpList_append_lies _ rfl (.tmp 124) (.tmp 127) 25 rfl base 54 i0 _ 4 40 Tryz.underlying25 hi hz0 hz1 hz2 rfl (by decide) (.slice na m ncap) m (nds (L ++ X)) rfl (HO.out _) ⟨W3.heap.size, 0, none⟩ 1 1 [.int .u32 (T : Int), .int .i64 29, .int .i64 0, .string ⟨#[]⟩] rfl rfl (World.news_of_block (heap_alloc_new W3 _)) (by intro u hu; simp at hu; rcases hu with rfl | rfl | rfl | rfl <;> rfl) (by decide) h63 hby (HBS.out _) _ rfl ?_⟩
      intro g4 c4 W4 hown4 hgrow4 hat4 hlt4
      obtain ⟨q2, f2, hA5, hB5, hK5⟩ := HADD.out _ W4 g4 c4 ((Below.refl _ W3).alloc (Nat.le_refl _) _) hgrow4 hown4
      obtain ⟨W5, hW5⟩ : ∃ W5, W4.setCell ⟨rb, 1, none⟩ (.slice (some ⟨g4, 0, none⟩) (m + 1) c4) = W5 := ⟨_, rfl⟩
      rw [hW5] at hA5 hB5 hK5
      have HA5 : Hid (Ask base rb a n cap ys W5 (L ++ X ++ [itN 0]) (.slice (some ⟨g4, 0, none⟩) (m + 1) c4)) := hA5
      have HB5 : Hid (Below base wo W5) := hB5
      have HK5 : Hid (Kq wo W5) := hK5
      have cR : Hid (Calls Tryz.prog 37 #[.pointer (some ⟨rb, 0, none⟩), .int .i64 ((p : Int) + 8), .int .i64 (fin : Int), .bool true, .bool ex, .int .i64 ((d : Int) + 1)] W5 (OutP (srcS ys) base rb a n cap ys W5 (L ++ X ++ [itN 0]) (2 * (d + 1)) (rsp fin true ex 0) (p + 8) fin)) := by
        have := HRC.out W5 base rb a n cap ys (L ++ X ++ [itN 0]) _ (p + 8) fin true ex HA5.out (by omega) (by omega)
        rw [show ((p + 8 : Nat) : Int) = (p : Int) + 8 by omega, show ((d + 1 : Nat) : Int) = (d : Int) + 1 by omega] at this
        exact this
      clear hown4 hgrow4 hat4 hlt4 hA5 hB5 hK5 c13
      go_wp2_with (go_at_call 37; refine StopV.out ?_)
      refine ⟨Calls.mono cR.out ?_⟩
      rintro e W6 ⟨k', cnt2, rfl, hb6, hk6, ho⟩
      have hLT : (L ++ X ++ [itN 0]).length = m + 1 := by rw [List.length_append, HL.out]; rfl
      have HMX2 : Hid (m = L.length + X.length) := by show _ = _; rw [← HL.out, List.length_append]
      have hB6 : Below base wo W6 := HB5.out.trans hb6.out
      have HK6 : Hid (Kq wo W6) := HK5.out.trans hk6.out
      have hbl6 : base ≤ W6.heap.size := Nat.le_trans hbo hB6.size
      rcases ho with ⟨x, c, hbad, hel⟩ | ⟨X2, nv2, hA6, hk1, hk2, hcnt, hel⟩
      · obtain ⟨L6, nv6, hD6, hc6, hl6⟩ := hbad
        obtain ⟨g6, e2, e3⟩ := hD6.cells
        rw [hLT] at hl6 hel
        have HD6 : Hid (BadIn base rb (.slice a n cap) W6 L.length x c) := ⟨L6, nv6, hD6, hc6, by have := HMX2.out; omega⟩
        have HEB : Hid (BadFor (srcS ys) L.length (2 * d + 1) (isp fin false ex) k x c) := HG.out.itemBad HSG.out (by rw [HMX2.out] at hel; exact hel)
        have hcI : (c : Int) ≠ 0 := by omega
        have HC0 : Hid ((c : Int) ≠ 0) := hcI
        clear hD6 hc6 hl6 hel hcI
        go_wp2_with (go_at_call 26; refine StopV.out ?_)
        refine ⟨Calls.mono (any_bad _ g6 1 (c : Int) HC0.out) ?_⟩
        rintro e W7 ⟨rfl, hb7⟩
        go_wp2
        exact bodyPost_ret (v := .tuple #[.int .i64 (k' : Int), .int .i64 (cnt : Int)]) (by simp [results, Tryz.results108, go_sem]) rfl ⟨k', cnt, rfl, HB.out.trans (hB6.trans (hb7.mono hbl6)), HK.out.trans (HK6.out.trans (Kq.below hb7)), .inl ⟨x, c, HD6.out.on hb7, HEB.out⟩⟩
      · have e2 := hA6.dr.c2
        have e3 := hA6.dr.c3
        rw [hLT] at hel
        have HA6 : Hid (Ask base rb a n cap ys W6 (L ++ X ++ [itN 0] ++ X2) nv2) := hA6
        have HGN : Hid (GoesFor (srcS ys) L.length (2 * d + 1) (isp fin false ex) (isp fin false ex) k k' (cnt + 1) (X ++ (itN cnt2 :: X2))) := HG.out.item HSG.out (by rw [HMX2.out] at hel; exact hel)
        clear hel hA6
        go_wp2_with (go_at_call 26; refine StopV.out ?_)
        refine ⟨Calls.mono (any_no _) ?_⟩
        rintro e W7 ⟨rfl, hb7⟩
        have hA7 := HA6.out.on hb7
        have hmL : m < (L ++ X ++ [itN 0] ++ X2).length := by rw [List.length_append, hLT]; omega
        obtain ⟨gn, ncap6, rfl, hnc6, e1, e4, e5, hD8, hB8, hK8, -⟩ := hA7.dr.setN m hmL (cnt2 : Int)
        have hset : (L ++ X ++ [itN 0] ++ X2).set m { (L ++ X ++ [itN 0] ++ X2)[m]'hmL with n := (cnt2 : Int) } = L ++ (X ++ (itN cnt2 :: X2)) := by
          have h1 : (L ++ X ++ [itN 0] ++ X2)[m]'hmL = itN 0 := by simp [← HL.out]
          rw [h1, List.append_assoc (L ++ X), List.set_append_right _ _ (by rw [HL.out]; exact Nat.le_refl _), HL.out, Nat.sub_self, List.append_assoc]
          rfl
        rw [hset] at hD8
        have HA8 : Hid (Ask base rb a n cap ys (W7.setCell ⟨gn, m * 4 + 2, none⟩ (.int .i64 (cnt2 : Int))) (L ++ (X ++ (itN cnt2 :: X2))) (.slice (some ⟨gn, 0, none⟩) (L ++ X ++ [itN 0] ++ X2).length ncap6)) := ⟨hA7.bv.on hB8, hD8, by have := hA7.l4; simp at this ⊢; omega⟩
        have HB8 : Hid (Below base w (W7.setCell ⟨gn, m * 4 + 2, none⟩ (.int .i64 (cnt2 : Int)))) := HB.out.trans (hB6.trans ((hb7.mono hbl6).trans hB8))
        have HK8 : Hid (Kq w (W7.setCell ⟨gn, m * 4 + 2, none⟩ (.int .i64 (cnt2 : Int)))) := HK.out.trans (HK6.out.trans ((Kq.below hb7).trans hK8))
        obtain ⟨z6, hz6⟩ : ∃ z6, ((L ++ X ++ [itN 0] ++ X2)[m]'hmL).n = z6 := ⟨_, rfl⟩
        rw [hz6] at e4
        obtain ⟨l6, hll⟩ : ∃ l6, (L ++ X ++ [itN 0] ++ X2).length = l6 := ⟨_, rfl⟩
        rw [hll] at e1 hmL hnc6
        have hmI : (m : Int) < (l6 : Int) := by omega
        clear hD8 hset hA7 hB8 hK8 hb7 e2 e3
        go_wp2
        go_roundw
        case rel => exact ⟨k', cnt + 1, rfl, by go_num, by omega, hk2, by omega, X ++ (itN cnt2 :: X2), _, HA8.out, HB8.out, HK8.out, HGN.out⟩
        case measure => simp [intOf]; omega
    have bu : ((Z : Int) == 4294967295) = false := beq_eq_false_iff_ne.2 (by unfold und at hu; omega)
    by_cases hodd : Z % 2 = 1
    case pos =>
      have bo : ((Z : Int) % 2 == 1) = true := beq_iff_eq.2 (by omega)
      have HC : Hid (itC (srcS ys) (L.length + X.length) d fin p = 125) := by
        show _ = _
        unfold itC
        rw [show (srcS ys).tag p = T from HT.out, show (srcS ys).num (p + 4) = Z from HZ.out]
        simp [hti, hu, hodd]
      clear hti hu hodd
      go_wp2_with (go_at_call 61; refine StopV.out ?_)
      refine ⟨Calls.mono (bad_any base rb _ _ _ 0 (p : Int) 125 (L ++ X) _ HA2.out.dr) ?_⟩
      rintro e W9 ⟨rfl, hbad, hb9, hk9⟩
      obtain ⟨g6, e2, e3⟩ := hbad.out.cells
      have hbl9 : base ≤ W9.heap.size := Nat.le_trans hbo (Nat.le_trans hb12.size hb9.out.size)
      go_wp2_with (go_at_call 26; refine StopV.out ?_)
      refine ⟨Calls.mono (any_bad _ g6 1 125 (by decide)) ?_⟩
      rintro e W7 ⟨rfl, hb7⟩
      go_wp2
      exact bodyPost_ret (v := .tuple #[.int .i64 (p : Int), .int .i64 (cnt : Int)]) (by simp [results, Tryz.results108, go_sem]) rfl ⟨p, cnt, rfl, HB.out.trans ((hb12.mono hbo).trans (hb9.out.trans (hb7.mono hbl9))), HK.out.trans ((Kq.below hb12).trans (hk9.out.trans (Kq.below hb7))), .inl ⟨p, 125, ((BadIn.of hbad.out (by decide)).less (by rw [List.length_append]; omega)).on hb7, HG.out.bad fun M nd rest hl _ hr => .bad (by rw [HIN.out]; exact stepI_bad HC.out (by decide) hl hr)⟩⟩
    have bo : ((Z : Int) % 2 == 1) = false := beq_eq_false_iff_ne.2 (by omega)
    by_cases hdp : 4 < d + 1
    case pos =>
      have hdd : (4 : Int) < (d : Int) + 1 := by omega
      have HC : Hid (itC (srcS ys) (L.length + X.length) d fin p = 126) := by
        show _ = _
        unfold itC
        rw [show (srcS ys).tag p = T from HT.out, show (srcS ys).num (p + 4) = Z from HZ.out]
        simp [hti, hu, hodd, hdp]
      clear hti hu hodd hdp
      go_wp2_with (go_at_call 61; refine StopV.out ?_)
      refine ⟨Calls.mono (bad_any base rb _ _ _ 0 (p : Int) 126 (L ++ X) _ HA2.out.dr) ?_⟩
      rintro e W9 ⟨rfl, hbad, hb9, hk9⟩
      obtain ⟨g6, e2, e3⟩ := hbad.out.cells
      have hbl9 : base ≤ W9.heap.size := Nat.le_trans hbo (Nat.le_trans hb12.size hb9.out.size)
      go_wp2_with (go_at_call 26; refine StopV.out ?_)
      refine ⟨Calls.mono (any_bad _ g6 1 126 (by decide)) ?_⟩
      rintro e W7 ⟨rfl, hb7⟩
      go_wp2
      exact bodyPost_ret (v := .tuple #[.int .i64 (p : Int), .int .i64 (cnt : Int)]) (by simp [results, Tryz.results108, go_sem]) rfl ⟨p, cnt, rfl, HB.out.trans ((hb12.mono hbo).trans (hb9.out.trans (hb7.mono hbl9))), HK.out.trans ((Kq.below hb12).trans (hk9.out.trans (Kq.below hb7))), .inl ⟨p, 126, ((BadIn.of hbad.out (by decide)).less (by rw [List.length_append]; omega)).on hb7, HG.out.bad fun M nd rest hl _ hr => .bad (by rw [HIN.out]; exact stepI_bad HC.out (by decide) hl hr)⟩⟩
    by_cases hsh : fin - p - 8 < Z
    case pos =>
      have hdd : ¬ (4 : Int) < (d : Int) + 1 := by omega
      have bs : (fin : Int) - (p : Int) - 8 < (Z : Int) := by omega
      have HC : Hid (itC (srcS ys) (L.length + X.length) d fin p = 122) := by
        show _ = _
        unfold itC
        rw [show (srcS ys).tag p = T from HT.out, show (srcS ys).num (p + 4) = Z from HZ.out]
        simp [hti, hu, hodd, hdp, hsh]
      clear hti hu hodd hdp hsh
      go_wp2_with (go_at_call 61; refine StopV.out ?_)
      refine ⟨Calls.mono (bad_any base rb _ _ _ 0 (p : Int) 122 (L ++ X) _ HA2.out.dr) ?_⟩
      rintro e W9 ⟨rfl, hbad, hb9, hk9⟩
      obtain ⟨g6, e2, e3⟩ := hbad.out.cells
      have hbl9 : base ≤ W9.heap.size := Nat.le_trans hbo (Nat.le_trans hb12.size hb9.out.size)
      go_wp2_with (go_at_call 26; refine StopV.out ?_)
      refine ⟨Calls.mono (any_bad _ g6 1 122 (by decide)) ?_⟩
      rintro e W7 ⟨rfl, hb7⟩
      go_wp2
      exact bodyPost_ret (v := .tuple #[.int .i64 (p : Int), .int .i64 (cnt : Int)]) (by simp [results, Tryz.results108, go_sem]) rfl ⟨p, cnt, rfl, HB.out.trans ((hb12.mono hbo).trans (hb9.out.trans (hb7.mono hbl9))), HK.out.trans ((Kq.below hb12).trans (hk9.out.trans (Kq.below hb7))), .inl ⟨p, 122, ((BadIn.of hbad.out (by decide)).less (by rw [List.length_append]; omega)).on hb7, HG.out.bad fun M nd rest hl _ hr => .bad (by rw [HIN.out]; exact stepI_bad HC.out (by decide) hl hr)⟩⟩
    have bs : ¬ (fin : Int) - (p : Int) - 8 < (Z : Int) := by omega
    by_cases hmany : L.length + X.length = 4096
    case pos =>
      have hdd : ¬ (4 : Int) < (d : Int) + 1 := by omega
      have HMA : Hid ((L ++ X).length = 4096) := by show _ = _; rw [List.length_append]; exact hmany
      rw [HMA.out] at c1
      have HC : Hid (itC (srcS ys) (L.length + X.length) d fin p = 127) := by
        show _ = _
        unfold itC
        rw [show (srcS ys).tag p = T from HT.out, show (srcS ys).num (p + 4) = Z from HZ.out]
        simp [hti, hu, hodd, hdp, hsh, hmany]
      clear hti hu hodd hdp hsh hmany
      go_wp2_with (go_at_call 61; refine StopV.out ?_)
      refine ⟨Calls.mono (bad_any base rb _ _ _ 0 (p : Int) 127 (L ++ X) _ HA2.out.dr) ?_⟩
      rintro e W9 ⟨rfl, hbad, hb9, hk9⟩
      obtain ⟨g6, e2, e3⟩ := hbad.out.cells
      have hbl9 : base ≤ W9.heap.size := Nat.le_trans hbo (Nat.le_trans hb12.size hb9.out.size)
      go_wp2_with (go_at_call 26; refine StopV.out ?_)
      refine ⟨Calls.mono (any_bad _ g6 1 127 (by decide)) ?_⟩
      rintro e W7 ⟨rfl, hb7⟩
      go_wp2
      exact bodyPost_ret (v := .tuple #[.int .i64 (p : Int), .int .i64 (cnt : Int)]) (by simp [results, Tryz.results108, go_sem]) rfl ⟨p, cnt, rfl, HB.out.trans ((hb12.mono hbo).trans (hb9.out.trans (hb7.mono hbl9))), HK.out.trans ((Kq.below hb12).trans (hk9.out.trans (Kq.below hb7))), .inl ⟨p, 127, ((BadIn.of hbad.out (by decide)).less (by rw [List.length_append]; omega)).on hb7, HG.out.bad fun M nd rest hl _ hr => .bad (by rw [HIN.out]; exact stepI_bad HC.out (by decide) hl hr)⟩⟩
    have HSG : Hid (∀ (M : List Nd) (nd : Option Nat) (rest : List Sp), M.length = L.length + X.length → rest.length = 2 * d + 1 → step (srcS ys) p M (isp fin false ex nd) rest = .go (p + 8) (bump M nd 1 ++ [itN 0]) (rsp (p + 8 + Z) false ex 0 (some M.length) :: isp fin false ex nd :: rest)) := fun M nd rest hl hr => by
      have q1 : (srcS ys).tag p = T := HT.out
      have q2 : (srcS ys).num (p + 4) = Z := HZ.out
      rw [HIN.out, stepI_go (by rw [q1]; exact hti) (by rw [q2]; exact fun h => hodd h.2) (by omega) (by rw [q2]; exact fun h => hsh h.2) (by omega), q2]
      show Res.go _ _ (⟨some M.length, if Z = und then fin else p + 8 + Z, decide (Z = und), false, ex, 0⟩ :: _ :: rest) = _
      rw [if_neg hu, decide_eq_false hu]
      rfl
    have HTI : Hid (T = 4294893568) := hti
    have HMX : Hid (L.length + X.length ≠ 4096 ∧ L.length + X.length ≤ 4096) := ⟨hmany, l4⟩
    have HRC : Hid (RmC (d + 1)) := HRM.out (by omega)
    have hfit : p + 8 + Z ≤ fin := by omega
    have bmm : decide ((4096 : Int) ≤ ((L ++ X).length : Int)) = false := decide_eq_false (by rw [List.length_append]; omega)
    have hdd : ¬ (4 : Int) < (d : Int) + 1 := by omega
    obtain ⟨i0, hi, hz0, hz1, hz2⟩ := info_parts Wk.info34
    obtain ⟨m, hml⟩ : ∃ m, (L ++ X).length = m := ⟨_, rfl⟩
    have HL : Hid ((L ++ X).length = m) := hml
    have hmm : m ≠ 4096 ∧ m ≤ 4096 := by rw [List.length_append] at hml; omega
    rw [hml] at c1 bmm
    have e2 := HA2.out.dr.c2
    have e3 := HA2.out.dr.c3
    clear hml hmany hti l4 hu hodd hsh
    go_wp2_with (go_at_call 26; refine StopV.out ?_)
    refine ⟨Calls.mono (any_no _) ?_⟩
    rintro e W3 ⟨rfl, hb3⟩
    have hb13 : Below wo.heap.size wo W3 := hb12.trans (hb3.mono hb12.size)
    have HA3 : Hid (Ask base rb a n cap ys W3 (L ++ X) (.slice na m ncap)) := by have := HA2.out.on hb3; rw [HL.out] at this; exact this
    have c13 := HA3.out.dr.c1
    have HO : Hid (∀ o, (W3.alloc o).ownsRow base 54 4 (.slice na m ncap) m (nds (L ++ X))) := fun o => by
      have := HA3.out.dr.nd
      rw [HL.out] at this
      exact World.ownsRow.alloc this o
    have HBS : Hid (∀ o, base ≤ (W3.alloc o).heap.size) := fun o => Nat.le_trans HA3.out.dr.lt (by simp)
    have h63 : m + 1 ≤ maxLen := by unfold maxLen; omega
    have hby : (m + 1) * 40 ≤ 140737488355328 := by omega
    have HADD : Hid (∀ (Y W4 : World) (g4 c4 : Nat), Below W3.heap.size W3 Y → Y.grownBy W4 (Value.slice na m ncap).ownBlock → W4.ownsRow base 54 4 (.slice (some ⟨g4, 0, none⟩) (m + 1) c4) (m + 1) (nds (L ++ X) ++ [.int .u32 (T : Int), .int .i64 29, .int .i64 0, .string ⟨#[]⟩]) →
        W4.cell? ⟨rb, 1, none⟩ = some (.slice na m ncap) ∧ W4.frozen? ⟨rb, 1, none⟩ = false ∧ Ask base rb a n cap ys (W4.setCell ⟨rb, 1, none⟩ (.slice (some ⟨g4, 0, none⟩) (m + 1) c4)) (L ++ X ++ [itN 0]) (.slice (some ⟨g4, 0, none⟩) (m + 1) c4) ∧ Below base wo (W4.setCell ⟨rb, 1, none⟩ (.slice (some ⟨g4, 0, none⟩) (m + 1) c4)) ∧ Kq wo (W4.setCell ⟨rb, 1, none⟩ (.slice (some ⟨g4, 0, none⟩) (m + 1) c4))) := by
      intro Y W4 g4 c4 hY hg4 ho
      have hAX := HA3.out.on hY
      have hn' : W4.ownsRow base 54 4 (.slice (some ⟨g4, 0, none⟩) (m + 1) c4) (L ++ X ++ [itN 0]).length (nds (L ++ X ++ [itN 0])) := by
        rw [List.length_append, HL.out, Wk.nds_append]
        rw [HTI.out] at ho
        exact ho
      obtain ⟨p1, p2, p3, p4, p5⟩ := hAX.dr.added hg4 hn'
      have hb0X : Below wo.heap.size wo Y := hb13.trans (hY.mono hb13.size)
      exact ⟨p1, p2, ⟨hAX.bv.on p4, p3, by rw [List.length_append, HL.out]; simp; omega⟩, (hb0X.mono hbo).trans p4, (Kq.below hb0X).trans p5⟩
    clear e2 e3 c1
    go_wp2_with (at_builtin; refine StopB2.out ?_)
    refine ⟨wpList_append_lies _ rfl (.tmp 124) (.tmp 127) 25 rfl base 54 i0 _ 4 40 Tryz.underlying25 hi hz0 hz1 hz2 rfl (by decide) (.slice na m ncap) m (nds (L ++ X)) rfl (HO.out _) ⟨W3.heap.size, 0, none⟩ 1 1 [.int .u32 (T : Int), .int .i64 29, .int .i64 0, .string ⟨#[]⟩] rfl rfl (World.news_of_block (heap_alloc_new W3 _)) (by intro u hu; simp at hu; rcases hu with rfl | rfl | rfl | rfl <;> rfl) (by decide) h63 hby (HBS.out _) _ rfl ?_⟩
    intro g4 c4 W4 hown4 hgrow4 hat4 hlt4
    obtain ⟨q2, f2, hA5, hB5, hK5⟩ := HADD.out _ W4 g4 c4 ((Below.refl _ W3).alloc (Nat.le_refl _) _) hgrow4 hown4
    obtain ⟨W5, hW5⟩ : ∃ W5, W4.setCell ⟨rb, 1, none⟩ (.slice (some ⟨g4, 0, none⟩) (m + 1) c4) = W5 := ⟨_, rfl⟩
    rw [hW5] at hA5 hB5 hK5
    have HA5 : Hid (Ask base rb a n cap ys W5 (L ++ X ++ [itN 0]) (.slice (some ⟨g4, 0, none⟩) (m + 1) c4)) := hA5
    have HB5 : Hid (Below base wo W5) := hB5
    have HK5 : Hid (Kq wo W5) := hK5
    have cR : Hid (Calls Tryz.prog 37 #[.pointer (some ⟨rb, 0, none⟩), .int .i64 ((p : Int) + 8), .int .i64 ((p : Int) + 8 + (Z : Int)), .bool false, .bool ex, .int .i64 ((d : Int) + 1)] W5 (OutP (srcS ys) base rb a n cap ys W5 (L ++ X ++ [itN 0]) (2 * (d + 1)) (rsp (p + 8 + Z) false ex 0) (p + 8) (p + 8 + Z))) := by
      have := HRC.out W5 base rb a n cap ys (L ++ X ++ [itN 0]) _ (p + 8) (p + 8 + Z) false ex HA5.out (by omega) (by omega)
      rw [show ((p + 8 : Nat) : Int) = (p : Int) + 8 by omega, show ((d + 1 : Nat) : Int) = (d : Int) + 1 by omega, show ((p + 8 + Z : Nat) : Int) = (p : Int) + 8 + (Z : Int) by omega] at this
      exact this
    clear hown4 hgrow4 hat4 hlt4 hA5 hB5 hK5 c13
    go_wp2_with (go_at_call 37; refine StopV.out ?_)
    refine ⟨Calls.mono cR.out ?_⟩
    rintro e W6 ⟨k', cnt2, rfl, hb6, hk6, ho⟩
    have hLT : (L ++ X ++ [itN 0]).length = m + 1 := by rw [List.length_append, HL.out]; rfl
    have HMX2 : Hid (m = L.length + X.length) := by show _ = _; rw [← HL.out, List.length_append]
    have hB6 : Below base wo W6 := HB5.out.trans hb6.out
    have HK6 : Hid (Kq wo W6) := HK5.out.trans hk6.out
    have hbl6 : base ≤ W6.heap.size := Nat.le_trans hbo hB6.size
    rcases ho with ⟨x, c, hbad, hel⟩ | ⟨X2, nv2, hA6, hk1, hk2, hcnt, hel⟩
    · obtain ⟨L6, nv6, hD6, hc6, hl6⟩ := hbad
      obtain ⟨g6, e2, e3⟩ := hD6.cells
      rw [hLT] at hl6 hel
      have HD6 : Hid (BadIn base rb (.slice a n cap) W6 L.length x c) := ⟨L6, nv6, hD6, hc6, by have := HMX2.out; omega⟩
      have HEB : Hid (BadFor (srcS ys) L.length (2 * d + 1) (isp fin false ex) k x c) := HG.out.itemBad HSG.out (by rw [HMX2.out] at hel; exact hel)
      have hcI : (c : Int) ≠ 0 := by omega
      have HC0 : Hid ((c : Int) ≠ 0) := hcI
      clear hD6 hc6 hl6 hel hcI
      go_wp2_with (go_at_call 26; refine StopV.out ?_)
      refine ⟨Calls.mono (any_bad _ g6 1 (c : Int) HC0.out) ?_⟩
      rintro e W7 ⟨rfl, hb7⟩
      go_wp2
      exact bodyPost_ret (v := .tuple #[.int .i64 (k' : Int), .int .i64 (cnt : Int)]) (by simp [results, Tryz.results108, go_sem]) rfl ⟨k', cnt, rfl, HB.out.trans (hB6.trans (hb7.mono hbl6)), HK.out.trans (HK6.out.trans (Kq.below hb7)), .inl ⟨x, c, HD6.out.on hb7, HEB.out⟩⟩
    · have e2 := hA6.dr.c2
      have e3 := hA6.dr.c3
      rw [hLT] at hel
      have HA6 : Hid (Ask base rb a n cap ys W6 (L ++ X ++ [itN 0] ++ X2) nv2) := hA6
      have HGN : Hid (GoesFor (srcS ys) L.length (2 * d + 1) (isp fin false ex) (isp fin false ex) k k' (cnt + 1) (X ++ (itN cnt2 :: X2))) := HG.out.item HSG.out (by rw [HMX2.out] at hel; exact hel)
      clear hel hA6
      go_wp2_with (go_at_call 26; refine StopV.out ?_)
      refine ⟨Calls.mono (any_no _) ?_⟩
      rintro e W7 ⟨rfl, hb7⟩
      have hA7 := HA6.out.on hb7
      have hmL : m < (L ++ X ++ [itN 0] ++ X2).length := by rw [List.length_append, hLT]; omega
      obtain ⟨gn, ncap6, rfl, hnc6, e1, e4, e5, hD8, hB8, hK8, -⟩ := hA7.dr.setN m hmL (cnt2 : Int)
      have hset : (L ++ X ++ [itN 0] ++ X2).set m { (L ++ X ++ [itN 0] ++ X2)[m]'hmL with n := (cnt2 : Int) } = L ++ (X ++ (itN cnt2 :: X2)) := by
        have h1 : (L ++ X ++ [itN 0] ++ X2)[m]'hmL = itN 0 := by simp [← HL.out]
        rw [h1, List.append_assoc (L ++ X), List.set_append_right _ _ (by rw [HL.out]; exact Nat.le_refl _), HL.out, Nat.sub_self, List.append_assoc]
        rfl
      rw [hset] at hD8
      have HA8 : Hid (Ask base rb a n cap ys (W7.setCell ⟨gn, m * 4 + 2, none⟩ (.int .i64 (cnt2 : Int))) (L ++ (X ++ (itN cnt2 :: X2))) (.slice (some ⟨gn, 0, none⟩) (L ++ X ++ [itN 0] ++ X2).length ncap6)) := ⟨hA7.bv.on hB8, hD8, by have := hA7.l4; simp at this ⊢; omega⟩
      have HB8 : Hid (Below base w (W7.setCell ⟨gn, m * 4 + 2, none⟩ (.int .i64 (cnt2 : Int)))) := HB.out.trans (hB6.trans ((hb7.mono hbl6).trans hB8))
      have HK8 : Hid (Kq w (W7.setCell ⟨gn, m * 4 + 2, none⟩ (.int .i64 (cnt2 : Int)))) := HK.out.trans (HK6.out.trans ((Kq.below hb7).trans hK8))
      obtain ⟨z6, hz6⟩ : ∃ z6, ((L ++ X ++ [itN 0] ++ X2)[m]'hmL).n = z6 := ⟨_, rfl⟩
      rw [hz6] at e4
      obtain ⟨l6, hll⟩ : ∃ l6, (L ++ X ++ [itN 0] ++ X2).length = l6 := ⟨_, rfl⟩
      rw [hll] at e1 hmL hnc6
      have hmI : (m : Int) < (l6 : Int) := by omega
      clear hD8 hset hA7 hB8 hK8 hb7 e2 e3
      go_wp2
      go_roundw
      case rel => exact ⟨k', cnt + 1, rfl, by go_num, by omega, by omega, by omega, X ++ (itN cnt2 :: X2), _, HA8.out, HB8.out, HK8.out, HGN.out⟩
      case measure => simp [intOf]; omega
end Go.Proofs.YtoikdpjjcnmgeaaGreatDoor
