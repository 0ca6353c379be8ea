import Derived.Test.YtoikdpjjcnmgeaaGreatDoorZh
import Derived.Deep.LoopGhost
/-
  DERIVED. Elements one behind the other: the document's: up to a mark.
-/
namespace Go.Proofs.YtoikdpjjcnmgeaaGreatDoor
open Go Go.Proofs Go.RowKit
open Wk (Nd nds)
open Go.Sort

set_option maxRecDepth 100000 in
set_option maxHeartbeats 32000000 in
theorem rm_open (d : Nat) (hel : ElC d) (w : World) (base rb : Nat) (a : Option Addr) (n cap : Nat) (ys : List UInt8) (L : List Nd) (nv : Value) (k fin : Nat) (ex : Bool) (hA : Ask base rb a n cap ys w L nv) (hkf : k ≤ fin) (hfn : fin ≤ n) :
    Calls Tryz.prog 37 #[.pointer (some ⟨rb, 0, none⟩), .int .i64 (k : Int), .int .i64 (fin : Int), .bool true, .bool ex, .int .i64 (d : Int)] w (OutP (srcS ys) base rb a n cap ys w L (2 * d) (rsp fin true ex 0) k fin) := by
  have HEL : Hid (ElC d) := hel
  have hnb : n ≤ 1048576 := hA.bv.s
  have HI0 : Hid (RmI base rb a n cap ys w L d k fin true ex k 0 0 w) := ⟨[], nv, by rw [List.append_nil]; exact hA, Below.refl _ _, Kq.refl _, by decide, GoesFor.start _ _ _ _ _⟩
  have hbl : base ≤ w.heap.size := hA.dr.lt
  have hfb : fin ≤ 1048576 := by omega
  clear hel hA
  go_enter Tryz.func37, Tryz.ntmps37
  go_wp2
  go_loopw [1, 14, 15] (fun x1 x14 x15 wr => ∃ (p last cnt : Nat), x1 = .int .i64 (p : Int) ∧ x14 = .int .u32 (last : Int) ∧ x15 = .int .i64 (cnt : Int) ∧ k ≤ p ∧ p ≤ fin ∧ cnt ≤ p ∧ Hid (RmI base rb a n cap ys w L d k fin true ex p last cnt wr)) (fun x1 _ _ _ => n - (intOf x1).toNat)
  case atStart => exact ⟨k, 0, 0, rfl, rfl, rfl, Nat.le_refl _, hkf, Nat.zero_le _, HI0⟩
  case round =>
    obtain ⟨p, last, cnt, rfl, rfl, rfl, hkp, hpf, hcp, HI⟩ := hrel
    obtain ⟨wo, rfl⟩ : ∃ wo, wo = wr := ⟨_, rfl⟩
    obtain ⟨X, nv', hA, hB, hK, hla, hG⟩ := HI.out
    have HA : Hid (Ask base rb a n cap ys wo (L ++ X) nv') := hA
    have HB : Hid (Below base w wo) := hB
    have HK : Hid (Kq w wo) := hK
    have HG : Hid (GoesFor (srcS ys) L.length (2 * d) (rsp fin true ex 0) (rsp fin true ex last) k p cnt X) := hG
    have hrb : base ≤ rb ∧ rb < wo.heap.size := ⟨hA.dr.hb, Rp.cell_lt hA.dr.c0⟩
    have hbo : base ≤ wo.heap.size := hA.dr.lt
    clear HI HI0 hA hB hK hG
    by_cases h8 : fin - p < 8
    case pos =>
      have b8 : (fin : Int) - (p : Int) < 8 := by omega
      go_wp2_with (go_at_call 61; refine StopV.out ?_)
      refine ⟨Calls.mono (bad_any base rb _ nv' _ 0 (p : Int) 122 (L ++ X) _ HA.out.dr) ?_⟩
      rintro e W9 ⟨rfl, hbad, hb9, hk9⟩
      go_wp2
      exact bodyPost_ret (v := .tuple #[.int .i64 (p : Int), .int .i64 (cnt : Int)]) (by simp [results, Tryz.results37, go_sem]) rfl ⟨p, cnt, rfl, HB.out.trans ((Below.refl base wo).trans hb9.out), HK.out.trans ((Kq.refl wo).trans hk9.out), .inl ⟨p, 122, (BadIn.of hbad.out (by decide)).less (by rw [List.length_append]; omega), HG.out.bad fun M nd rest _ _ _ => .bad (zs_few (.inl rfl) h8)⟩⟩
    have b8 : ¬ (fin : Int) - (p : Int) < 8 := by omega
    have hp8 : p + 8 ≤ fin := by omega
    have cT := HA.out.tag (p := p) (by omega)
    have ht := tagS_lt ys p
    obtain ⟨T, hT⟩ : ∃ T, tagS ys p = T := ⟨_, rfl⟩
    rw [hT] at cT ht
    have HT : Hid _ := hT
    have HH8 : Hid _ := h8
    clear hT h8
    go_wp2_with (go_at_call 62; refine StopV.out ?_)
    refine ⟨Calls.mono cT ?_⟩
    rintro e W1 ⟨rfl, hb1⟩
    have HA1 : Hid (Ask base rb a n cap ys W1 (L ++ X) nv') := HA.out.on hb1
    clear cT
    by_cases hmk : T = 4294893581
    case pos =>
      have bm : ((T : Int) == 4294893581) = true := by rw [hmk]; rfl
      have HMK : Hid _ := hmk
      have cZ := HA1.out.num (p := p) (by omega)
      obtain ⟨Z, hZ⟩ : ∃ Z, numS ys (p + 4) = Z := ⟨_, rfl⟩
      rw [hZ] at cZ
      have HZ : Hid _ := hZ
      clear hmk hZ
      go_wp2_with (go_at_call 63; refine StopV.out ?_)
      refine ⟨Calls.mono cZ ?_⟩
      rintro e W2 ⟨rfl, hb2⟩
      have HA2 : Hid (Ask base rb a n cap ys W2 (L ++ X) nv') := HA1.out.on hb2
      have hb12 : Below wo.heap.size wo W2 := hb1.trans (hb2.mono hb1.size)
      have HST : Hid (∀ (M : List Nd) (nd : Option Nat) (rest : List Sp), step (srcS ys) p M (rsp fin true ex last nd) rest = if Z ≠ 0 then .bad p 125 else .go (p + 8) M rest) := fun M nd rest => by
        rw [← HZ.out]
        exact zs_mark rfl HH8.out (HT.out.trans HMK.out)
      clear cZ
      by_cases hz : Z = 0
      case neg =>
        have bz : ((Z : Int) != 0) = true := bne_iff_ne.2 (by omega)
        have HST2 : Hid (∀ (M : List Nd) (nd : Option Nat) (rest : List Sp), step (srcS ys) p M (rsp fin true ex last nd) rest = .bad p 125) := fun M nd rest => by rw [HST.out, if_pos hz]
        clear hz
        go_wp2_with (go_at_call 61; refine StopV.out ?_)
        refine ⟨Calls.mono (bad_any base rb _ nv' _ 0 (p : Int) 125 (L ++ X) _ HA2.out.dr) ?_⟩
        rintro e W9 ⟨rfl, hbad, hb9, hk9⟩
        go_wp2
        exact bodyPost_ret (v := .tuple #[.int .i64 ((p : Int) + 8), .int .i64 (cnt : Int)]) (by simp [results, Tryz.results37, go_sem]) rfl ⟨p + 8, cnt, by rw [show ((p + 8 : Nat) : Int) = (p : Int) + 8 by omega], HB.out.trans ((hb12.mono hbo).trans hb9.out), HK.out.trans ((Kq.below hb12).trans hk9.out), .inl ⟨p, 125, (BadIn.of hbad.out (by decide)).less (by rw [List.length_append]; omega), HG.out.bad fun M nd rest _ _ _ => .bad (HST2.out M nd rest)⟩⟩
      have bz : ((Z : Int) != 0) = false := by rw [hz]; rfl
      have HST2 : Hid (∀ (M : List Nd) (nd : Option Nat) (rest : List Sp), step (srcS ys) p M (rsp fin true ex last nd) rest = .go (p + 8) M rest) := fun M nd rest => by rw [HST.out, if_neg (fun h => h hz)]
      clear hz
      go_wp2
      exact bodyPost_ret (v := .tuple #[.int .i64 ((p : Int) + 8), .int .i64 (cnt : Int)]) (by simp [results, Tryz.results37, go_sem]) rfl ⟨p + 8, cnt, by rw [show ((p + 8 : Nat) : Int) = (p : Int) + 8 by omega], HB.out.trans (hb12.mono hbo), HK.out.trans (Kq.below hb12), .inr ⟨X, nv', HA2.out, by omega, hp8, by omega, HG.out.out fun M nd rest => HST2.out M nd rest⟩⟩
    have bm : ((T : Int) == 4294893581) = false := beq_eq_false_iff_ne.2 (by omega)
    have HMK : Hid (¬ T = 4294893581) := hmk
    clear hmk
    have HIN : Hid (∀ (M : List Nd) (nd : Option Nat) (rest : List Sp), step (srcS ys) p M (rsp fin true ex last nd) rest = stepE (srcS ys) p M (rsp fin true ex last nd) rest) := fun M nd rest => by
      rw [zs_in (.inl rfl) HH8.out (fun h => HMK.out (HT.out.symm.trans h.2))]
      rfl
    go_wp2_with (go_at_call 64; refine StopV.out ?_)
    refine ⟨Calls.mono (barred_any _ T) ?_⟩
    rintro e Wx ⟨rfl, rfl⟩
    by_cases hbar : isBar T = true
    case pos =>
      rw [hbar]
      have HE3 : Hid (∀ (M : List Nd) (nd : Option Nat) (rest : List Sp), step (srcS ys) p M (rsp fin true ex last nd) rest = .bad p 123) := fun M nd rest => by
        rw [HIN.out]
        unfold stepE
        rw [if_pos (.inl (by rw [show (srcS ys).tag p = T from HT.out]; exact hbar))]
      clear hbar
      go_wp2_with (go_at_call 61; refine StopV.out ?_)
      refine ⟨Calls.mono (bad_any base rb _ nv' _ 0 (p : Int) 123 (L ++ X) _ HA1.out.dr) ?_⟩
      rintro e W9 ⟨rfl, hbad, hb9, hk9⟩
      go_wp2
      exact bodyPost_ret (v := .tuple #[.int .i64 (p : Int), .int .i64 (cnt : Int)]) (by simp [results, Tryz.results37, go_sem]) rfl ⟨p, cnt, rfl, HB.out.trans ((hb1.mono hbo).trans hb9.out), HK.out.trans ((Kq.below hb1).trans hk9.out), .inl ⟨p, 123, (BadIn.of hbad.out (by decide)).less (by rw [List.length_append]; omega), HG.out.bad fun M nd rest _ _ _ => .bad (HE3.out M nd rest)⟩⟩
    have hbar2 : isBar T = false := Bool.eq_false_iff.2 hbar
    rw [hbar2]
    have HBAR : Hid _ := hbar2
    clear hbar hbar2
    by_cases hle : T ≤ last
    case pos =>
      have ble : (T : Int) ≤ (last : Int) := by omega
      have HE3 : Hid (∀ (M : List Nd) (nd : Option Nat) (rest : List Sp), step (srcS ys) p M (rsp fin true ex last nd) rest = .bad p 123) := fun M nd rest => by
        rw [HIN.out]
        unfold stepE
        rw [if_pos (.inr (by rw [show (srcS ys).tag p = T from HT.out]; exact hle))]
      clear hle
      go_wp2_with (go_at_call 61; refine StopV.out ?_)
      refine ⟨Calls.mono (bad_any base rb _ nv' _ 0 (p : Int) 123 (L ++ X) _ HA1.out.dr) ?_⟩
      rintro e W9 ⟨rfl, hbad, hb9, hk9⟩
      go_wp2
      exact bodyPost_ret (v := .tuple #[.int .i64 (p : Int), .int .i64 (cnt : Int)]) (by simp [results, Tryz.results37, go_sem]) rfl ⟨p, cnt, rfl, HB.out.trans ((hb1.mono hbo).trans hb9.out), HK.out.trans ((Kq.below hb1).trans hk9.out), .inl ⟨p, 123, (BadIn.of hbad.out (by decide)).less (by rw [List.length_append]; omega), HG.out.bad fun M nd rest _ _ _ => .bad (HE3.out M nd rest)⟩⟩
    have ble : ¬ (T : Int) ≤ (last : Int) := by omega
    have HSE : Hid (∀ (M : List Nd) (nd : Option Nat) (rest : List Sp), step (srcS ys) p M (rsp fin true ex last nd) rest = match (srcS ys).hd ex p fin with | .inl c => .bad p c | .inr h => stepB (srcS ys) p M (rsp fin true ex last nd) rest h) := fun M nd rest => by
      rw [HIN.out]
      unfold stepE
      rw [if_neg (fun h => by rw [show (srcS ys).tag p = T from HT.out] at h; rcases h with h | h; rw [HBAR.out] at h; cases h; exact hle h)]
      rfl
    clear hle HIN
    obtain ⟨W2, hW2⟩ : ∃ W2, W1.alloc (.cells #[.int .i64 0, .int .i64 0, .int .u64 0, .bool false] 124) = W2 := ⟨_, rfl⟩
    have hb2 : Below W1.heap.size W1 W2 := by rw [← hW2]; exact (Below.refl _ _).alloc (Nat.le_refl _) _
    have HH2 : Hid (DH W2 W1.heap.size 0 0 0 false) := by rw [← hW2]; exact DH.new W1 0 0 0 false
    have HT2 : Hid (∃ cs, W2.heap[W1.heap.size]? = some (.cells cs 124)) := by rw [← hW2]; exact ⟨_, Array.getElem?_push_size⟩
    have HA2 : Hid (Ask base rb a n cap ys W2 (L ++ X) nv') := HA1.out.on hb2
    have hg1 : base ≤ W1.heap.size ∧ W1.heap.size ≠ rb := by have := hb1.size; omega
    have hb12 : Below wo.heap.size wo W2 := hb1.trans (hb2.mono hb1.size)
    have HW2 : Hid (W1.alloc (.cells #[.int .i64 0, .int .i64 0, .int .u64 0, .bool false] 124) = W2) := hW2
    clear hW2
    cases ex with
    | false =>
      have cI : Calls Tryz.prog 66 #[.pointer (some ⟨rb, 0, none⟩), .int .i64 (p : Int)] W2 fun e w' => e = .returned (.agg #[.int .i64 (hdI ys p).v, .int .i64 ((p + (hdI ys p).sz : Nat) : Int), .int .u64 ((hdI ys p).len : Int), .bool true]) ∧ Below W2.heap.size W2 w' := HA2.out.imp (p := p) (by omega)
      obtain ⟨hh, hhe⟩ : ∃ hh, hdI ys p = hh := ⟨_, rfl⟩
      have HHD : Hid ((srcS ys).hd false p fin = .inr hh) := by show (Sum.inr (hdI ys p) : Nat ⊕ Hd) = _; rw [hhe]
      have hex : hh.ex = false := by rw [← hhe]; rfl
      rw [hhe] at cI
      clear hhe
      go_wp2_with (go_at_call 66; refine StopV.out ?_)
      rw [HW2.out]
      refine ⟨Calls.mono cI ?_⟩
      rintro e W3 ⟨rfl, hb3⟩
      have HA3 : Hid (Ask base rb a n cap ys W3 (L ++ X) nv') := HA2.out.on hb3
      have HH3 : Hid (DH W3 W1.heap.size 0 0 0 false) := HH2.out.on hb3
      have HT3 : Hid (∃ cs, W3.heap[W1.heap.size]? = some (.cells cs 124)) := Below.ty hb3 HT2.out
      have hb13 : Below wo.heap.size wo W3 := hb12.trans (hb3.mono hb12.size)
      clear cI hb3
      obtain ⟨g1, g2, g3, g4, g5⟩ := (src_ok ys).hd _ p fin _ (by omega) (by rw [show (srcS ys).tag p = T from HT.out]; exact HBAR.out) HHD.out
      have g6 := hd_lt HHD.out
      have hws : wo.heap.size ≤ W1.heap.size := hb1.size
      obtain ⟨f0, f1, f2, f3, ff⟩ := HH3.out
      obtain ⟨fr, hfr⟩ : ∃ fr, p + hh.sz = fr := ⟨_, rfl⟩
      have HFR : Hid _ := hfr
      have cE : Hid (∀ W, Ask base rb a n cap ys W (L ++ X) nv' → Calls Tryz.prog 67 #[.pointer (some ⟨rb, 0, none⟩), .int .i64 (p : Int), .int .i64 (fin : Int), .int .u32 (T : Int), .agg #[.int .i64 hh.v, .int .i64 (fr : Int), .int .u64 (hh.len : Int), .bool true], .bool false, .int .i64 (d : Int)] W (ElP (srcS ys) base rb a n cap ys W (L ++ X) (2 * d) fin false p hh)) := fun W hW => by
        have := HEL.out W base rb a n cap ys (L ++ X) nv' p fin false true hh hW hfn g1 g2 (fun h => g3 h) g6 (by rw [hex]; rfl)
        unfold dhV at this
        rw [hfr, HT.out] at this
        exact this
      obtain ⟨W4, hW4⟩ : ∃ W4, (((W3.setCell ⟨W1.heap.size, 0, none⟩ (.int .i64 hh.v)).setCell ⟨W1.heap.size, 1, none⟩ (.int .i64 (fr : Int))).setCell ⟨W1.heap.size, 2, none⟩ (.int .u64 (hh.len : Int))).setCell ⟨W1.heap.size, 3, none⟩ (.bool true) = W4 := ⟨_, rfl⟩
      have HA4 : Hid (Ask base rb a n cap ys W4 (L ++ X) nv') := by rw [← hW4]; exact HA3.out.fill HT3.out hg1.1 hg1.2 _ _ _ _
      have HH4 : Hid (DH W4 W1.heap.size hh.v fr hh.len true) := by rw [← hW4]; exact HH3.out.fill hh.v fr hh.len true
      have hB4 : Below base wo W4 := by rw [← hW4]; exact below_fill (hb13.mono hbo) hg1.1 _ _ _ _
      have HK4 : Hid (Kq wo W4) := by rw [← hW4]; exact (Kq.below hb13).fill hws _ _ _ _
      rw [show ((p + hh.sz : Nat) : Int) = (fr : Int) by rw [← hfr]]
      generalize hh.v = hv at f0 f1 f2 f3 ff cE hW4 HH4 ⊢
      generalize hh.len = hl at cE hW4 HH4 ⊢
      clear g1 g2 g3 g4 g5 g6 hfr
      have e2 := HA4.out.dr.c2
      have e3 := HA4.out.dr.c3
      go_wp2_with (go_at_call 26; refine StopV.out ?_)
      refine ⟨Calls.mono (any_no _) ?_⟩
      rintro e W5 ⟨rfl, hb5⟩
      have HA5 : Hid (Ask base rb a n cap ys W5 (L ++ X) nv') := HA4.out.on hb5
      have HH5 : Hid (DH W5 W1.heap.size hv fr hl true) := HH4.out.on hb5
      have hB5 : Below base wo W5 := hB4.trans (hb5.mono (Nat.le_trans hbo hB4.size))
      have HK5 : Hid (Kq wo W5) := HK4.out.trans (Kq.below hb5)
      obtain ⟨j0, j1, j2, j3, jf⟩ := HH5.out
      clear e2 e3 hb5 f0 f1 f2 f3 ff
      go_wp2_with (go_at_call 67; refine StopV.out ?_)
      refine ⟨Calls.mono (cE.out _ HA5.out) ?_⟩
      rintro e W6 ⟨k', rfl, hb6, hk6, ho⟩
      have hB6 : Below base wo W6 := hB5.trans hb6.out
      have HK6 : Hid (Kq wo W6) := HK5.out.trans hk6.out
      clear hb6 hk6 j0 j1 j2 j3 jf cE
      rcases ho with ⟨x, c, hbad, hel⟩ | ⟨X2, nv2, hA6, hk1, hk2, hel⟩
      · obtain ⟨L6, nv6, hD6, hc6, hl6⟩ := hbad
        obtain ⟨g6, e2, e3⟩ := hD6.cells
        have HD6 : Hid (BadIn base rb (.slice a n cap) W6 L.length x c) := ⟨L6, nv6, hD6, hc6, by rw [List.length_append] at hl6; omega⟩
        have HEB : Hid (BadFor (srcS ys) L.length (2 * d) (rsp fin true false 0) k x c) := HG.out.elemBad (fun M nd rest => by rw [HSE.out, HHD.out]) (by rw [List.length_append] at hel; exact hel)
        have hcI : (c : Int) ≠ 0 := by omega
        have HC0 : Hid _ := hcI
        clear hD6 hc6 hl6 hel hcI
        go_wp2_with (go_at_call 26; refine StopV.out ?_)
        refine ⟨Calls.mono (any_bad _ g6 1 (c : Int) HC0.out) ?_⟩
        rintro e W7 ⟨rfl, hb7⟩
        go_wp2
        exact bodyPost_ret (v := .tuple #[.int .i64 (k' : Int), .int .i64 (cnt : Int)]) (by simp [results, Tryz.results37, go_sem]) rfl ⟨k', cnt, rfl, HB.out.trans (hB6.trans (hb7.mono (Nat.le_trans hbo hB6.size))), HK.out.trans (HK6.out.trans (Kq.below hb7)), .inl ⟨x, c, HD6.out.on hb7, HEB.out⟩⟩
      · have e2 := hA6.dr.c2
        have e3 := hA6.dr.c3
        have HA6 : Hid (Ask base rb a n cap ys W6 (L ++ (X ++ X2)) nv2) := by rw [← List.append_assoc]; exact hA6
        have HGN : Hid (GoesFor (srcS ys) L.length (2 * d) (rsp fin true false 0) (rsp fin true false T) k k' (cnt + if T % 65536 = 0 then 0 else 1) (X ++ X2)) := by
          have := HG.out.elem (h := hh) (fun M nd rest => by rw [HSE.out, HHD.out]) (by rw [List.length_append] at hel; exact hel)
          rw [show (srcS ys).tag p = T from HT.out] at this
          exact this
        clear hA6 hel
        go_wp2_with (go_at_call 26; refine StopV.out ?_)
        refine ⟨Calls.mono (any_no _) ?_⟩
        rintro e W7 ⟨rfl, hb7⟩
        have HA7 : Hid (Ask base rb a n cap ys W7 (L ++ (X ++ X2)) nv2) := HA6.out.on hb7
        have HB7 : Hid (Below base w W7) := HB.out.trans (hB6.trans (hb7.mono (Nat.le_trans hbo hB6.size)))
        have HK7 : Hid (Kq w W7) := HK.out.trans (HK6.out.trans (Kq.below hb7))
        have band : bits .and .u32 (T : Int) 65535 = ((T % 65536 : Nat) : Int) := bits_low16 ht
        have HTL : Hid _ := ht
        clear e2 e3 hb7 ht
        by_cases hg : T % 65536 = 0
        · rw [hg] at band
          have HGN2 : Hid (GoesFor (srcS ys) L.length (2 * d) (rsp fin true false 0) (rsp fin true false T) k k' cnt (X ++ X2)) := by have := HGN.out; rw [if_pos hg] at this; exact this
          clear hg HGN
          go_wp2
          go_roundw
          case rel => exact ⟨k', T, cnt, rfl, rfl, rfl, by omega, hk2, by omega, X ++ X2, nv2, HA7.out, HB7.out, HK7.out, HTL.out, HGN2.out⟩
          case measure => simp [intOf]; omega
        · obtain ⟨q, hq⟩ : ∃ q, T % 65536 = q := ⟨_, rfl⟩
          have HGN2 : Hid (GoesFor (srcS ys) L.length (2 * d) (rsp fin true false 0) (rsp fin true false T) k k' (cnt + 1) (X ++ X2)) := by have := HGN.out; rw [if_neg hg] at this; exact this
          rw [hq] at band hg
          have bg : ((q : Int) != 0) = true := bne_iff_ne.2 (by omega)
          clear hg hq HGN
          go_wp2
          go_roundw
          case rel => exact ⟨k', T, cnt + 1, rfl, rfl, by go_num, by omega, hk2, by omega, X ++ X2, nv2, HA7.out, HB7.out, HK7.out, HTL.out, HGN2.out⟩
          case measure => simp [intOf]; omega
    | true =>
      have cI := HA2.out.exp (p := p) (fin := fin) hp8 hfn
      cases hO : hdE ys p fin with
      | inl c =>
        rw [hO] at cI
        have HHD : Hid ((srcS ys).hd true p fin = .inl c) := hO
        have hc0 : (c : Int) ≠ 0 := by
          unfold hdE at hO
          split at hO
          · cases hO; decide
          split at hO
          · cases hO; decide
          split at hO
          · cases hO; decide
          · cases hO
        have HC0 : Hid _ := hc0
        have hws : wo.heap.size ≤ W1.heap.size := hb1.size
        clear hO hc0
        go_wp2_with (go_at_call 65; refine StopV.out ?_)
        rw [HW2.out]
        refine ⟨Calls.mono cI ?_⟩
        rintro e W3 ⟨he, hbad, hb3, hk3⟩
        obtain rfl : e = .returned (.agg #[.int .i64 0, .int .i64 0, .int .u64 0, .bool false]) := he
        have HH3 : Hid (DH W3 W1.heap.size 0 0 0 false) := by
          obtain ⟨cs, e⟩ := HT2.out
          exact HH2.out.keep (hk3 _ cs 124 e (by decide) (by decide))
        have HT3 : Hid (∃ cs, W3.heap[W1.heap.size]? = some (.cells cs 124)) := by
          obtain ⟨cs, e⟩ := HT2.out
          exact ⟨cs, (hk3 _ cs 124 e (by decide) (by decide)).trans e⟩
        obtain ⟨f0, f1, f2, f3, ff⟩ := HH3.out
        obtain ⟨W4, hW4⟩ : ∃ W4, (((W3.setCell ⟨W1.heap.size, 0, none⟩ (.int .i64 0)).setCell ⟨W1.heap.size, 1, none⟩ (.int .i64 0)).setCell ⟨W1.heap.size, 2, none⟩ (.int .u64 0)).setCell ⟨W1.heap.size, 3, none⟩ (.bool false) = W4 := ⟨_, rfl⟩
        have HD4 : Hid (DBad base rb (.slice a n cap) W4 (L ++ X) nv' (p : Int) (c : Int)) := by rw [← hW4]; exact DBad.fill hbad HT3.out HH3.out hg1.2 _ _ _ _
        have hB4 : Below base wo W4 := by rw [← hW4]; exact below_fill ((hb12.mono hbo).trans hb3) hg1.1 _ _ _ _
        have HK4 : Hid (Kq wo W4) := by rw [← hW4]; exact ((Kq.below hb12).trans hk3).fill hws _ _ _ _
        obtain ⟨g6, e2, e3⟩ := HD4.out.cells
        clear cI hbad hb3 hk3
        go_wp2_with (go_at_call 26; refine StopV.out ?_)
        refine ⟨Calls.mono (any_bad _ g6 1 (c : Int) HC0.out) ?_⟩
        rintro e W7 ⟨rfl, hb7⟩
        go_wp2
        exact bodyPost_ret (v := .tuple #[.int .i64 (p : Int), .int .i64 (cnt : Int)]) (by simp [results, Tryz.results37, go_sem]) rfl ⟨p, cnt, rfl, HB.out.trans (hB4.trans (hb7.mono (Nat.le_trans hbo hB4.size))), HK.out.trans (HK4.out.trans (Kq.below hb7)), .inl ⟨p, c, (BadIn.of (HD4.out.on hb7) (fun e => HC0.out (by rw [e]; rfl))).less (by rw [List.length_append]; omega), HG.out.bad fun M nd rest _ _ _ => .bad (by rw [HSE.out, HHD.out])⟩⟩
      | inr hh =>
        rw [hO] at cI
        have HHD : Hid ((srcS ys).hd true p fin = .inr hh) := hO
        clear hO
        go_wp2_with (go_at_call 65; refine StopV.out ?_)
        rw [HW2.out]
        refine ⟨Calls.mono cI ?_⟩
        rintro e W3 ⟨he, hb3⟩
        obtain rfl : e = .returned (.agg #[.int .i64 hh.v, .int .i64 ((p + hh.sz : Nat) : Int), .int .u64 (hh.len : Int), .bool hh.ex]) := he
        have HA3 : Hid (Ask base rb a n cap ys W3 (L ++ X) nv') := HA2.out.on hb3
        have HH3 : Hid (DH W3 W1.heap.size 0 0 0 false) := HH2.out.on hb3
        have HT3 : Hid (∃ cs, W3.heap[W1.heap.size]? = some (.cells cs 124)) := Below.ty hb3 HT2.out
        have hb13 : Below wo.heap.size wo W3 := hb12.trans (hb3.mono hb12.size)
        clear cI hb3
        obtain ⟨g1, g2, g3, g4, g5⟩ := (src_ok ys).hd _ p fin _ (by omega) (by rw [show (srcS ys).tag p = T from HT.out]; exact HBAR.out) HHD.out
        have g6 := hd_lt HHD.out
        have hws : wo.heap.size ≤ W1.heap.size := hb1.size
        obtain ⟨f0, f1, f2, f3, ff⟩ := HH3.out
        obtain ⟨fr, hfr⟩ : ∃ fr, p + hh.sz = fr := ⟨_, rfl⟩
        have HFR : Hid _ := hfr
        have cE : Hid (∀ W, Ask base rb a n cap ys W (L ++ X) nv' → Calls Tryz.prog 67 #[.pointer (some ⟨rb, 0, none⟩), .int .i64 (p : Int), .int .i64 (fin : Int), .int .u32 (T : Int), .agg #[.int .i64 hh.v, .int .i64 (fr : Int), .int .u64 (hh.len : Int), .bool hh.ex], .bool true, .int .i64 (d : Int)] W (ElP (srcS ys) base rb a n cap ys W (L ++ X) (2 * d) fin true p hh)) := fun W hW => by
          have := HEL.out W base rb a n cap ys (L ++ X) nv' p fin true hh.ex hh hW hfn g1 g2 (fun h => g3 h) g6 rfl
          unfold dhV at this
          rw [hfr, HT.out] at this
          exact this
        obtain ⟨W4, hW4⟩ : ∃ W4, (((W3.setCell ⟨W1.heap.size, 0, none⟩ (.int .i64 hh.v)).setCell ⟨W1.heap.size, 1, none⟩ (.int .i64 (fr : Int))).setCell ⟨W1.heap.size, 2, none⟩ (.int .u64 (hh.len : Int))).setCell ⟨W1.heap.size, 3, none⟩ (.bool hh.ex) = W4 := ⟨_, rfl⟩
        have HA4 : Hid (Ask base rb a n cap ys W4 (L ++ X) nv') := by rw [← hW4]; exact HA3.out.fill HT3.out hg1.1 hg1.2 _ _ _ _
        have HH4 : Hid (DH W4 W1.heap.size hh.v fr hh.len hh.ex) := by rw [← hW4]; exact HH3.out.fill hh.v fr hh.len hh.ex
        have hB4 : Below base wo W4 := by rw [← hW4]; exact below_fill (hb13.mono hbo) hg1.1 _ _ _ _
        have HK4 : Hid (Kq wo W4) := by rw [← hW4]; exact (Kq.below hb13).fill hws _ _ _ _
        rw [show ((p + hh.sz : Nat) : Int) = (fr : Int) by rw [← hfr]]
        generalize hh.v = hv at f0 f1 f2 f3 ff cE hW4 HH4 ⊢
        generalize hh.len = hl at cE hW4 HH4 ⊢
        clear g1 g2 g3 g4 g5 g6 hfr
        have e2 := HA4.out.dr.c2
        have e3 := HA4.out.dr.c3
        go_wp2_with (go_at_call 26; refine StopV.out ?_)
        refine ⟨Calls.mono (any_no _) ?_⟩
        rintro e W5 ⟨rfl, hb5⟩
        have HA5 : Hid (Ask base rb a n cap ys W5 (L ++ X) nv') := HA4.out.on hb5
        have HH5 : Hid (DH W5 W1.heap.size hv fr hl hh.ex) := HH4.out.on hb5
        have hB5 : Below base wo W5 := hB4.trans (hb5.mono (Nat.le_trans hbo hB4.size))
        have HK5 : Hid (Kq wo W5) := HK4.out.trans (Kq.below hb5)
        obtain ⟨j0, j1, j2, j3, jf⟩ := HH5.out
        clear e2 e3 hb5 f0 f1 f2 f3 ff
        go_wp2_with (go_at_call 67; refine StopV.out ?_)
        refine ⟨Calls.mono (cE.out _ HA5.out) ?_⟩
        rintro e W6 ⟨k', rfl, hb6, hk6, ho⟩
        have hB6 : Below base wo W6 := hB5.trans hb6.out
        have HK6 : Hid (Kq wo W6) := HK5.out.trans hk6.out
        clear hb6 hk6 j0 j1 j2 j3 jf cE
        rcases ho with ⟨x, c, hbad, hel⟩ | ⟨X2, nv2, hA6, hk1, hk2, hel⟩
        · obtain ⟨L6, nv6, hD6, hc6, hl6⟩ := hbad
          obtain ⟨g6, e2, e3⟩ := hD6.cells
          have HD6 : Hid (BadIn base rb (.slice a n cap) W6 L.length x c) := ⟨L6, nv6, hD6, hc6, by rw [List.length_append] at hl6; omega⟩
          have HEB : Hid (BadFor (srcS ys) L.length (2 * d) (rsp fin true true 0) k x c) := HG.out.elemBad (fun M nd rest => by rw [HSE.out, HHD.out]) (by rw [List.length_append] at hel; exact hel)
          have hcI : (c : Int) ≠ 0 := by omega
          have HC0 : Hid _ := hcI
          clear hD6 hc6 hl6 hel hcI
          go_wp2_with (go_at_call 26; refine StopV.out ?_)
          refine ⟨Calls.mono (any_bad _ g6 1 (c : Int) HC0.out) ?_⟩
          rintro e W7 ⟨rfl, hb7⟩
          go_wp2
          exact bodyPost_ret (v := .tuple #[.int .i64 (k' : Int), .int .i64 (cnt : Int)]) (by simp [results, Tryz.results37, go_sem]) rfl ⟨k', cnt, rfl, HB.out.trans (hB6.trans (hb7.mono (Nat.le_trans hbo hB6.size))), HK.out.trans (HK6.out.trans (Kq.below hb7)), .inl ⟨x, c, HD6.out.on hb7, HEB.out⟩⟩
        · have e2 := hA6.dr.c2
          have e3 := hA6.dr.c3
          have HA6 : Hid (Ask base rb a n cap ys W6 (L ++ (X ++ X2)) nv2) := by rw [← List.append_assoc]; exact hA6
          have HGN : Hid (GoesFor (srcS ys) L.length (2 * d) (rsp fin true true 0) (rsp fin true true T) k k' (cnt + if T % 65536 = 0 then 0 else 1) (X ++ X2)) := by
            have := HG.out.elem (h := hh) (fun M nd rest => by rw [HSE.out, HHD.out]) (by rw [List.length_append] at hel; exact hel)
            rw [show (srcS ys).tag p = T from HT.out] at this
            exact this
          clear hA6 hel
          go_wp2_with (go_at_call 26; refine StopV.out ?_)
          refine ⟨Calls.mono (any_no _) ?_⟩
          rintro e W7 ⟨rfl, hb7⟩
          have HA7 : Hid (Ask base rb a n cap ys W7 (L ++ (X ++ X2)) nv2) := HA6.out.on hb7
          have HB7 : Hid (Below base w W7) := HB.out.trans (hB6.trans (hb7.mono (Nat.le_trans hbo hB6.size)))
          have HK7 : Hid (Kq w W7) := HK.out.trans (HK6.out.trans (Kq.below hb7))
          have band : bits .and .u32 (T : Int) 65535 = ((T % 65536 : Nat) : Int) := bits_low16 ht
          have HTL : Hid _ := ht
          clear e2 e3 hb7 ht
          by_cases hg : T % 65536 = 0
          · rw [hg] at band
            have HGN2 : Hid (GoesFor (srcS ys) L.length (2 * d) (rsp fin true true 0) (rsp fin true true T) k k' cnt (X ++ X2)) := by have := HGN.out; rw [if_pos hg] at this; exact this
            clear hg HGN
            go_wp2
            go_roundw
            case rel => exact ⟨k', T, cnt, rfl, rfl, rfl, by omega, hk2, by omega, X ++ X2, nv2, HA7.out, HB7.out, HK7.out, HTL.out, HGN2.out⟩
            case measure => simp [intOf]; omega
          · obtain ⟨q, hq⟩ : ∃ q, T % 65536 = q := ⟨_, rfl⟩
            have HGN2 : Hid (GoesFor (srcS ys) L.length (2 * d) (rsp fin true true 0) (rsp fin true true T) k k' (cnt + 1) (X ++ X2)) := by have := HGN.out; rw [if_neg hg] at this; exact this
            rw [hq] at band hg
            have bg : ((q : Int) != 0) = true := bne_iff_ne.2 (by omega)
            clear hg hq HGN
            go_wp2
            go_roundw
            case rel => exact ⟨k', T, cnt + 1, rfl, rfl, by go_num, by omega, hk2, by omega, X ++ X2, nv2, HA7.out, HB7.out, HK7.out, HTL.out, HGN2.out⟩
            case measure => simp [intOf]; omega
end Go.Proofs.YtoikdpjjcnmgeaaGreatDoor
