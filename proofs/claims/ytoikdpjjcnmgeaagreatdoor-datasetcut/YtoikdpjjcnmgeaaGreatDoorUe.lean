import Derived.Test.YtoikdpjjcnmgeaaGreatDoorUd
import Derived.Test.YtoikdpjjcnmgeaaGreatDoorQn
import Derived.Test.YtoikdpjjcnmgeaaGreatDoorZs
/-
  DERIVED. DatasetCut.
-/
namespace Go.Proofs.YtoikdpjjcnmgeaaGreatDoor
open Go Go.Proofs Go.RowKit
open Wk (Nd NV nds goN nxt)
open Go.Sort

/-- The document's Decode where nothing is refused. -/
theorem rdec_ok (w : World) (a : Option Addr) (n cap : Nat) (ys : List UInt8) (s : Int) (M : List Nd) (hV : BA w.heap.size w a n cap ys) (h : OkD s ys M) : Calls Tryz.prog 11 #[.slice a n cap, .int .i64 s] w fun e w' => ∃ b c, e = .returned (.tuple #[.slice b M.length c, .agg #[.slice none 0 0, .int .i64 0]]) ∧ Hid (NV w' b M.length c M) ∧ Hid (Below w.heap.size w w') := by
  refine (rdec_any w a n cap ys s hV).mono ?_
  rintro e w' ⟨nv, vf, rfl, hr, hb⟩
  have hm : MOk M := h.2.2.fine (src_ok ys) ⟨Nat.zero_le _, trivial⟩ MOk.nil M rfl
  rcases hr.out with ⟨x, c, g, he, -⟩ | ⟨M', ho, rfl, hw⟩
  · exact (errD_ok he h).elim
  · obtain rfl := okD_one ho h
    obtain ⟨b, c, rfl, hN⟩ := own_nvq hw rfl hm
    exact ⟨b, c, rfl, hN, hb⟩
theorem BA.up {base base' : Nat} {w w' : World} {a : Option Addr} {n cap : Nat} {ys : List UInt8} (h : BA base w a n cap ys) (hb : Below base w w') (hl : base ≤ base') : BA base' w' a n cap ys :=
  ⟨h.l, h.c, h.s, fun k hk => by obtain ⟨b, off, e, h1, h2⟩ := h.m k hk; exact ⟨b, off, e, Nat.lt_of_lt_of_le h1 hl, (hb.cell (p := ⟨b, off + k, none⟩) h1).trans h2⟩⟩
/-- How many bytes the first elements take. -/
def cz (s : Int) (L : List Nd) (k : Nat) : Nat := (outB s (L.take (goN L k))).length
theorem cz_zero (s : Int) {L : List Nd} (h : errOf s L = none) : cz s L 0 = 0 := by
  unfold cz
  rw [out_len (err_cut h 0).1, Wk.goN_zero, List.take_zero]
  rfl
theorem cz_next {s : Int} {L : List Nd} (h : errOf s L = none) (k : Nat) : errOf s (sub L (goN L k) (nxt L (goN L k))) = none ∧ cz s L (k + 1) = cz s L k + siz s (sub L (goN L k) (nxt L (goN L k))) := by
  obtain ⟨e1, e2, e3⟩ := err_cut h k
  obtain ⟨f1, f2, f3⟩ := err_cut h (k + 1)
  have g1 := (err_cut e2 1).1
  have hs : sub L (goN L k) (nxt L (goN L k)) = (L.drop (goN L k)).take (goN (L.drop (goN L k)) 1) := by
    unfold sub nxt
    rw [List.drop_take, Nat.add_sub_cancel_left]
  have hlt : (L.take (goN L k)).length = goN L k := by rw [List.length_take]; have := goN_le L k; omega
  rw [hs]
  refine ⟨g1, ?_⟩
  unfold cz siz
  rw [g1, out_len e1, out_len f1, goN_add L k 1, ← List.take_append_drop (goN L k) (L.take (goN L k + goN (L.drop (goN L k)) 1)), List.take_take, Nat.min_eq_left (by omega), List.drop_take, Nat.add_sub_cancel_left]
  rw [(encS s).szP_cut (L.take (goN L k) ++ _) (goN L k), List.take_left' hlt, List.drop_left' hlt]
  rfl
theorem NV.front {w : World} {b off n cap j : Nat} {L : List Nd} (h : NV w (some ⟨b, off, none⟩) n cap L) (hj : j ≤ n) : NV w (some ⟨b, off, none⟩) j cap (L.take j) := by
  have := NV.part h (i := 0) (e := j) (by omega) hj off (fun _ => by omega)
  rw [show sub L 0 j = L.take j from rfl, Nat.sub_zero, Nat.sub_zero] at this
  exact this
/-- Between two elements. -/
def CI (s : Int) (L : List Nd) (ct k : Nat) : Prop := k = 0 ∨ ∃ j, k = j + 1 ∧ cz s L j < ct

set_option maxRecDepth 100000 in
set_option maxHeartbeats 8000000 in
theorem cut_some (w : World) (b off n cap : Nat) (cut s : Int) (L : List Nd) (hV : NV w (some ⟨b, off, none⟩) n cap L) (hn0 : 0 < n) (hT : TagsOk L) (hE : EG w) : Calls Tryz.prog 8 #[.slice (some ⟨b, off, none⟩) n cap, .int .i64 cut, .int .i64 s] w fun e w' => e = .returned (.bool true) ∧ Below w.heap.size w w' := by
  have HV : Hid (NV w (some ⟨b, off, none⟩) n cap L) := hV
  have HT : Hid (TagsOk L) := hT
  have HE : Hid (EG w) := hE
  have HNL : Hid (n = L.length) := hV.len
  have hroom := hV.room
  have hsmall := hV.small
  obtain ⟨z, hz⟩ : ∃ z, (errOf s L).isSome = z := ⟨_, rfl⟩
  have HZ : Hid ((errOf s L).isSome = z) := hz
  clear hV hT hE hz
  go_enter Tryz.func8, Tryz.ntmps8
  go_wp2_with (go_at_call 18; refine StopQ.out ?_)
  refine ⟨Calls.mono (alive_any w HE.out) ?_⟩
  rintro e W1 ⟨rfl, hb1⟩
  have HB1 : Hid (Below w.heap.size w W1) := hb1
  clear hb1
  go_wp2_with (go_at_call 25; refine StopQ.out ?_)
  refine ⟨Calls.mono (rsize_any some_zero W1 _ n cap L (HV.out.on HB1.out) HT.out s) ?_⟩
  rintro e W2 ⟨vf, rfl, hp2, hb2⟩
  obtain ⟨fa, fm, fc, fz, hvf⟩ := rerr_form hp2
  subst hvf
  have HP2 : Hid (RErr2 W2 (.agg #[.slice fa fm fc, .int .i64 fz]) (errOf s L)) := hp2
  have HB2 : Hid (Below w.heap.size w W2) := HB1.out.trans (hb2.mono HB1.out.size)
  obtain ⟨W3, hW3⟩ : ∃ W3, W2.alloc (.cells #[.slice fa fm fc, .int .i64 fz] 32) = W3 := ⟨_, rfl⟩
  have hb3 : Below W2.heap.size W2 W3 := by rw [← hW3]; exact (Below.refl _ _).alloc (Nat.le_refl _) _
  have d0 : W3.cell? ⟨W2.heap.size, 0, none⟩ = some (.slice fa fm fc) := by rw [← hW3]; simp
  have d1 : W3.cell? ⟨W2.heap.size, 1, none⟩ = some (.int .i64 fz) := by rw [← hW3]; simp
  have HB3 : Hid (Below w.heap.size w W3) := HB2.out.trans (hb3.mono HB2.out.size)
  clear hp2 hb2 hb3
  go_wp2_with (go_at_call 26; refine StopQ.out ?_)
  refine ⟨Calls.mono (any_err W3 HP2.out HZ.out) ?_⟩
  rintro e W4 ⟨rfl, hb4⟩
  have HB4 : Hid (Below w.heap.size w W4) := HB3.out.trans (hb4.mono HB3.out.size)
  clear hb4 hW3 d0 d1
  cases z with
  | true =>
    go_wp2
    go_ret
    exact ⟨rfl, HB4.out⟩
  | false =>
  have HO : Hid (errOf s L = none) := by show _ = _; simpa using HZ.out
  have h40 : n ≤ 4096 := by rw [HNL.out]; exact (res_ok (err_ok HO.out).2.1).1
  have HE4 : Hid (EG W4) := HE.out.keep HB4.out
  obtain ⟨lw, hlw⟩ : ∃ m, (outB s L).length = m := ⟨_, rfl⟩
  have HLW : Hid ((outB s L).length = lw) := hlw
  have hlim : lw ≤ 1048576 := by rw [← hlw]; exact (back_ok HO.out HT.out).2.1
  have HL0 : Hid (0 < lw) := by
    show 0 < lw
    rw [← hlw, out_len HO.out]
    exact sz_pos _ L (fun e => by have := HNL.out; rw [e] at this; simp at this; omega)
  clear hlw
  go_wp2_with (go_at_call 20; refine StopQ.out ?_)
  refine ⟨Calls.mono (enc_ok W4 _ n cap L (HV.out.on HB4.out) HT.out HE4.out s HO.out) ?_⟩
  rintro e W5 ⟨a5, c5, rfl, hB5, hb5⟩
  rw [HLW.out] at hB5 ⊢
  obtain ⟨b5, o5, ha5, -, -⟩ := hB5.out.m 0 HL0.out
  subst ha5
  have hc5 := hB5.out.c
  have HB5 : Hid (Below w.heap.size w W5) := HB4.out.trans (hb5.out.mono HB4.out.size)
  clear hb5
  by_cases hc0 : cut < 0
  · go_wp2
    go_ret
    exact ⟨rfl, HB5.out⟩
  by_cases hc1 : (lw : Int) < cut
  · go_wp2
    go_ret
    exact ⟨rfl, HB5.out⟩
  obtain ⟨ct, rfl⟩ : ∃ ct : Nat, cut = (ct : Int) := ⟨cut.toNat, by omega⟩
  have hct : ct ≤ lw := by omega
  have hc0' : ¬ (ct : Int) < 0 := hc0
  have hc1' : ¬ (lw : Int) < (ct : Int) := hc1
  obtain ⟨M, hM⟩ : ∃ M, L.map (bkN (decide (s = 2))) = M := ⟨_, rfl⟩
  have HM : Hid (L.map (bkN (decide (s = 2))) = M) := hM
  have HML : Hid (M.length = n) := by show M.length = n; rw [← hM, List.length_map]; exact HNL.out.symm
  have HOK : Hid (OkD s (outB s L) M) := by
    have := back_ok HO.out HT.out
    rw [hM] at this
    exact this
  clear hM
  go_wp2_with (go_at_call 11; refine StopQ.out ?_)
  refine ⟨Calls.mono (rdec_ok W5 _ lw c5 (outB s L) s M hB5.out HOK.out) ?_⟩
  rintro e W6 ⟨a6, c6, rfl, hN6, hb6⟩
  rw [HML.out] at hN6 ⊢
  obtain ⟨b6, o6, ha6, -⟩ := hN6.out.lies hn0
  subst ha6
  have hc6 := hN6.out.room
  have HB6 : Hid (Below w.heap.size w W6) := HB5.out.trans (hb6.out.mono HB5.out.size)
  have HBA6 : Hid (BA W6.heap.size W6 (some ⟨b5, o5, none⟩) lw c5 (outB s L)) := hB5.out.up hb6.out hb6.out.size
  have HVW : Hid (NV W6 (some ⟨b, off, none⟩) n cap L) := HV.out.on HB6.out
  clear hb6 hB5
  go_wp2
  go_loopw [13, 14] (fun x10 x11 wr => ∃ k : Nat, x10 = .int .i64 ((goN L k : Nat) : Int) ∧ x11 = .int .i64 ((cz s L k : Nat) : Int) ∧ Hid (CI s L ct k) ∧ Hid (Below W6.heap.size W6 wr)) (fun x10 _ _ => 10000 - (intOf x10).toNat)
  case atStart => exact ⟨0, by rw [Wk.goN_zero]; rfl, by rw [cz_zero s HO.out]; rfl, .inl rfl, (Below.refl _ _).alloc (Nat.le_refl _) _⟩
  case round =>
    obtain ⟨k, rfl, rfl, HCI, HBR⟩ := hrel
    obtain ⟨j, hj⟩ : ∃ j, goN L k = j := ⟨_, rfl⟩
    have HJ : Hid (goN L k = j) := hj
    have hjn : j ≤ n := by rw [← hj, HNL.out]; exact goN_le L k
    obtain ⟨q, hq⟩ : ∃ q, cz s L k = q := ⟨_, rfl⟩
    have HQ : Hid (cz s L k = q) := hq
    have hqw : q ≤ lw := by
      rw [← hq, ← HLW.out, (err_cut HO.out k).2.2, List.length_append]
      exact Nat.le_add_right _ _
    rw [hj, hq]
    clear hj hq
    by_cases hlt : q < ct
    · have hltI : (q : Int) < (ct : Int) := by omega
      have hjl : j < n := by
        rcases Nat.lt_or_ge j n with h | h
        · exact h
        · exfalso
          have e1 : L.take (goN L k) = L := List.take_of_length_le (by rw [HJ.out, ← HNL.out]; exact h)
          have e2 := HQ.out
          unfold cz at e2
          rw [e1, HLW.out] at e2
          omega
      have HX : Hid (goN L (k + 1) = nxt L j ∧ j < nxt L j ∧ nxt L j ≤ n) := by
        have e := goN_next L k
        rw [HJ.out] at e
        refine ⟨e, Wk.nxt_gt (by have := HNL.out; omega), ?_⟩
        rw [← e, HNL.out]
        exact goN_le L _
      have HSZ : Hid (errOf s (sub L j (nxt L j)) = none ∧ cz s L (k + 1) = q + siz s (sub L j (nxt L j))) := by
        have := cz_next HO.out k
        rw [HJ.out, HQ.out] at this
        exact this
      obtain ⟨x, hx⟩ : ∃ x, nxt L j = x := ⟨_, rfl⟩
      have cN := Wk.nextR_in wr _ n cap j L (HVW.out.on HBR.out) hjl (by omega)
      rw [hx] at HX HSZ cN
      have hxx := HX.out.2
      have HVS : Hid (NV wr (some ⟨b, off + j * 4, none⟩) (x - j) (cap - j) (sub L j x)) := NV.part (HVW.out.on HBR.out) (i := j) (e := x) (by omega) (by omega) _ (fun _ => rfl)
      have HTS : Hid (TagsOk (sub L j x)) := fun y hy => HT.out y (sub_mem hy)
      obtain ⟨u, hu⟩ : ∃ u, siz s (sub L j x) = u := ⟨_, rfl⟩
      have cS := rsize_any some_zero wr _ (x - j) (cap - j) (sub L j x) HVS.out HTS.out s
      have HU : Hid (siz s (sub L j x) = u) := hu
      rw [hu] at HSZ
      have hzw : q + u ≤ lw := by
        rw [← HSZ.out.2, ← HLW.out, (err_cut HO.out (k + 1)).2.2, List.length_append]
        exact Nat.le_add_right _ _
      have hjc : j < cap := by omega
      have hj0 : ¬ (cap : Int) = (j : Int) := by omega
      have hj1 : ¬ (j : Int) = (cap : Int) := by omega
      clear hx hu
      go_wp2_with (first | (go_at_call 28; refine cN.mono ?_; rintro e w' ⟨rfl, rfl⟩) | (go_at_call 25; refine StopQ.out ?_))
      refine ⟨Calls.mono cS ?_⟩
      rintro e W7 ⟨vf, rfl, hp7, hb7⟩
      obtain rfl : vf = .agg #[.slice none 0 0, .int .i64 0] := by
        rcases hp7 with ⟨-, h⟩ | ⟨ls, c, g, cg, h, -⟩
        · exact h
        · rw [HSZ.out.1] at h; cases h
      rw [HU.out]
      have HB7 : Hid (Below W6.heap.size W6 W7) := HBR.out.trans (hb7.mono HBR.out.size)
      have HB8 : Hid (Below W6.heap.size W6 (W7.alloc (.cells #[.slice none 0 0, .int .i64 0] 32))) := HB7.out.alloc HB7.out.size _
      clear hp7 hb7 cS cN
      go_wp2
      go_roundw
      case rel => exact ⟨k + 1, by rw [HX.out.1], by rw [HSZ.out.2]; go_num, .inr ⟨k, rfl, by rw [HQ.out]; exact hlt⟩, HB8⟩
      case measure => simp [intOf]; omega
    · have hltI : ¬ (q : Int) < (ct : Int) := by omega
      have HYS : Hid (((outB s L).take ct).length = ct) := by show _ = _; rw [List.length_take, HLW.out]; omega
      have HBAC : Hid (BA wr.heap.size wr (some ⟨b5, o5, none⟩) ct c5 ((outB s L).take ct)) := by
        have h1 := HBA6.out.up HBR.out HBR.out.size
        rw [← List.take_append_drop ct (outB s L)] at h1
        have h2 := h1.take
        rw [HYS.out] at h2
        exact h2
      by_cases hqc : q = ct
      · subst hqc
        have HOKC : Hid (OkD s ((outB s L).take q) (M.take j)) := by
          have h1 := cut_ok HO.out HT.out k
          rw [show (outB s (L.take (goN L k))).length = q from HQ.out, HJ.out, List.map_take, HM.out] at h1
          exact h1
        have HTL : Hid ((M.take j).length = j) := by show _ = _; rw [List.length_take, HML.out]; omega
        clear hct hqw
        go_wp2_with (go_at_call 10; refine StopQ.out ?_)
        refine ⟨Calls.mono (dec_ok wr _ q c5 _ s (M.take j) HBAC.out HOKC.out) ?_⟩
        rintro e W7 ⟨a7, c7, rfl, hN7, hb7⟩
        rw [HTL.out] at hN7 ⊢
        have HN6 : Hid (NV W7 (some ⟨b6, o6, none⟩) j c6 (M.take j)) := NV.front ((hN6.out.on HBR.out).on hb7.out) hjn
        have HB7 : Hid (Below w.heap.size w W7) := HB6.out.trans ((HBR.out.trans (hb7.out.mono HBR.out.size)).mono HB6.out.size)
        clear hb7
        go_wp2_with (go_at_call 13; refine StopQ.out ?_)
        refine ⟨Calls.mono (Wk.nodes_same W7 a7 _ j c7 c6 (M.take j) hN7.out HN6.out) ?_⟩
        rintro e W8 ⟨rfl, m8, hW8⟩
        have HB8 : Hid (Below w.heap.size w W8) := by rw [hW8]; exact Wk.below_drw HB7.out m8
        clear hW8
        go_wp2
        go_ret
        exact ⟨rfl, HB8.out⟩
      · have hqI : ¬ (q : Int) = (ct : Int) := by omega
        have HNO : Hid (¬ ∃ M, OkD s ((outB s L).take ct) M) := by
          show ¬ _
          rcases HCI.out with rfl | ⟨j', rfl, hj'⟩
          · exfalso
            have := HQ.out
            rw [cz_zero s HO.out] at this
            omega
          · exact cut_bad HO.out HT.out hj' (by have := HQ.out; unfold cz at this; omega)
        go_wp2_with (go_at_call 10; refine StopQ.out ?_)
        refine ⟨Calls.mono (decode_any wr _ ct c5 _ s HBAC.out) ?_⟩
        rintro e W7 ⟨nv, ve, rfl, hr, hb7⟩
        rcases hr.out with ⟨x, c, -, rfl, hc⟩ | ⟨M', ho, -⟩
        · obtain ⟨g, u, rfl, -⟩ := hc
          have HB7 : Hid (Below w.heap.size w W7) := HB6.out.trans ((HBR.out.trans (hb7.out.mono HBR.out.size)).mono HB6.out.size)
          clear hr hb7
          go_wp2
          go_ret
          exact ⟨rfl, HB7.out⟩
        · exact absurd ⟨M', ho⟩ HNO.out
end Go.Proofs.YtoikdpjjcnmgeaaGreatDoor
