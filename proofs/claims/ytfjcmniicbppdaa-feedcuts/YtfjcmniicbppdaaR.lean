import Derived.Test.YtfjcmniicbppdaaQ
/-
  DERIVED. The law of frames, walked.
-/
namespace Go.Proofs.Ytfjcmniicbppdaa
open Go Go.Proofs Go.RowKit Go.Deep

theorem below_drewN (w : World) (m : Nat) : Below w.heap.size w (w.drewN m) := ⟨rfl, rfl, rfl, Nat.le_refl _, fun _ _ => rfl⟩
theorem ab_ok {st : RSt} (h : OkS st) : ((ab st).1 = 1 ∧ (ab st).2.1 = [] ∧ (ab st).2.2 = false) ∨ (ab st).1 = 2 ∨ (ab st).1 = 3 := by
  rcases h with ⟨h1, h2⟩ | h | h
  · exact .inl ⟨h1, by show st.2.take _ = []; rw [h2]; rfl, by show decide (16384 < st.2.length) = false; rw [h2]; rfl⟩
  · exact .inr (.inl h)
  · exact .inr (.inr h)

set_option maxRecDepth 100000 in
set_option maxHeartbeats 8000000 in
theorem frames_any (w : World) (v : Value) (Ps : List (List Nat)) (s : ByteArray) (hP : PS w v Ps) (hS : (Ps.map List.length).sum ≤ 1048576) (hn : Ps.length ≤ 1048576) (hs : s.size ≤ 1048576) :
    Calls Try.prog 5 #[v, .string s] w fun e w' => e = .returned (.bool true) ∧ Below w.heap.size w w' := by
  obtain ⟨ao, cap, rfl, hP⟩ := hP
  have HP : Hid (∀ k, k < Ps.length → ∃ b off vk, ao = some ⟨b, off, none⟩ ∧ w.cell? ⟨b, off + k, none⟩ = some vk ∧ V w vk (Ps.getD k [])) := hP
  clear hP
  go_enter Try.func5, Try.ntmps5
  go_wp2_with (go_at_call 11; refine Stop.mk ?_)
  refine Stop.out ((newFramer_any w).mono ?_)
  rintro e W1 ⟨rfl, hF1, hb1, hz1⟩
  have kn := newRef_any W1
  rw [hz1] at kn
  have HF1 : Hid (FR W1 w.heap.size (.slice none 0 0) 1 [] false) := hF1
  have HB1 : Hid (Below w.heap.size w W1) := hb1
  have HZ1 : Hid (W1.heap.size = w.heap.size + 1) := hz1
  clear hF1 hb1 hz1
  go_wp2_with (go_at_call 13; refine Stop.mk ?_)
  refine Stop.out (kn.mono ?_)
  rintro e W2 ⟨rfl, hF2, hb2, hz2⟩
  have HL : Hid (LW w W2 (ab (1, [])) (1, []) (.slice none 0 0) (.slice none 0 0)) := ⟨HB1.out.trans (hb2.mono (by omega)), HF1.out.of fun j hj _ => hb2.block j (by have := HZ1.out; omega), hF2, fun g hg => by cases hg⟩
  clear hF2 hb2 hz2 kn HF1 HB1 HZ1
  have kf := frame_v W2 s (by omega)
  go_wp2_with (go_at_call 8; refine Stop.mk ?_)
  refine Stop.out (kf.mono ?_)
  rintro e W3 ⟨v1, rfl, hv1, _, hb3⟩
  have HL3 : Hid _ := HL.out.on hb3
  have HV1 : Hid (V W3 v1 (fb s)) := hv1
  clear kf hv1 hb3 HL
  have kf := frameR_any W3 s (by omega)
  go_wp2_with (go_at_call 15; refine Stop.mk ?_)
  refine Stop.out (kf.mono ?_)
  rintro e W4 ⟨v2, rfl, hv2, hb4⟩
  have HL4 : Hid (LW w W4 (ab (1, [])) (1, []) (.slice none 0 0) (.slice none 0 0)) := LW.on HL3.out hb4
  have kb := bytes_any (HV1.out.next hb4) hv2 (by rw [fb_length]; omega)
  rw [show decide (fb s = fb s) = true by simp] at kb
  clear kf hv2 hb4 HL3 HV1
  go_wp2_with (go_at_call 14; refine Stop.mk ?_)
  refine Stop.out (kb.mono ?_)
  rintro e W5 ⟨rfl, m5, rfl⟩
  have HL5 : Hid (LW w (W4.drewN m5) (ab (1, [])) (1, []) (.slice none 0 0) (.slice none 0 0)) := HL4.out.on (below_drewN _ _)
  clear kb HL4
  generalize W4.drewN m5 = W6 at *
  go_wp2
  go_loopw [7] (fun i wr => ∃ (k : Nat) (st : RSt) (u v : Value), k ≤ Ps.length ∧ i = .int .i64 k ∧ Hid (LW w wr (ab st) st u v) ∧ Hid (OkS st) ∧ wl st ≤ ((Ps.take k).map List.length).sum) (fun i _ => Ps.length - (intOf i).toNat)
  case atStart => exact ⟨0, (1, []), _, _, Nat.zero_le _, rfl, HL5.out, .inl ⟨rfl, rfl⟩, by simp [wl]⟩
  case round =>
    obtain ⟨k, st, u, v, hk, rfl, HL, HO, hw⟩ := hrel
    clear HL5
    by_cases hkn : k < Ps.length
    · obtain ⟨b, off, vk, rfl, hc, hV⟩ := HP.out k hkn
      have hsum := sum_succ Ps k hkn
      have hle := sum_le Ps (k + 1)
      obtain ⟨bs, hbs⟩ : ∃ bs, Ps.getD k [] = bs := ⟨_, rfl⟩
      rw [hbs] at hV hsum
      have HV : Hid (V w vk bs) := hV
      have HC : Hid (w.cell? ⟨b, off + k, none⟩ = some vk) := hc
      have hcell := (HL.out.be.cell (p := ⟨b, off + k, none⟩) (World.block_lt_of_cell? w _ hc)).trans hc
      have kl := lend_any (hV.next HL.out.be) (by omega)
      clear hc hV
      go_wp2_with (go_at_call 12; refine Stop.mk ?_)
      refine Stop.out (kl.mono ?_)
      rintro e W1 ⟨rfl, hown, hb⟩
      have HT1 : Hid (Lent W1 wr.heap.size wr.heap.size bs) := hown
      have HL1 : Hid (LW w W1 (ab st) st u v) := HL.out.on hb
      have HU : Hid (∀ j, u.ownBlock = some j → j < wr.heap.size) := fun j hj => (HL.out.fr.own.lt j hj).2
      have HVo : Hid (∀ j, v.ownBlock = some j → j < wr.heap.size) := fun j hj => (HL.out.rf.own.lt j hj).2
      have HQ : Hid (w.heap.size + 1 < wr.heap.size) := HL.out.rf.row.lt
      have HG : Hid (wr.heap.size < W1.heap.size) := (hown.1.lt _ rfl).2
      have kt := take_any (bs := bs) HL1.out.fr (ab_ok HO.out) (HT1.out.v (cap := bs.length + 3) (by omega)) (apart_new (Nat.le_refl _) HG.out (by have := HQ.out; omega) HU.out) (by omega)
      clear kl hown hb hcell HL
      go_wp2_with (go_at_call 7; refine Stop.mk ?_)
      refine Stop.out (kt.mono ?_)
      rintro e W2 ⟨told, u', s', tx', lg', fs, rfl, hTI, hfs, hR⟩
      have hR' := rtk_tk bs st []
      rw [show (ab st).1 = st.1 from rfl] at hR
      have hR2 : (ab (rtk bs st []).1, (rtk bs st []).2) = ((s', tx', lg'), fs) := hR'.symm.trans hR
      have HR1 : Hid (ab (rtk bs st []).1 = (s', tx', lg')) := (Prod.ext_iff.1 hR2).1
      have HR2 : Hid ((rtk bs st []).2 = fs) := (Prod.ext_iff.1 hR2).2
      have HL2 : Hid (LW w W2 (s', tx', lg') st u' v) := LW.take (a' := (s', tx', lg')) HL1.out hTI
      have HT2 : Hid (Lent W2 wr.heap.size wr.heap.size bs) := lentFar HT1.out hTI.ch (by rintro (e | e); (have := HQ.out; omega); (have := HU.out _ e; omega))
      have HF2 : Hid (FL W2 told fs) := ⟨_, hTI.tl⟩
      have hcell := (HL2.out.be.cell (p := ⟨b, off + k, none⟩) (World.block_lt_of_cell? w _ HC.out)).trans HC.out
      clear hTI hR hR' hR2 HL1 HT1
      have kt := takeR_any HL2.out.rf HO.out (HV.out.next HL2.out.be) (apart_old HV.out HL2.out.be.size (by omega) HL2.out.rf.own) (by omega)
      go_wp2_with (go_at_call 16; refine Stop.mk ?_)
      refine Stop.out (kt.mono ?_)
      rintro e W3 ⟨told2, v', rfl, hRI, hok, hwl, hfl⟩
      have HW : Hid (wl (rtk bs st []).1 ≤ ((Ps.take (k + 1)).map List.length).sum) := by rw [hsum]; exact Nat.le_trans hwl (by omega)
      have HOK : Hid (OkS (rtk bs st []).1) := hok
      have HL3 : Hid (LW w W3 (ab (rtk bs st []).1) (rtk bs st []).1 u' v') := by rw [HR1.out]; exact HL2.out.takeR hRI
      have HT3 : Hid (Lent W3 wr.heap.size wr.heap.size bs) := lentFar HT2.out hRI.ch (by rintro (e | e); (have := HQ.out; omega); (have := HVo.out _ e; omega))
      have ks := same_any (fs := fs) (flFar HF2.out hRI.ch (HF2.out.notS HL2.out.rf)) (by rw [← HR2.out]; exact ⟨_, hRI.tl⟩) (by omega)
      have hlen : (rtk bs st []).1.2.length ≤ 16777216 := by have : (rtk bs st []).1.2.length ≤ wl (rtk bs st []).1 := Nat.le_add_right _ _; have := HW.out; omega
      clear kt hRI hok hwl hfl HL2 HT2 hcell HF2
      go_wp2_with (go_at_call 17; refine Stop.mk ?_)
      refine Stop.out (ks.mono ?_)
      rintro e W4 ⟨rfl, m4, rfl⟩
      have HL4 : Hid (LW w (W3.drewN m4) (ab (rtk bs st []).1) (rtk bs st []).1 u' v') := HL3.out.on (below_drewN _ _)
      have HT4 : Hid (Lent (W3.drewN m4) wr.heap.size wr.heap.size bs) := HT3.out.next (below_drewN _ _)
      clear ks HL3 HT3
      generalize W3.drewN m4 = W5 at *
      generalize (rtk bs st []).1 = st2 at *
      have kh := held_any HL4.out.fr
      have kh2 := heldR_any HL4.out.rf HOK.out hlen
      rw [show hd (ab st2).1 (ab st2).2.1.length = hd st2.1 (mn st2.2.length) from hd_eq st2.1 st2.2] at kh
      generalize hd st2.1 (mn st2.2.length) = hh at *
      go_wp2_with (go_at_call 9; refine Stop.mk ?_)
      refine Stop.out (kh.mono ?_)
      rintro e w' ⟨rfl, rfl⟩
      clear kh
      go_wp2_with (go_at_call 18; refine Stop.mk ?_)
      refine Stop.out (kh2.mono ?_)
      rintro e w' ⟨rfl, rfl⟩
      clear kh2
      have hcell := (HL4.out.be.cell (p := ⟨b, off + k, none⟩) (World.block_lt_of_cell? w _ HC.out)).trans HC.out
      have kk := kept_any HT4.out (HV.out.next HL4.out.be) (by omega)
      go_wp2_with (go_at_call 19; refine Stop.mk ?_)
      refine Stop.out (kk.mono ?_)
      rintro e W6 ⟨rfl, m6, rfl⟩
      have HL6 : Hid (LW w (W5.drewN m6) (ab st2) st2 u' v') := HL4.out.on (below_drewN _ _)
      clear kk hcell HL4 HT4
      go_wp2
      go_roundw
      case rel => exact ⟨k + 1, st2, u', v', by omega, by go_num, HL6.out, HOK.out, HW.out⟩
      case measure => simp [intOf]; omega
    · have hk' : k = Ps.length := by omega
      subst hk'
      go_wp2
      go_ret
      exact ⟨rfl, HL.out.be⟩
end Go.Proofs.Ytfjcmniicbppdaa
