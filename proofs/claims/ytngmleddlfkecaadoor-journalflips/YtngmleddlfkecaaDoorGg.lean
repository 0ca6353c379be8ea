import Derived.Test.YtngmleddlfkecaaDoorGf
namespace Go.Proofs.YtngmleddlfkecaaDoor
open Go Go.Proofs Go.RowKit

set_option maxRecDepth 100000 in
theorem qframes (w : World) (b off l cap : Nat) (d : List Nat) (hb : At w b off d) (hT : Tab w) (hlen : d.length = l) (hc : l ≤ cap) (hl : l ≤ 400000) :
    Calls Tryd.prog 31 #[.slice (some ⟨b, off, none⟩) l cap] w fun e w' => ∃ k pos bss v, e = .returned (.tuple #[v, .int .i64 (pos : Nat)]) ∧ EndP d k pos bss ∧ VV w' w.heap.size v bss ∧ Below w.heap.size w w' := by
  have HN : Hid (d.length = l) := hlen
  clear hlen
  obtain ⟨i0, hi, hz0, hz1, hz2⟩ := info_parts Tryd.info5
  obtain ⟨i1, hj, hy0, hy1, hy2⟩ := info_parts Tryd.info22
  obtain ⟨B, hB⟩ : ∃ B, B = w.heap.size := ⟨_, rfl⟩
  rw [← hB]
  have HB : Hid (B = w.heap.size) := hB
  clear hB
  go_enter Tryd.func31, Tryd.ntmps31
  go_wp2
  go_loopw [2, 3] (fun v i wr => ∃ (k pos : Nat) (bss : List (List Nat)) (cells : List Value) (ao : Option Addr) (cp : Nat), Hid (runP d k = some (pos, bss)) ∧ k ≤ 400000 ∧ pos ≤ l ∧ i = .int .i64 pos ∧ v = .slice ao k cp ∧ wr.ownsRow B 22 1 (.slice ao k cp) k cells ∧ Hid (∀ i, i < bss.length → Own wr B (cells.getD i undef) (bss.getD i [])) ∧ Below B w wr) (fun _ i _ => l - (intOf i).toNat)
  case atStart => exact ⟨0, 0, [], [], none, 0, rfl, by omega, by omega, rfl, rfl, World.ownsRow_nil _ _ _ _, by intro i hi; simp at hi, Below.refl _ _⟩
  case round =>
    obtain ⟨k, pos, bss, cells, ao, cp, HR, hk, hpos, rfl, rfl, hown, HI, hbe⟩ := hrel
    have HBr : Hid (B ≤ wr.heap.size) := by have := hbe.size; rw [HB.out]; exact this
    have hbe' : Below w.heap.size w wr := by rw [← HB.out]; exact hbe
    have HA : Hid (At wr b off d) := hb.next hbe'
    have HTr : Hid (Tab wr) := hT.next hbe'
    have hk32 : (k : Int) % 4294967296 = (k : Int) := by omega
    clear hbe'
    cases hf : frameP (d.drop pos) k with
    | false =>
      have HF : Hid (EndP d k pos bss) := ⟨HR.out, hf⟩
      have HEnd : Hid (∀ m, ∃ k2 pos2 bss2 v, (Ending.returned (.tuple #[.slice ao k cp, .int .i64 (pos : Int)])) = .returned (.tuple #[v, .int .i64 (pos2 : Nat)]) ∧ EndP d k2 pos2 bss2 ∧ VV (wr.drewN m) B v bss2 ∧ Below B w (wr.drewN m)) := by
        intro m
        refine ⟨k, pos, bss, _, rfl, HF.out, ?_, below_drewN hbe _⟩
        refine ⟨cells, ?_, HI.out⟩
        rw [(runP_facts HR.out).1]
        exact hown
      by_cases hcp : cap = pos
      · have c := frame_no (w := wr) (k := k) (d := d.drop pos) (v := .slice (some ⟨b, off, none⟩) 0 0) (by rw [List.drop_eq_nil_of_le (by rw [HN.out]; omega)]; exact .inl ⟨_, _, rfl, rfl⟩) HTr.out (by rw [List.length_drop, HN.out]; omega) hf
        clear hf
        obtain rfl : l = pos := by omega
        subst hcp
        go_wp2_with (go_at_call 46; fail)
        refine c.mono ?_
        rintro e w' ⟨rfl, m, rfl⟩
        go_wp2
        go_ret2
        exact HEnd.out m
      · have c := frame_no (w := wr) (k := k) (V.mk (HA.out.drop pos) (n := l - pos) (cap := cap - pos) (by rw [List.length_drop, HN.out]) (by omega)) HTr.out (by rw [List.length_drop, HN.out]; omega) hf
        clear hf
        go_wp2_with (go_at_call 46; refine c.mono ?_; rintro e w' ⟨rfl, m, rfl⟩)
        go_ret2
        exact HEnd.out m
    | true =>
      have c := frame_yes (w := wr) (k := k) (HA.out.drop pos) HTr.out (l := l - pos) (cap := cap - pos) (by rw [List.length_drop, HN.out]) (by omega) (by omega) hf
      have HF : Hid (frameP (d.drop pos) k = true) := hf
      obtain ⟨hf1, hf2⟩ := frameP_len hf
      rw [List.length_drop, HN.out] at hf1
      have hcp : ¬ cap = pos := by omega
      obtain ⟨m, hm⟩ : ∃ m, lenP (d.drop pos) = m := ⟨_, rfl⟩
      rw [hm] at c hf1 hf2
      have HM : Hid (lenP (d.drop pos) = m) := hm
      clear hf hm
      obtain ⟨body, HY, HAb, HL⟩ : ∃ body, Hid (body = bodyP (d.drop pos)) ∧ Hid (At wr b (off + pos + 13) body) ∧ Hid (body.length = m) := by
        refine ⟨_, rfl, ?_, ?_⟩
        · have := ((HA.out.drop pos).drop 13).take (lenP (d.drop pos))
          exact this
        · show (bodyP _).length = m
          unfold bodyP
          rw [List.length_take, List.length_drop, List.length_drop, HN.out, HM.out]
          omega
      go_wp2_with (first | (go_at_call 46; refine c.mono ?_; rintro e w' ⟨rfl, mm, rfl⟩) | (at_builtin; refine wpList_append_own _ rfl (.const (.slice none 0 0)) (.tmp 21) 22 rfl B 5 i0 (.int .u8 0) 1 1 Tryd.underlying22 hi hz0 hz1 hz2 rfl (by decide) (.slice none 0 0) 0 [] rfl (World.ownsRow_nil _ _ _ _) ⟨b, off + pos + 13, none⟩ m (cap - pos - 13) (u8s body) rfl ?_ ?_ ?_ ?_ ?_ ?_ ?_))
      · rw [u8s_length, HL.out, Nat.mul_one]
      · exact HAb.out.news
      · exact u8s_one body
      · unfold maxLen; omega
      · omega
      · exact HBr.out
      · intro v1 w1 hown1 hgrow1 _
        obtain ⟨a1, p1, rfl⟩ : ∃ a1 p1, v1 = .slice a1 m p1 := by
          rcases hown1.2 with ⟨rfl, h0⟩ | ⟨g, p, cur, rfl, _⟩
          · exact ⟨none, 0, by rw [h0]⟩
          · exact ⟨_, _, rfl⟩
        have HO1 : Hid (Own w1 B (.slice a1 m p1) body) := ⟨by rw [HL.out]; exact hown1, HAb.out.2⟩
        have HB1 : Hid (Below wr.heap.size wr w1) := (below_drewN (Below.refl _ _) mm).grown hgrow1 (Nat.le_refl _) (by simp [Value.ownBlock])
        have hownO : w1.ownsRow B 22 1 (.slice ao k cp) k cells := owns_next hown HB1.out
        have HS1 : Hid (B ≤ w1.heap.size) := Nat.le_trans HBr.out HB1.out.size
        have HP : Hid (∀ w2 v2, w2.ownsRow B 22 1 v2 (k + 1) (cells ++ [.slice a1 m p1]) → (w1.alloc (.cells #[.slice a1 m p1] 22)).grownBy w2 (Value.slice ao k cp).ownBlock → VV w2 B v2 (bss ++ [body]) ∧ Below B w w2) := by
          intro w2 v2 ho2 hg2
          have hbl := (runP_facts HR.out).1
          have ha : Below w1.heap.size w1 (w1.alloc (.cells #[.slice a1 m p1] 22)) := (Below.refl _ _).alloc (Nat.le_refl _) _
          have hb2 : Below B w (w1.alloc (.cells #[.slice a1 m p1] 22)) := (hbe.trans (HB1.out.mono HBr.out)).alloc HS1.out _
          refine ⟨VV.push (w := wr) (w1 := w1.alloc (.cells #[.slice a1 m p1] 22)) (cells := cells) (v := .slice ao k cp) (v1 := .slice a1 m p1) (by rw [hbl]; exact hown) HI.out (HB1.out.trans (ha.mono HB1.out.size)) (HO1.out.next ha) (by rw [hbl]; exact hownO.alloc _) (by rw [hbl]; exact ho2) hg2, ?_⟩
          exact hb2.grown hg2 (by have := HS1.out; simp; omega) (fun j hj => (hownO.lt j hj).1)
        clear hgrow1 hown1 hown
        go_wp2_with (first | (at_builtin; refine wpList_append_own _ rfl (.tmp 20) (.tmp 23) 31 rfl B 22 i1 (.slice none 0 0) 1 24 Tryd.underlying31 hj hy0 hy1 hy2 rfl (by decide) (.slice ao k cp) k cells rfl (hownO.alloc _) ⟨w1.heap.size, 0, none⟩ 1 1 [.slice a1 m p1] rfl rfl ?_ ?_ ?_ ?_ ?_ ?_) | fail)
        · exact cell_one_new _ _ _
        · intro u hu; simp at hu; subst hu; rfl
        · unfold maxLen; omega
        · omega
        · have := HS1.out; simp; omega
        · intro v2 w2 hown2 hgrow2 _
          obtain ⟨hVV, hB2⟩ := HP.out w2 v2 hown2 hgrow2
          have hR2 := runP_step HR.out HF.out
          rw [← HY.out, HM.out] at hR2
          clear hgrow2 hownO
          go_wp2
          go_roundw
          case rel =>
            obtain ⟨h1, h2, h3⟩ := runP_facts hR2
            obtain ⟨cells2, hc1, hc2⟩ := hVV
            rw [h1] at hc1
            obtain ⟨a3, p3, rfl⟩ : ∃ a3 p3, v2 = .slice a3 (k + 1) p3 := by
              rcases hc1.2 with ⟨rfl, h0⟩ | ⟨g, p, cur, rfl, _⟩
              · exact ⟨none, 0, by rw [h0]⟩
              · exact ⟨_, _, rfl⟩
            exact ⟨k + 1, pos + (17 + m), bss ++ [body], cells2, a3, p3, hR2, by omega, by omega, by go_num, rfl, hc1, hc2, hB2⟩
          case measure => simp [intOf]; omega


set_option maxRecDepth 100000 in
theorem qscan_no {w : World} {b off l cap : Nat} {d : List Nat} (h : At w b off d) (hT : Tab w) (hlen : d.length = l) (hc : l ≤ cap) (hl : l ≤ 400000) (hH : headP d = false) :
    Calls Tryd.prog 10 #[.slice (some ⟨b, off, none⟩) l cap] w fun e w' => ∃ q, e = .returned (.tuple #[noScan, .iface 67 (.pointer (some ⟨q, 0, none⟩))]) ∧ FaultAt w' q 0 43 ∧ Below w.heap.size w w' := by
  obtain ⟨W1, hW1⟩ : ∃ W1, w.alloc (.cells #[.int .u64 0, .slice none 0 0, .slice none 0 0, .int .i64 0] 34) = W1 := ⟨_, rfl⟩
  have hb1 : Below w.heap.size w W1 := hW1 ▸ (Below.refl _ _).alloc (Nat.le_refl _) _
  have c := qhead_no (h.next hb1) (hT.next hb1) hlen hc hl hH
  have hs1 : w.heap.size < W1.heap.size := by rw [← hW1]; simp
  have rc : Rc W1 w.heap.size := by
    rw [← hW1]
    exact ⟨by simp, by simp, by simp, by simp, fun i => by simp⟩
  unfold noHead at c
  clear h hT hlen hH
  go_enter Tryd.func10, Tryd.ntmps10
  go_wp2_with (first | (go_at_call 30; refine c.mono ?_; rintro e w' ⟨rfl, m, rfl⟩) | (go_at_call 26; refine (refusal_fault _ _ _).mono ?_; rintro e W2 ⟨q, rfl, hf, hq, hb2⟩; have hb2' : Below W1.heap.size W1 W2 := (below_drewN (Below.refl _ _) m).trans hb2; obtain ⟨b0, b1, b2, b3, bf⟩ := rc.next hb2'))
  have hqw : w.heap.size ≠ q := by simp at hq; omega
  have hsets := Rc.set ⟨b0, b1, b2, b3, bf⟩ (.int .u64 0) (.slice none 0 0) (.slice none 0 0) (.int .i64 0)
  simp only at hsets
  obtain ⟨u0, u1, u2, u3⟩ := hsets
  refine bodyPost_ret (v := .tuple #[noScan, .iface 67 (.pointer (some ⟨q, 0, none⟩))]) (by simp only [results, Tryd.results10]; simp [go_sem, u0, u1, u2, u3, noScan]) rfl ⟨q, rfl, (((hf.set hqw _).set hqw _).set hqw _).set hqw _, ?_⟩
  exact ((((hb1.trans (hb2'.mono hb1.size)).setCell (p := ⟨w.heap.size, 0, none⟩) (Nat.le_refl _) _).setCell (p := ⟨w.heap.size, 1, none⟩) (Nat.le_refl _) _).setCell (p := ⟨w.heap.size, 2, none⟩) (Nat.le_refl _) _).setCell (p := ⟨w.heap.size, 3, none⟩) (Nat.le_refl _) _


set_option maxRecDepth 100000 in
theorem qscan_yes {w : World} {b off l cap : Nat} {d : List Nat} {bss : List (List Nat)} (h : At w b off d) (hT : Tab w) (hlen : d.length = l) (hc : l ≤ cap) (hl : l ≤ 400000) (hr : 24 + sizeP d < l) (hH : headP d = true)
    (hyes : EndP ((d.drop 24).take (sizeP d)) (countP d) (sizeP d) bss) :
    Calls Tryd.prog 10 #[.slice (some ⟨b, off, none⟩) l cap] w fun e w' => ∃ k2 pos2 rss v1 v2, e = .returned (.tuple #[.agg #[.int .u64 (genP d : Nat), v1, v2, .int .i64 ((24 + sizeP d + pos2 : Nat) : Int)], .nilIface]) ∧ EndP ((d.drop 24).drop (sizeP d)) k2 pos2 rss ∧ VV w' (w.heap.size + 1) v1 bss ∧ VV w' (w.heap.size + 1) v2 rss ∧ Below w.heap.size w w' := by
  obtain ⟨W1, hW1⟩ : ∃ W1, w.alloc (.cells #[.int .u64 0, .slice none 0 0, .slice none 0 0, .int .i64 0] 34) = W1 := ⟨_, rfl⟩
  have hb1 : Below w.heap.size w W1 := hW1 ▸ (Below.refl _ _).alloc (Nat.le_refl _) _
  have c := qhead_yes (h.next hb1) (hT.next hb1) hlen hc hl hH
  have hs1 : w.heap.size < W1.heap.size := by rw [← hW1]; simp
  have HRC : Hid (Rc W1 w.heap.size) := by
    rw [← hW1]
    exact ⟨by simp, by simp, by simp, by simp, fun i => by simp⟩
  have h24 : 24 ≤ l := by
    unfold headP at hH
    simp only [Bool.and_eq_true, decide_eq_true_eq] at hH
    have := summedP_len hH.1.1.1
    omega
  have HA : Hid (At W1 b off d) := h.next hb1
  have HT : Hid (Tab W1) := hT.next hb1
  have HL : Hid (d.length = l) := hlen
  obtain ⟨G, hG⟩ : ∃ G, genP d = G := ⟨_, rfl⟩
  obtain ⟨N, hN⟩ : ∃ N, countP d = N := ⟨_, rfl⟩
  obtain ⟨S, hS⟩ : ∃ S, sizeP d = S := ⟨_, rfl⟩
  have hS32 : S < 4294967296 := by rw [← hS]; exact le4_lt h.2 16
  have hN6 : N ≤ 600 := by
    unfold headP at hH
    simp only [Bool.and_eq_true, decide_eq_true_eq] at hH
    rw [← hN]; exact hH.2
  rw [hG, hN, hS] at c
  rw [hN, hS] at hyes
  rw [hS] at hr
  rw [hG, hS]
  have HYES : Hid (EndP ((d.drop 24).take S) N S bss) := hyes
  have hSl : S ≤ l - 24 := by
    have := (runP_facts hyes.1).2.1
    rw [List.length_take, List.length_drop, hlen] at this
    omega
  clear h hT hlen hH hG hN hS hyes
  have e24 : ¬ cap = 24 := by omega
  have ew := wrap_u64_small S (by omega)
  have eS : ¬ cap - 24 = S := by omega
  have cf : ∀ m, Calls Tryd.prog 31 #[.slice (some ⟨b, off + 24, none⟩) S (cap - 24)] (W1.drewN m) fun e w' => ∃ k pos bss v, e = .returned (.tuple #[v, .int .i64 (pos : Nat)]) ∧ EndP ((d.drop 24).take S) k pos bss ∧ VV w' (W1.drewN m).heap.size v bss ∧ Below (W1.drewN m).heap.size (W1.drewN m) w' := by
    intro m
    exact qframes (W1.drewN m) b (off + 24) S (cap - 24) _ ((HA.out.drop 24).take S) HT.out (by rw [List.length_take, List.length_drop, HL.out]; omega) (by omega) (by omega)
  go_enter Tryd.func10, Tryd.ntmps10
  go_wp2_with (first | (go_at_call 30; refine c.mono ?_; rintro e w' ⟨rfl, m, rfl⟩) | fail)
  refine (cf m).mono ?_
  rintro e W2 ⟨k, pos, bss', v, rfl, HE, HV, hb2⟩
  obtain ⟨rfl, rfl, rfl⟩ := HE.unique HYES.out
  obtain ⟨a1, p1, rfl⟩ := frames_shape HE HV
  have hb2' : Below W1.heap.size W1 W2 := (below_drewN (Below.refl _ _) m).trans hb2
  have HB2 : Hid (Below W1.heap.size W1 W2) := hb2'
  have HR2 : Hid (Rc W2 w.heap.size) := HRC.out.next hb2'
  have hs2 : w.heap.size < W2.heap.size := Nat.lt_of_lt_of_le hs1 hb2'.size
  have cf2 : Calls Tryd.prog 31 #[.slice (some ⟨b, off + 24 + pos, none⟩) (l - 24 - pos) (cap - 24 - pos)] W2 fun e w' => ∃ k2 pos2 rss v, e = .returned (.tuple #[v, .int .i64 (pos2 : Nat)]) ∧ EndP ((d.drop 24).drop pos) k2 pos2 rss ∧ VV w' W2.heap.size v rss ∧ Below W2.heap.size W2 w' := 
    qframes W2 b (off + 24 + pos) (l - 24 - pos) (cap - 24 - pos) _ (((HA.out.next hb2').drop 24).drop pos) (HT.out.next hb2') (by rw [List.length_drop, List.length_drop, HL.out]) (by omega) (by omega)
  have HV2 : Hid (VV W2 (w.heap.size + 1) (.slice a1 k p1) bss') := HV.base (by simp; omega)
  clear hb2' hb2 HV HE cf c
  go_wp2_with (go_at_call 31; fail)
  refine cf2.mono ?_
  rintro e W3 ⟨k2, pos2, rss, v2, rfl, HE2, HV3, hb3⟩
  obtain ⟨a2, p2, rfl⟩ := frames_shape HE2 HV3
  have hpos2 := (runP_facts HE2.1).2.1
  rw [List.length_drop, List.length_drop, HL.out] at hpos2
  obtain ⟨b0, b1, b2, b3, bf⟩ := HR2.out.next hb3
  have HE3 : Hid (EndP ((d.drop 24).drop pos) k2 pos2 rss) := HE2
  have HVa : Hid (VV W3 (w.heap.size + 1) (.slice a1 k p1) bss') := HV2.out.next hb3
  have HVb : Hid (VV W3 (w.heap.size + 1) (.slice a2 k2 p2) rss) := HV3.base (by omega)
  have HB3 : Hid (Below W2.heap.size W2 W3) := hb3
  clear cf2 HE2 HV3 hb3
  go_wp2
  have hsets := Rc.set ⟨b0, b1, b2, b3, bf⟩ (.int .u64 (G : Int)) (.slice a1 k p1) (.slice a2 k2 p2) (.int .i64 (24 + (pos : Int) + (pos2 : Int)))
  simp only at hsets
  obtain ⟨u0, u1, u2, u3⟩ := hsets
  refine bodyPost_ret (v := .tuple #[.agg #[.int .u64 (G : Int), .slice a1 k p1, .slice a2 k2 p2, .int .i64 (24 + (pos : Int) + (pos2 : Int))], .nilIface]) (by simp only [results, Tryd.results10]; simp [go_sem, u0, u1, u2, u3]) rfl ?_
  refine ⟨k2, pos2, rss, .slice a1 k p1, .slice a2 k2 p2, by simp, HE3, ?_, ?_, ?_⟩
  · exact (((HVa.out.set (by omega) _).set (by omega) _).set (by omega) _).set (by omega) _
  · exact (((HVb.out.set (by omega) _).set (by omega) _).set (by omega) _).set (by omega) _
  · exact (((((hb1.trans (HB2.out.mono hb1.size)).trans (HB3.out.mono (by omega))).setCell (p := ⟨w.heap.size, 0, none⟩) (Nat.le_refl _) _).setCell (p := ⟨w.heap.size, 1, none⟩) (Nat.le_refl _) _).setCell (p := ⟨w.heap.size, 2, none⟩) (Nat.le_refl _) _).setCell (p := ⟨w.heap.size, 3, none⟩) (Nat.le_refl _) _


end Go.Proofs.YtngmleddlfkecaaDoor
