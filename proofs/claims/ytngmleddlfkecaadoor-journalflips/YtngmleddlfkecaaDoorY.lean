import Derived.Test.YtngmleddlfkecaaDoorX
namespace Go.Proofs.YtngmleddlfkecaaDoor
open Go Go.Proofs Go.RowKit

theorem first_drew {W W' : World} (h : Below W.drew.heap.size W.drew W') : Below W.heap.size W W' := ((Below.refl _ W).drew).trans h

set_option maxRecDepth 100000 in
set_option maxHeartbeats 2000000 in
theorem rscan_frames {w : World} {b off l cap : Nat} {d : List Nat} (h : At w b off d) (hlen : d.length = l) (hc : l ≤ cap) (hl : l ≤ 400000) (h24 : 24 ≤ l) (hm : le (d.take 4) = 21649229) (hs : le ((d.drop 20).take 4) = crc (d.take 20)) (hG0 : le ((d.drop 4).take 8) ≠ 0) (hN6 : countP d ≤ 600) :
    Calls Tryd.prog 14 #[.slice (some ⟨b, off, none⟩) l cap] w fun e w' =>
      ((∃ vf, e = .returned (.tuple #[noScan, vf]) ∧ RFault w' vf 0 43 ∧ Below w.heap.size w w') ∧ ∀ bss, runP (d.drop 24) (countP d) ≠ some (sizeP d, bss)) ∨
      (∃ bss k2 pos2 rss v1 v2, e = .returned (.tuple #[.agg #[.int .u64 (le ((d.drop 4).take 8) : Nat), v1, v2, .int .i64 ((24 + sizeP d + pos2 : Nat) : Int)], .agg #[.slice none 0 0, .int .i64 0]]) ∧ runP (d.drop 24) (countP d) = some (sizeP d, bss) ∧ EndP ((d.drop 24).drop (sizeP d)) k2 pos2 rss ∧ VV w' (w.heap.size + 3) v1 bss ∧ VV w' (w.heap.size + 3) v2 rss ∧ Below w.heap.size w w') := by
  obtain ⟨W1, hW1⟩ : ∃ W1, (w.alloc (.cells #[.int .u64 0, .slice none 0 0, .slice none 0 0, .int .i64 0] 34)).alloc (.cells #[.slice none 0 0, .int .i64 0] 41) = W1 := ⟨_, rfl⟩
  have hb1 : Below w.heap.size w W1 := hW1 ▸ ((Below.refl _ _).alloc (Nat.le_refl _) _).alloc (by simp) _
  have HS : Hid (W1.heap.size = w.heap.size + 2) := by rw [← hW1]; show _ = _; simp
  have HRC : Hid (Rc W1 w.heap.size) := by
    rw [← hW1]
    exact ⟨by simp, by simp, by simp, by simp, fun i => by simp⟩
  have HFC : Hid (Fc W1 (w.heap.size + 1)) := by
    rw [← hW1]
    exact ⟨by simp, by simp, fun i => by simp⟩
  have HA : Hid (At W1 b off d) := h.next hb1
  have HL : Hid (d.length = l) := hlen
  have HBy : Hid (∀ x ∈ d, x < 256) := h.2
  obtain ⟨X0, hX0⟩ : ∃ X, le (d.take 4) = X := ⟨_, rfl⟩
  obtain ⟨X20, hX20⟩ : ∃ X, le ((d.drop 20).take 4) = X := ⟨_, rfl⟩
  obtain ⟨Y20, hY20⟩ : ∃ X, crc (d.take 20) = X := ⟨_, rfl⟩
  have hY32 : Y20 < 4294967296 := by rw [← hY20]; exact crc_lt _ (take_lt h.2 20)
  have ewY := wrap_u64_small Y20 (by omega)
  have c0 : ∀ o nn cp m, o = off ∧ nn = 4 ∧ 4 ≤ cp → Calls Tryd.prog 32 #[.slice (some ⟨b, o, none⟩) nn cp] (W1.drewN m) fun e w' => e = .returned (.int .u64 (X0 : Int)) ∧ w' = W1.drewN m := by
    rintro o nn cp m ⟨rfl, rfl, hcp⟩
    rw [← hX0]
    exact rvalue (HA.out.take 4) m (by simp; omega) (by omega) (by omega)
  have c20 : ∀ o nn cp m, o = off + 20 ∧ nn = 4 ∧ 4 ≤ cp → Calls Tryd.prog 32 #[.slice (some ⟨b, o, none⟩) nn cp] (W1.drewN m) fun e w' => e = .returned (.int .u64 (X20 : Int)) ∧ w' = W1.drewN m := by
    rintro o nn cp m ⟨rfl, rfl, hcp⟩
    rw [← hX20]
    exact rvalue ((HA.out.drop 20).take 4) m (by simp; omega) (by omega) (by omega)
  have cs : ∀ m, Calls Tryd.prog 23 #[.slice (some ⟨b, off, none⟩) 20 cap] (W1.drewN m) fun e w' => e = .returned (.int .u32 (Y20 : Int)) ∧ w' = W1.drewN m := by
    intro m
    rw [← hY20]
    exact rsumv (HA.out.take 20) m (by simp; omega) (by omega) (by omega)
  have hd24 : decide ((l : Int) < 24) = false := by simp; omega
  have hcn : ¬ cap = 20 := by omega
  rw [hX0] at hm
  rw [hX20, hY20] at hs
  have hne : ((X0 : Int) != 21649229) = false := by simp; omega
  have hne2 : ((X20 : Int) != (Y20 : Int)) = false := by simp; omega
  obtain ⟨G, hG⟩ : ∃ X, le ((d.drop 4).take 8) = X := ⟨_, rfl⟩
  obtain ⟨N, hN⟩ : ∃ X, countP d = X := ⟨_, rfl⟩
  obtain ⟨S, hS⟩ : ∃ X, sizeP d = X := ⟨_, rfl⟩
  have c4 : ∀ o nn cp m, o = off + 4 ∧ nn = 8 ∧ 8 ≤ cp → Calls Tryd.prog 32 #[.slice (some ⟨b, o, none⟩) nn cp] (W1.drewN m) fun e w' => e = .returned (.int .u64 (G : Int)) ∧ w' = W1.drewN m := by
    rintro o nn cp m ⟨rfl, rfl, hcp⟩
    rw [← hG]
    exact rvalue ((HA.out.drop 4).take 8) m (by simp; omega) (by omega) (by omega)
  have HV12 : Hid (∀ W, At W b off d → ∀ o nn cp m, o = off + 12 ∧ nn = 4 ∧ 4 ≤ cp → Calls Tryd.prog 32 #[.slice (some ⟨b, o, none⟩) nn cp] (W.drewN m) fun e w' => e = .returned (.int .u64 (N : Int)) ∧ w' = W.drewN m) := by
    rintro W hW o nn cp m ⟨rfl, rfl, hcp⟩
    rw [← hN]
    exact rvalue ((hW.drop 12).take 4) m (by simp; omega) (by omega) (by omega)
  have HV16 : Hid (∀ W, At W b off d → ∀ o nn cp m, o = off + 16 ∧ nn = 4 ∧ 4 ≤ cp → Calls Tryd.prog 32 #[.slice (some ⟨b, o, none⟩) nn cp] (W.drewN m) fun e w' => e = .returned (.int .u64 (S : Int)) ∧ w' = W.drewN m) := by
    rintro W hW o nn cp m ⟨rfl, rfl, hcp⟩
    rw [← hS]
    exact rvalue ((hW.drop 16).take 4) m (by simp; omega) (by omega) (by omega)
  have HN : Hid (countP d = N) := hN
  have HSz : Hid (sizeP d = S) := hS
  have hS32 : S < 4294967296 := by rw [← hS]; exact le4_lt h.2 16
  have hN32 : N < 4294967296 := by rw [← hN]; exact le4_lt h.2 12
  have hcn4 : ¬ cap = 4 := by omega
  have hcn12 : ¬ cap = 12 := by omega
  have hcn16 : ¬ cap = 16 := by omega
  rw [hG] at hG0 ⊢
  rw [hN] at hN6 ⊢
  rw [hS]
  have hGe : ((G : Int) == 0) = false := by simp; omega
  have h0 : Hid (At w b off d) := h
  clear h hlen hX0 hX20 hY20 hm hs hG hN hS hG0
  obtain ⟨i1, hj1, hy0, hy1, hy2⟩ := info_parts Tryd.info22
  go_enter Tryd.func14, Tryd.ntmps14
  go_wp2
  go_quiet (first | (go_at_call 32; refine Calls.quiet_of_same (c0 _ _ _ _ ?_); (focus omega)) | (go_at_call 32; refine Calls.quiet_of_same (c20 _ _ _ _ ?_); (focus omega)) | (go_at_call 23; exact Calls.quiet_of_same (cs _)))
  have c4q := fun o nn cp hh => calls_swap (c4 o nn cp nq hh)
  have hbq : Below W1.heap.size W1 (W1.drewN nq) := below_drewN (Below.refl _ _) nq
  have hsq : (W1.drewN nq).heap.size = w.heap.size + 2 := HS.out
  generalize W1.drewN nq = Wd at c4q hbq hsq ⊢
  have HSQ : Hid (Wd.heap.size = w.heap.size + 2) := hsq
  clear hsq c4 c0 c20 cs
  go_wp2_with (first | (go_at_call 32; refine (c4q _ _ _ ?_).mono ?_; (focus omega); rintro e w' ⟨rfl, rfl⟩) | fail)
  obtain ⟨W2, hW2⟩ : ∃ W2, Wd.alloc (.cells #[.int .u64 (G : Int), .slice none 0 0, .slice none 0 0, .int .i64 0] 34) = W2 := ⟨_, rfl⟩
  rw [hW2]
  have hb2 : Below Wd.heap.size Wd W2 := hW2 ▸ (Below.refl _ _).alloc (Nat.le_refl _) _
  have HS2 : Hid (W2.heap.size = w.heap.size + 3) := by show _ = _; rw [← hW2]; simp [HSQ.out]
  have HB2 : Hid (Below W1.heap.size W1 W2) := hbq.trans (hb2.mono (by rw [HSQ.out, HS.out]; exact Nat.le_refl _))
  have HR2 : Hid (Rc W2 w.heap.size) := HRC.out.next HB2.out
  have HF2 : Hid (Fc W2 (w.heap.size + 1)) := HFC.out.next HB2.out (by rw [HS.out]; omega)
  have HA2 : Hid (At W2 b off d) := HA.out.next HB2.out
  have HSC : Hid (Sc W2 (w.heap.size + 2) (G : Int) (.slice none 0 0) (.slice none 0 0) 0) := by
    have : Sc W2 Wd.heap.size (G : Int) (.slice none 0 0) (.slice none 0 0) 0 := by
      rw [← hW2]
      exact ⟨by simp, by simp, by simp, by simp, fun i => by simp⟩
    rw [HSQ.out] at this
    exact this
  have c12 : ∀ o nn cp, o = off + 12 ∧ nn = 4 ∧ 4 ≤ cp → Calls Tryd.prog 32 #[.slice (some ⟨b, o, none⟩) nn cp] W2 fun e w' => e = .returned (.int .u64 (N : Int)) ∧ W2 = w' := fun o nn cp hh => calls_swap (HV12.out W2 HA2.out o nn cp 0 hh)
  rw [HSQ.out]
  have HBX : Hid (Below w.heap.size w W2) := hb1.trans (HB2.out.mono hb1.size)
  have HSX : Hid (w.heap.size + 2 ≤ W2.heap.size) := by rw [HS2.out]; exact Nat.le_succ _
  obtain ⟨s0, s1, s2, s3, sf⟩ := HSC.out
  clear hb2 hW2 hbq c4q HRC HFC HA HV12
  go_wp2_with (first | (go_at_call 32; refine (c12 _ _ _ ?_).mono ?_; (focus omega); rintro e w' ⟨rfl, rfl⟩) | fail)
  clear s0 s1 s2 s3 sf c12
  go_loopw [6, 7] (fun a i wr => ∃ (k pos : Nat) (bss : List (List Nat)) (cells : List Value) (ao : Option Addr) (cp : Nat), Hid (runP (d.drop 24) k = some (pos, bss)) ∧ k ≤ N ∧ pos ≤ l - 24 ∧ a = .int .i64 ((24 + pos : Nat) : Int) ∧ i = .int .u64 k ∧ Hid (Rc wr w.heap.size) ∧ Hid (Fc wr (w.heap.size + 1)) ∧ Hid (Sc wr (w.heap.size + 2) (G : Int) (.slice ao k cp) (.slice none 0 0) 0) ∧ wr.ownsRow (w.heap.size + 3) 22 1 (.slice ao k cp) k cells ∧ Hid (∀ i, i < bss.length → Own wr (w.heap.size + 3) (cells.getD i undef) (bss.getD i [])) ∧ Hid (Below w.heap.size w wr) ∧ w.heap.size + 3 ≤ wr.heap.size) (fun _ i _ => N - (intOf i).toNat)
  case atStart => exact ⟨0, 0, [], [], none, 0, rfl, by omega, by omega, rfl, rfl, HR2, HF2, HSC, World.ownsRow_nil _ _ _ _, by (intro i hi; simp at hi), HBX, by rw [HS2.out]; exact Nat.le_refl _⟩
  case round =>
    clear HR2 HF2 HSC HBX HSX HS2 HB2 HA2
    obtain ⟨k, pos, bss, cells, ao, cp, HR, hk, hpos, rfl, rfl, HRc, HFc, HSc, hown, HI, HBl, hsz⟩ := hrel
    have HAr : Hid (At wr b off d) := h0.out.next HBl.out
    obtain ⟨s0, s1, s2, s3, sf⟩ := HSc.out
    by_cases hkN : k < N
    · have hk32 : (k : Int) % 4294967296 = (k : Int) := by omega
      cases hf : frameP (d.drop (24 + pos)) k with
      | false =>
        have cn := fun ad had => framed_at_no (k := k) (x := 24 + pos) HAr.out HL.out hc hl (by omega) (by omega) hf ad had
        have HNO : Hid (∀ bss, runP (d.drop 24) N ≠ some (S, bss)) := by
          intro bss' hb'
          obtain ⟨pos', bs', h1, h2⟩ := runP_down hb' hkN
          rw [HR.out] at h1
          simp only [Option.some.injEq, Prod.mk.injEq] at h1
          rw [← h1.1, List.drop_drop, hf] at h2
          exact absurd h2 (by decide)
        clear hf
        by_cases hcx : cap = 24 + pos
        · have cn1 := cn ⟨b, off, none⟩ (by rw [if_pos hcx])
          clear cn
          subst hcx
          rw [show l - (24 + pos) = 0 by omega, Nat.sub_self] at cn1
          go_wp2_with (go_at_call 34; fail)
          refine cn1.mono ?_
          rintro e w' ⟨rfl, m, rfl⟩
          have HRX : Hid (Rc (wr.drewN m) w.heap.size) := ⟨HRc.out.c0, HRc.out.c1, HRc.out.c2, HRc.out.c3, HRc.out.cf⟩
          have HFX : Hid (Fc (wr.drewN m) (w.heap.size + 1)) := ⟨HFc.out.c0, HFc.out.c1, HFc.out.cf⟩
          have HBX : Hid (Below w.heap.size w (wr.drewN m)) := below_drewN HBl.out m
          have HSX : Hid (w.heap.size + 2 ≤ (wr.drewN m).heap.size) := by show _ ≤ _; simp; omega
          clear cn1
          go_wp2_with (go_at_call 33; fail)
          refine (refNo_any _ _ _).mono ?_
          rintro e W9 ⟨g, rfl, hb9, q0, q1, hg, hg9⟩
          have hgl : w.heap.size + 2 ≤ g := by have := HSX.out; omega
          obtain ⟨a0, a1, a2, a3, af⟩ := HRX.out.next hb9
          obtain ⟨f0, f1, ff⟩ := HFX.out.next hb9 (by have := HSX.out; omega)
          go_wp2
          obtain ⟨u0, u1, u2, u3, u4, u5, hRF⟩ := no_stores (c := 43) (cg := 1) ⟨a0, a1, a2, a3, af⟩ ⟨f0, f1, ff⟩ (by omega) (by omega) (by omega) q0 q1
          refine bodyPost_ret (v := .tuple #[noScan, .agg #[.slice (some ⟨g, 0, none⟩) 1 1, .int .i64 43]]) (by simp only [results, Tryd.results14]; simp [go_sem, u0, u1, u2, u3, u4, u5, noScan]) rfl (.inl ⟨⟨_, rfl, hRF, no_below (HBX.out.trans (hb9.mono HBX.out.size)) (Nat.le_refl _) (by omega)⟩, ?_⟩)
          exact HNO.out
        · have cn1 := cn ⟨b, off + (24 + pos), none⟩ (by rw [if_neg hcx])
          clear cn
          go_wp2_with (go_at_call 34; fail)
          refine cn1.mono ?_
          rintro e w' ⟨rfl, m, rfl⟩
          have HRX : Hid (Rc (wr.drewN m) w.heap.size) := ⟨HRc.out.c0, HRc.out.c1, HRc.out.c2, HRc.out.c3, HRc.out.cf⟩
          have HFX : Hid (Fc (wr.drewN m) (w.heap.size + 1)) := ⟨HFc.out.c0, HFc.out.c1, HFc.out.cf⟩
          have HBX : Hid (Below w.heap.size w (wr.drewN m)) := below_drewN HBl.out m
          have HSX : Hid (w.heap.size + 2 ≤ (wr.drewN m).heap.size) := by show _ ≤ _; simp; omega
          clear cn1
          go_wp2_with (go_at_call 33; fail)
          refine (refNo_any _ _ _).mono ?_
          rintro e W9 ⟨g, rfl, hb9, q0, q1, hg, hg9⟩
          have hgl : w.heap.size + 2 ≤ g := by have := HSX.out; omega
          obtain ⟨a0, a1, a2, a3, af⟩ := HRX.out.next hb9
          obtain ⟨f0, f1, ff⟩ := HFX.out.next hb9 (by have := HSX.out; omega)
          go_wp2
          obtain ⟨u0, u1, u2, u3, u4, u5, hRF⟩ := no_stores (c := 43) (cg := 1) ⟨a0, a1, a2, a3, af⟩ ⟨f0, f1, ff⟩ (by omega) (by omega) (by omega) q0 q1
          refine bodyPost_ret (v := .tuple #[noScan, .agg #[.slice (some ⟨g, 0, none⟩) 1 1, .int .i64 43]]) (by simp only [results, Tryd.results14]; simp [go_sem, u0, u1, u2, u3, u4, u5, noScan]) rfl (.inl ⟨⟨_, rfl, hRF, no_below (HBX.out.trans (hb9.mono HBX.out.size)) (Nat.le_refl _) (by omega)⟩, ?_⟩)
          exact HNO.out
      | true =>
        have cy := framed_yes (HAr.out.drop (24 + pos)) (l := l - (24 + pos)) (cap := cap - (24 + pos)) (by rw [List.length_drop, HL.out]) (by omega) (by omega) (show k < 4294967296 by omega) hf
        obtain ⟨hf1, hf2⟩ := frameP_len hf
        rw [List.length_drop, HL.out] at hf1
        have hR2 : runP (d.drop 24) (k + 1) = some (pos + (17 + lenP (d.drop (24 + pos))), bss ++ [bodyP (d.drop (24 + pos))]) := by
          have := runP_step HR.out (by rw [List.drop_drop]; exact hf)
          rw [List.drop_drop] at this
          exact this
        obtain ⟨m, hm⟩ : ∃ m, lenP (d.drop (24 + pos)) = m := ⟨_, rfl⟩
        obtain ⟨body, hbd⟩ : ∃ body, bodyP (d.drop (24 + pos)) = body := ⟨_, rfl⟩
        rw [hm, hbd] at cy hR2
        rw [hm] at hf1 hf2
        have HR2 : Hid (runP (d.drop 24) (k + 1) = some (pos + (17 + m), bss ++ [body])) := hR2
        have hcx : ¬ cap = 24 + pos := by omega
        have hmn : ((17 : Int) + (m : Int) == 0) = false := by simp; omega
        have hbl := (runP_facts HR.out).1
        clear hf hm hbd hR2
        go_wp2_with (go_at_call 34; fail)
        refine cy.mono ?_
        rintro e W3 ⟨a1, p1, rfl, hO, hb3⟩
        obtain ⟨ho3, hB3, HP⟩ := push_all hbl hown HI.out (by omega) hb3 hO
        have HPP : Hid (∀ w4 v2, _ → _ → _) := HP
        obtain ⟨t0, t1, t2, t3, tf⟩ := HSc.out.next hb3 (by omega)
        have HB3 : Hid (Below wr.heap.size wr W3) := hb3
        clear cy HP hb3 hO s0 s1 s2 s3 sf
        go_wp2_with (first | (at_builtin; refine wpList_append_own _ rfl _ _ 31 rfl (w.heap.size + 3) 22 i1 (.slice none 0 0) 1 24 Tryd.underlying31 hj1 hy0 hy1 hy2 rfl (by decide) (.slice ao k cp) k cells rfl (ho3.alloc _) ⟨W3.heap.size, 0, none⟩ 1 1 [.slice a1 m p1] rfl rfl ?_ ?_ ?_ ?_ ?_ ?_) | fail)
        · exact cell_one_new _ _ _
        · intro u hu; simp at hu; subst hu; rfl
        · unfold maxLen; omega
        · omega
        · simp; omega
        · intro v4 W4 hown4 hgrow4 _
          obtain ⟨⟨a3, p3, cells3, rfl, ho4, hI4⟩, hb4, hs4⟩ := HPP.out W4 v4 hown4 hgrow4
          have HSc4 : Hid (Sc W4 (w.heap.size + 2) (G : Int) (.slice ao k cp) (.slice none 0 0) 0) := HSc.out.next hb4 (by omega)
          obtain ⟨t0, t1, t2, t3, tf⟩ := HSc4.out
          have HRc4 : Hid (Rc W4 w.heap.size) := HRc.out.under hb4 (by omega)
          have HFc4 : Hid (Fc W4 (w.heap.size + 1)) := HFc.out.next hb4 (by omega)
          have HBl4 : Hid (Below w.heap.size w W4) := HBl.out.trans (hb4.mono (by omega))
          clear hown4 hgrow4 HPP ho3 hown
          go_wp2
          go_roundw
          case rel =>
            refine ⟨k + 1, pos + (17 + m), bss ++ [body], cells3, a3, p3, HR2, by omega, by omega, by go_num, by go_num, HRc4.out.off (by omega) _, HFc4.out.off (by omega) _, HSc4.out.set1 _, ownsRow_setCell_below ho4 (a := ⟨w.heap.size + 2, 1, none⟩) (by show w.heap.size + 2 < w.heap.size + 3; omega) _, ?_, HBl4.out.setCell (p := ⟨w.heap.size + 2, 1, none⟩) (by show w.heap.size ≤ w.heap.size + 2; omega) _, by simpa using hs4⟩
            exact fun i hi => (hI4 i hi).set (by omega) _
          case measure => simp [intOf]; omega
    · obtain rfl : k = N := by omega
      have c16 : ∀ o nn cp, o = off + 16 ∧ nn = 4 ∧ 4 ≤ cp → Calls Tryd.prog 32 #[.slice (some ⟨b, o, none⟩) nn cp] wr fun e w' => e = .returned (.int .u64 (S : Int)) ∧ wr = w' := fun o nn cp hh => calls_swap (HV16.out wr HAr.out o nn cp 0 hh)
      have ewp := wrap_u64_small pos (by omega)
      clear hkN
      by_cases hSp : S = pos
      · subst hSp
        have hSS : ((S : Int) != 24 + (S : Int) - 24) = false := by
          rw [show 24 + (S : Int) - 24 = (S : Int) by omega]
          simp
        go_wp2_with (first | (go_at_call 32; refine (c16 _ _ _ ?_).mono ?_; (focus omega); rintro e w' ⟨rfl, rfl⟩) | fail)
        clear c16 s0 s1 s2 s3 sf
        obtain ⟨W0, rfl⟩ : ∃ W0, W0 = wr := ⟨_, rfl⟩
        obtain ⟨B2, hB2⟩ : ∃ B2, B2 = W0.heap.size := ⟨_, rfl⟩
        have HB2 : Hid (B2 = W0.heap.size) := hB2
        have hB3 : w.heap.size + 3 ≤ B2 := by omega
        have hbl := (runP_facts HR.out).1
        have HVV : Hid (VV W0 (w.heap.size + 3) (.slice ao k cp) bss) := ⟨cells, by rw [hbl]; exact hown, HI.out⟩
        clear hB2 hown HI hsz
        go_loopw [6, 10] (fun a i wr => ∃ (k2 pos2 : Nat) (rss : List (List Nat)) (cells2 : List Value) (ao2 : Option Addr) (cp2 : Nat), Hid (runP ((d.drop 24).drop S) k2 = some (pos2, rss)) ∧ k2 ≤ 400000 ∧ pos2 ≤ l - 24 - S ∧ a = .int .i64 ((24 + S + pos2 : Nat) : Int) ∧ i = .int .i64 k2 ∧ Hid (Rc wr w.heap.size) ∧ Hid (Fc wr (w.heap.size + 1)) ∧ Hid (Sc wr (w.heap.size + 2) (G : Int) (.slice ao k cp) (.slice ao2 k2 cp2) 0) ∧ wr.ownsRow B2 22 1 (.slice ao2 k2 cp2) k2 cells2 ∧ Hid (∀ i, i < rss.length → Own wr B2 (cells2.getD i undef) (rss.getD i [])) ∧ Hid (Below w.heap.size w wr) ∧ Hid (Same (w.heap.size + 3) B2 W0 wr) ∧ B2 ≤ wr.heap.size) (fun a _ _ => l - (intOf a).toNat)
        case atStart => exact ⟨0, 0, [], [], none, 0, rfl, by omega, by omega, rfl, rfl, HRc, HFc, HSc, World.ownsRow_nil _ _ _ _, by (intro i hi; simp at hi), HBl, Same.refl _ _ _, by rw [HB2.out]; exact Nat.le_refl _⟩
        case round =>
          clear HRc HFc HSc
          obtain ⟨k2, pos2, rss, cells2, ao2, cp2, HR2, hk2, hpos2, rfl, rfl, HRc, HFc, HSc, hown, HI, HBl2, HSm, hsz⟩ := hrel
          have HAr2 : Hid (At wr b off d) := h0.out.next HBl2.out
          obtain ⟨s0, s1, s2, s3, sf⟩ := HSc.out
          have hk32 : (k2 : Int) % 4294967296 = (k2 : Int) := by omega
          cases hf : frameP (d.drop (24 + S + pos2)) k2 with
          | false =>
            have cn := fun ad had => framed_at_no (k := k2) (x := 24 + S + pos2) HAr2.out HL.out hc hl (by omega) (by omega) hf ad had
            have HEN : Hid (EndP ((d.drop 24).drop S) k2 pos2 rss) := ⟨HR2.out, by rw [List.drop_drop, List.drop_drop, ← Nat.add_assoc]; exact hf⟩
            clear hf
            by_cases hcx : cap = 24 + S + pos2
            · have cn1 := cn ⟨b, off, none⟩ (by rw [if_pos hcx])
              clear cn
              subst hcx
              rw [show l - (24 + S + pos2) = 0 by omega, Nat.sub_self] at cn1
              go_wp2_with (first | (go_at_call 34; refine cn1.mono ?_; rintro e w' ⟨rfl, m, rfl⟩) | fail)
              obtain ⟨U, hU⟩ : ∃ U, (wr.drewN m).setCell ⟨w.heap.size + 2, 3, none⟩ (.int .i64 (24 + (S : Int) + (pos2 : Int))) = U := ⟨_, rfl⟩
              rw [hU]
              have HRu : Hid (Rc U w.heap.size) := by rw [← hU]; exact Rc.off (W := wr.drewN m) ⟨HRc.out.c0, HRc.out.c1, HRc.out.c2, HRc.out.c3, HRc.out.cf⟩ (by omega) _
              have HFu : Hid (Fc U (w.heap.size + 1)) := by rw [← hU]; exact Fc.off (W := wr.drewN m) ⟨HFc.out.c0, HFc.out.c1, HFc.out.cf⟩ (by omega) _
              have HSu : Hid (Sc U (w.heap.size + 2) (G : Int) (.slice ao k cp) (.slice ao2 k2 cp2) (24 + (S : Int) + (pos2 : Int))) := by rw [← hU]; exact Sc.set3 (W := wr.drewN m) ⟨HSc.out.c0, HSc.out.c1, HSc.out.c2, HSc.out.c3, HSc.out.cf⟩ _
              have HBu : Hid (Below w.heap.size w U) := by rw [← hU]; exact (below_drewN HBl2.out m).setCell (p := ⟨w.heap.size + 2, 3, none⟩) (by show w.heap.size ≤ w.heap.size + 2; omega) _
              have hus : U.heap.size = wr.heap.size := by rw [← hU]; simp
              have HV1 : Hid (VV U (w.heap.size + 3) (.slice ao k cp) bss) := by
                rw [← hU]
                exact VV.set (w := wr.drewN m) (VV.same HVV.out (by rw [HB2.out]; exact Nat.le_refl _) HSm.out) (by omega) _
              have HV2 : Hid (VV U (w.heap.size + 3) (.slice ao2 k2 cp2) rss) := by
                rw [← hU]
                refine VV.set (w := wr.drewN m) ?_ (by omega) _
                have : VV wr B2 (.slice ao2 k2 cp2) rss := ⟨cells2, by rw [(runP_facts HR2.out).1]; exact hown, HI.out⟩
                exact this.base (by omega)
              obtain ⟨e0, e1, e2, e3, ef⟩ := HSu.out
              clear hU cn1 s0 s1 s2 s3 sf hown
              have hu1 : w.heap.size + 1 < U.heap.size := by omega
              have hu2 : w.heap.size + 2 < U.heap.size := by omega
              have HN9 : Hid (∀ W9, Below U.drew.heap.size U.drew W9 → Rc W9 w.heap.size ∧ Fc W9 (w.heap.size + 1) ∧ Sc W9 (w.heap.size + 2) (G : Int) (.slice ao k cp) (.slice ao2 k2 cp2) (24 + (S : Int) + (pos2 : Int))) := fun W9 h9 => ⟨HRu.out.next (first_drew h9), HFu.out.next (first_drew h9) hu1, HSu.out.next (first_drew h9) hu2⟩
              go_region_with (go_at_call 35; go_loud (refine (none_any _).mono ?_; rintro e W9 ⟨rfl, hb8⟩; obtain ⟨⟨r0, r1, r2, r3, rf⟩, ⟨f0, f1, ff⟩, ⟨z0, z1, z2, z3, zf⟩⟩ := HN9.out W9 hb8))
              all_goals
                have hb9 := first_drew hb8
                obtain ⟨y0, y1, y2, y3, y4, y5⟩ := yes_stores (x0 := .int .u64 (G : Int)) (x1 := .slice ao k cp) (x2 := .slice ao2 k2 cp2) (x3 := .int .i64 (24 + (S : Int) + (pos2 : Int))) ⟨r0, r1, r2, r3, rf⟩ ⟨f0, f1, ff⟩ (by omega)
                go_wp2
                refine bodyPost_ret (v := .tuple #[.agg #[.int .u64 (G : Int), .slice ao k cp, .slice ao2 k2 cp2, .int .i64 (24 + (S : Int) + (pos2 : Int))], .agg #[.slice none 0 0, .int .i64 0]]) (by simp only [results, Tryd.results14]; simp [go_sem, y0, y1, y2, y3, y4, y5]) rfl (.inr ⟨bss, k2, pos2, rss, .slice ao k cp, .slice ao2 k2 cp2, by simp, HR.out, HEN.out, (HV1.out.next hb9).sets (by omega) (by omega), (HV2.out.next hb9).sets (by omega) (by omega), ?_⟩)
                exact no_below (HBu.out.trans (hb9.mono (by omega))) (Nat.le_refl _) (by omega)
            · have cn1 := cn ⟨b, off + (24 + S + pos2), none⟩ (by rw [if_neg hcx])
              clear cn
              go_wp2_with (first | (go_at_call 34; refine cn1.mono ?_; rintro e w' ⟨rfl, m, rfl⟩) | fail)
              obtain ⟨U, hU⟩ : ∃ U, (wr.drewN m).setCell ⟨w.heap.size + 2, 3, none⟩ (.int .i64 (24 + (S : Int) + (pos2 : Int))) = U := ⟨_, rfl⟩
              rw [hU]
              have HRu : Hid (Rc U w.heap.size) := by rw [← hU]; exact Rc.off (W := wr.drewN m) ⟨HRc.out.c0, HRc.out.c1, HRc.out.c2, HRc.out.c3, HRc.out.cf⟩ (by omega) _
              have HFu : Hid (Fc U (w.heap.size + 1)) := by rw [← hU]; exact Fc.off (W := wr.drewN m) ⟨HFc.out.c0, HFc.out.c1, HFc.out.cf⟩ (by omega) _
              have HSu : Hid (Sc U (w.heap.size + 2) (G : Int) (.slice ao k cp) (.slice ao2 k2 cp2) (24 + (S : Int) + (pos2 : Int))) := by rw [← hU]; exact Sc.set3 (W := wr.drewN m) ⟨HSc.out.c0, HSc.out.c1, HSc.out.c2, HSc.out.c3, HSc.out.cf⟩ _
              have HBu : Hid (Below w.heap.size w U) := by rw [← hU]; exact (below_drewN HBl2.out m).setCell (p := ⟨w.heap.size + 2, 3, none⟩) (by show w.heap.size ≤ w.heap.size + 2; omega) _
              have hus : U.heap.size = wr.heap.size := by rw [← hU]; simp
              have HV1 : Hid (VV U (w.heap.size + 3) (.slice ao k cp) bss) := by
                rw [← hU]
                exact VV.set (w := wr.drewN m) (VV.same HVV.out (by rw [HB2.out]; exact Nat.le_refl _) HSm.out) (by omega) _
              have HV2 : Hid (VV U (w.heap.size + 3) (.slice ao2 k2 cp2) rss) := by
                rw [← hU]
                refine VV.set (w := wr.drewN m) ?_ (by omega) _
                have : VV wr B2 (.slice ao2 k2 cp2) rss := ⟨cells2, by rw [(runP_facts HR2.out).1]; exact hown, HI.out⟩
                exact this.base (by omega)
              obtain ⟨e0, e1, e2, e3, ef⟩ := HSu.out
              clear hU cn1 s0 s1 s2 s3 sf hown
              have hu1 : w.heap.size + 1 < U.heap.size := by omega
              have hu2 : w.heap.size + 2 < U.heap.size := by omega
              have HN9 : Hid (∀ W9, Below U.drew.heap.size U.drew W9 → Rc W9 w.heap.size ∧ Fc W9 (w.heap.size + 1) ∧ Sc W9 (w.heap.size + 2) (G : Int) (.slice ao k cp) (.slice ao2 k2 cp2) (24 + (S : Int) + (pos2 : Int))) := fun W9 h9 => ⟨HRu.out.next (first_drew h9), HFu.out.next (first_drew h9) hu1, HSu.out.next (first_drew h9) hu2⟩
              go_region_with (go_at_call 35; go_loud (refine (none_any _).mono ?_; rintro e W9 ⟨rfl, hb8⟩; obtain ⟨⟨r0, r1, r2, r3, rf⟩, ⟨f0, f1, ff⟩, ⟨z0, z1, z2, z3, zf⟩⟩ := HN9.out W9 hb8))
              all_goals
                have hb9 := first_drew hb8
                obtain ⟨y0, y1, y2, y3, y4, y5⟩ := yes_stores (x0 := .int .u64 (G : Int)) (x1 := .slice ao k cp) (x2 := .slice ao2 k2 cp2) (x3 := .int .i64 (24 + (S : Int) + (pos2 : Int))) ⟨r0, r1, r2, r3, rf⟩ ⟨f0, f1, ff⟩ (by omega)
                go_wp2
                refine bodyPost_ret (v := .tuple #[.agg #[.int .u64 (G : Int), .slice ao k cp, .slice ao2 k2 cp2, .int .i64 (24 + (S : Int) + (pos2 : Int))], .agg #[.slice none 0 0, .int .i64 0]]) (by simp only [results, Tryd.results14]; simp [go_sem, y0, y1, y2, y3, y4, y5]) rfl (.inr ⟨bss, k2, pos2, rss, .slice ao k cp, .slice ao2 k2 cp2, by simp, HR.out, HEN.out, (HV1.out.next hb9).sets (by omega) (by omega), (HV2.out.next hb9).sets (by omega) (by omega), ?_⟩)
                exact no_below (HBu.out.trans (hb9.mono (by omega))) (Nat.le_refl _) (by omega)
          | true =>
            have cy := framed_yes (HAr2.out.drop (24 + S + pos2)) (l := l - (24 + S + pos2)) (cap := cap - (24 + S + pos2)) (by rw [List.length_drop, HL.out]) (by omega) (by omega) (show k2 < 4294967296 by omega) hf
            obtain ⟨hf1, hf2⟩ := frameP_len hf
            rw [List.length_drop, HL.out] at hf1
            have hR3 : runP ((d.drop 24).drop S) (k2 + 1) = some (pos2 + (17 + lenP (d.drop (24 + S + pos2))), rss ++ [bodyP (d.drop (24 + S + pos2))]) := by
              have := runP_step HR2.out (by rw [List.drop_drop, List.drop_drop, ← Nat.add_assoc]; exact hf)
              rw [show ((d.drop 24).drop S).drop pos2 = d.drop (24 + S + pos2) by rw [List.drop_drop, List.drop_drop, ← Nat.add_assoc]] at this
              exact this
            obtain ⟨m, hm⟩ : ∃ m, lenP (d.drop (24 + S + pos2)) = m := ⟨_, rfl⟩
            obtain ⟨body, hbd⟩ : ∃ body, bodyP (d.drop (24 + S + pos2)) = body := ⟨_, rfl⟩
            rw [hm, hbd] at cy hR3
            rw [hm] at hf1 hf2
            have HR3 : Hid (runP ((d.drop 24).drop S) (k2 + 1) = some (pos2 + (17 + m), rss ++ [body])) := hR3
            have hk3 : k2 + 1 ≤ 400000 := by
              obtain ⟨_, h2, h3⟩ := runP_facts hR3
              rw [List.length_drop, List.length_drop, HL.out] at h2
              omega
            have hcx : ¬ cap = 24 + S + pos2 := by omega
            have hmn : ((17 : Int) + (m : Int) == 0) = false := by simp; omega
            have hbl2 := (runP_facts HR2.out).1
            clear hf hm hbd hR3
            go_wp2_with (go_at_call 34; fail)
            refine cy.mono ?_
            rintro e W3 ⟨a1, p1, rfl, hO, hb3⟩
            obtain ⟨ho3, hB3', HP⟩ := push_all hbl2 hown HI.out hsz hb3 hO
            have HPP : Hid (∀ w4 v2, _ → _ → _) := HP
            obtain ⟨t0, t1, t2, t3, tf⟩ := HSc.out.next hb3 (by omega)
            clear cy HP hb3 hO s0 s1 s2 s3 sf
            go_wp2_with (first | (at_builtin; refine wpList_append_own _ rfl _ _ 31 rfl B2 22 i1 (.slice none 0 0) 1 24 Tryd.underlying31 hj1 hy0 hy1 hy2 rfl (by decide) (.slice ao2 k2 cp2) k2 cells2 rfl (ho3.alloc _) ⟨W3.heap.size, 0, none⟩ 1 1 [.slice a1 m p1] rfl rfl ?_ ?_ ?_ ?_ ?_ ?_) | fail)
            · exact cell_one_new _ _ _
            · intro u hu; simp at hu; subst hu; rfl
            · unfold maxLen; omega
            · omega
            · simp; omega
            · intro v4 W4 hown4 hgrow4 _
              obtain ⟨⟨a3, p3, cells3, rfl, ho4, hI4⟩, hb4, hs4⟩ := HPP.out W4 v4 hown4 hgrow4
              have HSc4 : Hid (Sc W4 (w.heap.size + 2) (G : Int) (.slice ao k cp) (.slice ao2 k2 cp2) 0) := HSc.out.next hb4 (by omega)
              obtain ⟨t0, t1, t2, t3, tf⟩ := HSc4.out
              have HRc4 : Hid (Rc W4 w.heap.size) := HRc.out.under hb4 (by omega)
              have HFc4 : Hid (Fc W4 (w.heap.size + 1)) := HFc.out.next hb4 (by omega)
              have HBl4 : Hid (Below w.heap.size w W4) := HBl2.out.trans (hb4.mono (by omega))
              have HSm4 : Hid (Same (w.heap.size + 3) B2 W0 W4) := HSm.out.below hb4
              clear hown4 hgrow4 HPP ho3 hown
              go_wp2
              go_roundw
              case rel =>
                refine ⟨k2 + 1, pos2 + (17 + m), rss ++ [body], cells3, a3, p3, HR3, hk3, by omega, by go_num, by go_num, HRc4.out.off (by omega) _, HFc4.out.off (by omega) _, HSc4.out.set2 _, ownsRow_setCell_below ho4 (a := ⟨w.heap.size + 2, 2, none⟩) (by show w.heap.size + 2 < B2; omega) _, ?_, HBl4.out.setCell (p := ⟨w.heap.size + 2, 2, none⟩) (by show w.heap.size ≤ w.heap.size + 2; omega) _, HSm4.out.set (by omega) _, by simpa using hs4⟩
                exact fun i hi => (hI4 i hi).set (by omega) _
              case measure => simp [intOf]; omega
      · have hne : ((S : Int) != (pos : Int)) = true := by simp; omega
        have HNO : Hid (∀ bss, runP (d.drop 24) k ≠ some (S, bss)) := by
          intro bss' hb'
          rw [HR.out] at hb'
          simp only [Option.some.injEq, Prod.mk.injEq] at hb'
          omega
        have HRX : Hid (Rc wr w.heap.size) := HRc.out
        have HFX : Hid (Fc wr (w.heap.size + 1)) := HFc.out
        have HBX : Hid (Below w.heap.size w wr) := HBl.out
        have HSX : Hid (w.heap.size + 2 ≤ wr.heap.size) := by show _ ≤ _; omega
        clear hSp
        go_wp2_with (first | (go_at_call 32; refine (c16 _ _ _ ?_).mono ?_; (focus omega); rintro e w' ⟨rfl, rfl⟩) | (go_at_call 33; fail))
        refine (refNo_any _ _ _).mono ?_
        rintro e W9 ⟨g, rfl, hb9, q0, q1, hg, hg9⟩
        have hgl : w.heap.size + 2 ≤ g := by have := HSX.out; omega
        obtain ⟨a0, a1, a2, a3, af⟩ := HRX.out.next hb9
        obtain ⟨f0, f1, ff⟩ := HFX.out.next hb9 (by have := HSX.out; omega)
        go_wp2
        obtain ⟨u0, u1, u2, u3, u4, u5, hRF⟩ := no_stores (c := 43) (cg := 1) ⟨a0, a1, a2, a3, af⟩ ⟨f0, f1, ff⟩ (by omega) (by omega) (by omega) q0 q1
        refine bodyPost_ret (v := .tuple #[noScan, .agg #[.slice (some ⟨g, 0, none⟩) 1 1, .int .i64 43]]) (by simp only [results, Tryd.results14]; simp [go_sem, u0, u1, u2, u3, u4, u5, noScan]) rfl (.inl ⟨⟨_, rfl, hRF, no_below (HBX.out.trans (hb9.mono HBX.out.size)) (Nat.le_refl _) (by omega)⟩, ?_⟩)
        exact HNO.out
end Go.Proofs.YtngmleddlfkecaaDoor
