import Derived.Test.YtfoodjhffehgpaaGreatDoorIh
/-
  DERIVED. How the document goes through a list of nodes.
-/
namespace Go.Proofs.YtfoodjhffehgpaaGreatDoor
open Go Go.Proofs Go.RowKit
open Wk (Nd NV)

set_option maxRecDepth 100000 in
set_option maxHeartbeats 4000000 in
theorem some_step (d : Nat) (hd : d ≤ 4) (hrec : d + 1 ≤ 4 → SomeC (d + 1)) : SomeC d := by
  intro w a n cap L i c hV hT hi h4 hc1 hc2
  have HV : Hid (NV w a n cap L) := hV
  have HT : Hid (TagsOk L) := hT
  have HN : Hid (n = L.length) := hV.len
  have HRC : Hid (d + 1 ≤ 4 → SomeC (d + 1)) := hrec
  have hsm := hV.small
  clear hV hT hrec
  have HI0 : Hid (SomeI elemOk itemOk L i c d 0 i 0) := SomeI.start _ _ L i c d (by rw [← HN.out]; exact hi) h4
  go_enter Tryz.func42, Tryz.ntmps42
  go_wp2
  go_loopw [1, 10, 11] (fun x1 x10 x11 wr => ∃ (j k : Nat) (last : Int), x1 = .int .i64 (j : Int) ∧ x10 = .int .u32 last ∧ x11 = .int .i64 (k : Int) ∧ j ≤ n ∧ j ≤ 4096 ∧ k ≤ j ∧ Hid (SomeI elemOk itemOk L i c d k j last) ∧ Hid (Below w.heap.size w wr)) (fun x1 _ _ _ => n - (intOf x1).toNat)
  case atStart => exact ⟨i, 0, 0, rfl, rfl, rfl, hi, h4, by omega, HI0, Below.refl _ _⟩
  case round =>
    obtain ⟨j, k, last, rfl, rfl, rfl, hj, hj4, hkj, HI, HB⟩ := hrel
    by_cases hk : (k : Int) = c
    · have HQ : Hid (SomeQ elemOk itemOk L i c d j true) := HI.out.done hk
      have bk : ((k : Int) != c) = false := by rw [hk]; simp
      clear hk HI
      go_wp2
      exact bodyPost_ret (v := .tuple #[.int .i64 (j : Int), .bool true]) (by simp [results, Tryz.results42, go_sem]) rfl ⟨j, true, rfl, HQ.out, HB.out⟩
    · have bk : ((k : Int) != c) = true := bne_iff_ne.2 hk
      by_cases hjn : n ≤ j
      · have HQ : Hid (SomeQ elemOk itemOk L i c d j (decide (c < 0))) := HI.out.ends hk (by rw [← HN.out]; exact hjn)
        clear hk HI
        have bj : decide ((n : Int) ≤ (j : Int)) = true := by simp; omega
        go_wp2
        exact bodyPost_ret (v := .tuple #[.int .i64 (j : Int), .bool (decide (c < 0))]) (by simp [results, Tryz.results42, go_sem]) rfl ⟨j, _, rfl, HQ.out, HB.out⟩
      · have bj : decide ((n : Int) ≤ (j : Int)) = false := by simp; omega
        by_cases hj40 : 4096 ≤ j
        · have HQ : Hid (SomeQ elemOk itemOk L i c d j false) := HI.out.bad hk (by rw [← HN.out]; omega) (.inl hj40)
          clear hk HI
          go_wp2
          exact bodyPost_ret (v := .tuple #[.int .i64 (j : Int), .bool false]) (by simp [results, Tryz.results42, go_sem]) rfl ⟨j, _, rfl, HQ.out, HB.out⟩
        · obtain ⟨b, off, hl, rfl, m0, m1, m2, m3⟩ := NV.cells HV.out (j := j) (by omega)
          have hbl : b < w.heap.size := Tb.cell_lt m0
          replace m0 := (HB.out.cell (p := ⟨b, off + j * 4, none⟩) hbl).trans m0
          replace m1 := (HB.out.cell (p := ⟨b, off + j * 4 + 1, none⟩) hbl).trans m1
          replace m2 := (HB.out.cell (p := ⟨b, off + j * 4 + 2, none⟩) hbl).trans m2
          replace m3 := (HB.out.cell (p := ⟨b, off + j * 4 + 3, none⟩) hbl).trans m3
          have hnr := HV.out.num _ (List.getElem_mem hl)
          have htg := HT.out _ (List.getElem_mem hl)
          have c24 := fun W => relement_any W (L[j]'hl) htg.1 htg.2 last
          have HBAD : Hid ((elemOk (L[j]'hl) && decide (last < (L[j]'hl).t)) = false → SomeQ elemOk itemOk L i c d j false) := fun h => HI.out.bad hk hl (.inr h)
          have HGOOD : Hid ((elemOk (L[j]'hl) && decide (last < (L[j]'hl).t)) = true → SomeJ elemOk itemOk L i c d k (j + 1) (L[j]'hl).t (L[j]'hl).n) := fun h => by
            simp only [Bool.and_eq_true, decide_eq_true_eq] at h
            exact HI.out.good elem_n hk hl (by omega) h.1 h.2
          obtain ⟨z, hz⟩ : ∃ z, (elemOk (L[j]'hl) && decide (last < (L[j]'hl).t)) = z := ⟨_, rfl⟩
          simp only [hz] at c24 HBAD HGOOD
          generalize L[j]'hl = q at m0 m1 m2 m3 hnr c24 HBAD HGOOD
          clear hz htg HI
          cases z with
          | false =>
            have HQ : Hid (SomeQ elemOk itemOk L i c d j false) := HBAD.out rfl
            clear HBAD HGOOD
            go_wp2_with (first | (go_at_call 59; refine (c24 _).mono ?_; rintro e W2 ⟨rfl, hb2⟩) | fail)
            exact bodyPost_ret (v := .tuple #[.int .i64 (j : Int), .bool false]) (by simp [results, Tryz.results42, go_sem]) rfl ⟨j, _, rfl, HQ.out, HB.out.trans (hb2.mono HB.out.size)⟩
          | true =>
            have HJ : Hid (SomeJ elemOk itemOk L i c d k (j + 1) q.t q.n) := HGOOD.out rfl
            clear HBAD HGOOD
            go_wp2_with (first | (go_at_call 59; refine (c24 _).mono ?_; rintro e W2 ⟨rfl, hb2⟩; have HB2 : Hid (Below w.heap.size w W2) := HB.out.trans (hb2.mono HB.out.size); have w0 := (hb2.cell (p := ⟨b, off + j * 4, none⟩) (Tb.cell_lt m0)).trans m0; have w2 := (hb2.cell (p := ⟨b, off + j * 4 + 2, none⟩) (Tb.cell_lt m2)).trans m2) | fail)
            clear c24 m0 m1 m2 m3 w0 w2
            go_loopw [1, 13] (fun x1 x13 wr => ∃ (e m : Nat), x1 = .int .i64 (e : Int) ∧ x13 = .int .i64 (m : Int) ∧ e ≤ n ∧ e ≤ 4096 ∧ j < e ∧ (m : Int) ≤ q.n ∧ Hid (SomeJ elemOk itemOk L i c d k e q.t (q.n - m)) ∧ Hid (Below w.heap.size w wr)) (fun x1 _ _ => n - (intOf x1).toNat)
            case atStart =>
              refine ⟨j + 1, 0, by simp, rfl, by omega, by omega, by omega, ?_, ?_, HB2⟩
              · have := HJ.out.2.2.2.2.2.1
                simpa using this
              · show SomeJ _ _ _ _ _ _ _ _ _ _
                have := HJ.out
                simpa using this
            case round =>
              obtain ⟨e, m, rfl, rfl, hen, he4, hje, hm, HJm, HBm⟩ := hrel
              by_cases hmq : (m : Int) < q.n
              · have bm : decide ((m : Int) < q.n) = true := by simpa using hmq
                have HMQ : Hid ((m : Int) < q.n) := hmq
                by_cases hen2 : n ≤ e
                · have HQ : Hid (SomeQ elemOk itemOk L i c d e false) := HJm.out.bad (by omega) (.inl (by rw [← HN.out]; exact hen2))
                  have be : decide ((n : Int) ≤ (e : Int)) = true := by simp; omega
                  go_wp2
                  exact bodyPost_ret (v := .tuple #[.int .i64 (e : Int), .bool false]) (by simp [results, Tryz.results42, go_sem]) rfl ⟨e, _, rfl, HQ.out, HBm.out⟩
                · have be : decide ((n : Int) ≤ (e : Int)) = false := by simp; omega
                  by_cases he40 : 4096 ≤ e
                  · have HQ : Hid (SomeQ elemOk itemOk L i c d e false) := HJm.out.bad (by omega) (.inr (.inl he40))
                    obtain rfl : e = 4096 := by omega
                    clear HJm HJ HI0 he40 he4
                    go_wp2
                    exact bodyPost_ret (v := .tuple #[.int .i64 4096, .bool false]) (by simp [results, Tryz.results42, go_sem]) rfl ⟨4096, _, rfl, HQ.out, HBm.out⟩
                  · obtain ⟨b', off', hl', hab, m0, m1, m2, m3⟩ := NV.cells HV.out (j := e) (by omega)
                    obtain ⟨rfl, rfl⟩ : b = b' ∧ off = off' := by simpa using hab
                    replace m0 := (HBm.out.cell (p := ⟨b, off + e * 4, none⟩) hbl).trans m0
                    replace m1 := (HBm.out.cell (p := ⟨b, off + e * 4 + 1, none⟩) hbl).trans m1
                    replace m2 := (HBm.out.cell (p := ⟨b, off + e * 4 + 2, none⟩) hbl).trans m2
                    replace m3 := (HBm.out.cell (p := ⟨b, off + e * 4 + 3, none⟩) hbl).trans m3
                    have hnr' := HV.out.num _ (List.getElem_mem hl')
                    have c25 : ∀ W, Calls Tryz.prog 60 #[.agg #[.int .u32 (L[e]'hl').t, .int .i64 (L[e]'hl').v, .int .i64 (L[e]'hl').n, .string (L[e]'hl').s], .int .i64 ((d : Int) + 1)] W fun e_1 w' => e_1 = .returned (.bool (itemOk (L[e]'hl') && decide (d + 1 ≤ 4))) ∧ Below W.heap.size W w' := fun W => ritem_any W (L[e]'hl') (d + 1) (by omega)
                    have HBAD : Hid ((itemOk (L[e]'hl') && decide (d + 1 ≤ 4)) = false → SomeQ elemOk itemOk L i c d e false) := fun h => HJm.out.bad (by omega) (.inr (.inr ⟨hl', h⟩))
                    have HGOOD : Hid ((itemOk (L[e]'hl') && decide (d + 1 ≤ 4)) = true → (∀ (W : World), Below w.heap.size w W → Calls Tryz.prog 42 #[.slice (some ⟨b, off, none⟩) n cap, .int .i64 ((e : Int) + 1), .int .i64 (L[e]'hl').n, .int .i64 ((d : Int) + 1)] W (SomeP W L (e + 1) (L[e]'hl').n (d + 1))) ∧ ∀ (e2 : Nat) (ok : Bool), SomeQ elemOk itemOk L (e + 1) (L[e]'hl').n (d + 1) e2 ok → (ok = false → SomeQ elemOk itemOk L i c d e2 false) ∧ (ok = true → SomeJ elemOk itemOk L i c d k e2 q.t (q.n - m - 1))) := fun h => by
                      simp only [Bool.and_eq_true, decide_eq_true_eq] at h
                      refine ⟨fun W hW => ?_, fun e2 ok hq => HJm.out.item item_n (by omega) hl' (by omega) h.1 h.2 hq⟩
                      have h0 := item_n _ h.1
                      exact HRC.out h.2 W _ n cap L (e + 1) _ (HV.out.on hW) HT.out (by omega) (by omega) (by omega) hnr'.2
                    obtain ⟨z, hz⟩ : ∃ z, (itemOk (L[e]'hl') && decide (d + 1 ≤ 4)) = z := ⟨_, rfl⟩
                    simp only [hz] at c25 HBAD HGOOD
                    generalize L[e]'hl' = q' at m0 m1 m2 m3 hnr' c25 HBAD HGOOD
                    clear hz hab
                    have b4 : decide ((4096 : Int) ≤ (e : Int)) = false := by simp; omega
                    have HE4 : Hid (e < 4096) := by show _ < _; omega
                    have hmr : (m : Int) < 9223372036854775807 := by omega
                    clear he40 he4 hmq hnr hnr' hc1 hc2
                    cases z with
                    | false =>
                      have HQ : Hid (SomeQ elemOk itemOk L i c d e false) := HBAD.out rfl
                      clear HBAD HGOOD
                      go_wp2_with (first | (go_at_call 60; refine (c25 _).mono ?_; rintro e W3 ⟨rfl, hb3⟩) | fail)
                      exact bodyPost_ret (v := .tuple #[.int .i64 (e : Int), .bool false]) (by simp [results, Tryz.results42, go_sem]) rfl ⟨e, _, rfl, HQ.out, HBm.out.trans (hb3.mono HBm.out.size)⟩
                    | true =>
                      have HG : Hid _ := HGOOD.out rfl
                      clear HBAD HGOOD
                      go_wp2_with (first | (go_at_call 60; refine (c25 _).mono ?_; rintro e_1 W3 ⟨rfl, hb3⟩; have HB3 : Hid (Below w.heap.size w W3) := HBm.out.trans (hb3.mono HBm.out.size); have w2 := (hb3.cell (p := ⟨b, off + e * 4 + 2, none⟩) (Tb.cell_lt m2)).trans m2) | (go_at_call 42; refine StopF.out ?_))
                      refine ⟨Calls.mono (HG.out.1 W3 HB3.out) ?_⟩
                      rintro e_1 W4 ⟨e2, ok, rfl, hq2, hb4⟩
                      have HB4 : Hid (Below w.heap.size w W4) := HB3.out.trans (hb4.mono HB3.out.size)
                      have hr1 := hq2.1
                      have hr2 : e2 ≤ n := by rw [HN.out]; exact hq2.2.1
                      have hr3 := hq2.2.2.1
                      have HK := HG.out.2 e2 ok hq2
                      clear hb4 hq2 hb3 c25 m0 m1 m2 m3 w2
                      cases ok with
                      | false =>
                        have HQ : Hid (SomeQ elemOk itemOk L i c d e2 false) := HK.1 rfl
                        clear HK HG
                        go_wp2
                        exact bodyPost_ret (v := .tuple #[.int .i64 (e2 : Int), .bool false]) (by simp [results, Tryz.results42, go_sem]) rfl ⟨e2, _, rfl, HQ.out, HB4.out⟩
                      | true =>
                        have HJ2 : Hid (SomeJ elemOk itemOk L i c d k e2 q.t (q.n - ((m + 1 : Nat) : Int))) := by
                          show SomeJ _ _ _ _ _ _ _ _ _ _
                          have := HK.2 rfl
                          rwa [show q.n - (m : Int) - 1 = q.n - ((m + 1 : Nat) : Int) by omega] at this
                        clear HK HG
                        go_wp2
                        exact ⟨⟨e2, m + 1, rfl, by simp, hr2, hr3, by omega, by have := HMQ.out; omega, HJ2, HB4⟩, by simp [intOf]; omega⟩
              · have HI2 : Hid (SomeI elemOk itemOk L i c d (k + 1) e q.t) := by
                  have := HJm.out
                  rw [show q.n - (m : Int) = 0 by omega] at this
                  exact this.done
                have bm : decide ((m : Int) < q.n) = false := by simp; omega
                go_wp2
                exact ⟨⟨e, k + 1, q.t, rfl, rfl, by simp, hen, he4, by omega, HI2, HBm⟩, by simp [intOf]; omega⟩
end Go.Proofs.YtfoodjhffehgpaaGreatDoor
