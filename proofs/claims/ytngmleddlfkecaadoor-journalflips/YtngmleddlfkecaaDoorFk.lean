import Derived.Test.YtngmleddlfkecaaDoorFj
namespace Go.Proofs.YtngmleddlfkecaaDoor
open Go Go.Proofs Go.RowKit

theorem owns_under {w w' : World} {B U : Nat} {e : TypeId} {s n : Nat} {v : Value} {xs : List Value} (h : w.ownsRow B e s v n xs) (hb : Below U w w') (hv : ∀ q, v.ownBlock = some q → q < U) : w'.ownsRow B e s v n xs := by
  refine ⟨h.1, ?_⟩
  rcases h.2 with h | ⟨g, cap, cur, rfl, h1, h2, h3⟩
  · exact .inl h
  · exact .inr ⟨g, cap, cur, rfl, h1, by rw [hb.block g (hv g rfl)]; exact h2, h3⟩

theorem Own.under {w w' : World} {B U : Nat} {v : Value} {l : List Nat} (h : Own w B v l) (hb : Below U w w') (hv : ∀ q, v.ownBlock = some q → q < U) : Own w' B v l := ⟨owns_under h.1 hb hv, h.2⟩

theorem Lent.under {w w' : World} {B U g : Nat} {d : List Nat} (h : Lent w B g d) (hb : Below U w w') (hg : g < U) : Lent w' B g d := Own.under h hb (fun q hq => by simp [Value.ownBlock] at hq; omega)

theorem LS.under {w w' : World} {B U : Nat} {v : Value} {l : List (List Nat)} {g : Nat → Nat} (h : LS w B v l g) (hb : Below U w w') (hv : ∀ q, v.ownBlock = some q → q < U) (hg : ∀ i, i < l.length → g i < U) : LS w' B v l g := by
  obtain ⟨cells, h1, h2, h3⟩ := h
  exact ⟨cells, owns_under h1 hb hv, fun i hi => ⟨(h2 i hi).1, (h2 i hi).2.under hb (hg i hi)⟩, h3⟩

set_option maxRecDepth 100000 in
set_option maxHeartbeats 4000000 in
/-- again: yes. -/
theorem again_any {w0 w : World} {B1 gx gen n : Nat} {body : List Nat} {bss : List (List Nat)} {gs : Nat → Nat} {vb vl v3 : Value}
    (hX : Lent w w0.heap.size gx body) (hgx : gx < B1) (hLS : LS w w0.heap.size vl bss gs) (hgs : ∀ i, i < bss.length → gs i < B1 ∧ gs i ≠ gx) (hB1 : B1 ≤ w.heap.size)
    (hV : V w0 vb body) (hVS : VS w0 v3 bss) (hT : Tab w0) (hb : Below w0.heap.size w0 w) (hF : Few bss) (hbl : body.length ≤ 400000) (hn : n < 4294967296) (hg : gen < 18446744073709551616) :
    Calls Tryd.prog 25 #[.int .u64 (gen : Int), .int .u32 (n : Int), vb, v3, .slice (some ⟨gx, 0, none⟩) body.length (body.length + 3), vl] w fun e w' => e = .returned (.bool true) ∧ Below w0.heap.size w0 w' ∧ ∀ v l, Own w B1 v l → Own w' B1 v l := by
  obtain ⟨i1, hj1, hy0, hy1, hy2⟩ := info_parts Tryd.info22
  obtain ⟨B0, hB0⟩ : ∃ B0, w0.heap.size = B0 := ⟨_, rfl⟩
  have HB0 : Hid (w0.heap.size = B0) := hB0
  obtain ⟨ab, cb, hvb, _, _⟩ := hV.form
  obtain ⟨a3, c3, hv3, _⟩ := hVS
  have hVS : VS w0 v3 bss := ⟨a3, c3, hv3, by assumption⟩
  obtain ⟨al, cl, hvl, _⟩ := hLS.form
  obtain ⟨N, hN⟩ : ∃ N, bss.length = N := ⟨_, rfl⟩
  have HN : Hid (bss.length = N) := hN
  obtain ⟨M, hM⟩ : ∃ M, body.length = M := ⟨_, rfl⟩
  have HM : Hid (body.length = M) := hM
  rw [hM] at hvb hbl ⊢
  rw [hN] at hv3 hvl hgs
  rw [hB0] at hX hLS hb ⊢
  have hge : B0 ≤ gx := hX.lt.1
  have HV : Hid (V w0 (.slice ab M cb) body) := by rw [← hvb]; exact hV
  have HVS : Hid (VS w0 (.slice a3 N c3) bss) := by rw [← hv3]; exact hVS
  have HLS0 : Hid (LS w B0 (.slice al N cl) bss gs) := by rw [← hvl]; exact hLS
  have HX0 : Hid (Lent w B0 gx body) := hX
  have HT : Hid (Tab w0) := hT
  have HF : Hid (Few bss) := hF
  have HGS : Hid (∀ i, i < N → gs i < B1 ∧ gs i ≠ gx) := hgs
  have hN7 : N ≤ 700 := by rw [← hN]; exact hF.1
  subst hvb hv3 hvl
  obtain ⟨P, hP⟩ : ∃ P : World → Prop, P = fun W => Below B0 w0 W ∧ w.heap.size ≤ W.heap.size ∧ ∀ v l, Own w B1 v l → Own W B1 v l := ⟨_, rfl⟩
  have HPP : Hid (P = fun W => Below B0 w0 W ∧ w.heap.size ≤ W.heap.size ∧ ∀ v l, Own w B1 v l → Own W B1 v l) := hP
  have HP0 : Hid (P w) := by show P w; rw [hP]; exact ⟨hb, Nat.le_refl _, fun v l h => h⟩
  have hB02 : B0 ≤ w.heap.size := by have := hb.size; rw [hB0] at this; exact this
  have HPunder : Hid (∀ W W', P W → Below w.heap.size W W' → P W') := by
    intro W W' h hb'
    rw [hP] at h ⊢
    obtain ⟨q1, q2, q3⟩ := h
    exact ⟨q1.trans (hb'.mono hB02), Nat.le_trans q2 hb'.size, fun v l hv => (q3 v l hv).under hb' (fun q hq => (hv.1.lt q hq).2)⟩
  have HPset : Hid (∀ W g i x, B0 ≤ g → g < B1 → P W → P (W.setCell ⟨g, i, none⟩ x)) := by
    intro W g i x h0 h1 h
    rw [hP] at h ⊢
    obtain ⟨q1, q2, q3⟩ := h
    exact ⟨q1.setCell (p := ⟨g, i, none⟩) h0 x, by simpa using q2, fun v l hv => (q3 v l hv).set h1 x⟩
  have HPb : Hid (∀ W, P W → Below w0.heap.size w0 W) := by
    intro W h
    rw [hP] at h
    rw [hB0]
    exact h.1
  have HPs : Hid (∀ W, P W → B0 ≤ W.heap.size ∧ B1 ≤ W.heap.size ∧ w.heap.size ≤ W.heap.size) := by
    intro W h
    rw [hP] at h
    have := h.1.size
    rw [hB0] at this
    exact ⟨this, Nat.le_trans hB1 h.2.1, h.2.1⟩
  have HPd : Hid (∀ W m, P W → P (W.drewN m)) := by
    intro W m h
    rw [hP] at h ⊢
    exact ⟨below_drewN h.1 _, h.2.1, h.2.2⟩
  have HGX : Hid (gx < B1) := hgx
  have HB1 : Hid (B1 ≤ w.heap.size) := hB1
  have HAL : Hid (∀ q, (Value.slice al N cl).ownBlock = some q → q < w.heap.size) := by
    obtain ⟨cells, h1, _⟩ := HLS0.out
    exact fun q hq => (h1.lt q hq).2
  obtain ⟨B2, hB2⟩ : ∃ B2, w.heap.size = B2 := ⟨_, rfl⟩
  have HB2 : Hid (w.heap.size = B2) := hB2
  rw [hB2] at HAL HPs HPunder HB1 hB02
  clear hP hX hLS hV hVS hT hF hgs hb hN hM hB0 hB2 hgx hB1
  -- turn the lent row
  obtain ⟨W1, HX1, HLS1, HP1, hwalk⟩ : ∃ W1, Hid (Lent W1 B0 gx (turnL body)) ∧ Hid (LS W1 B0 (.slice al N cl) bss gs) ∧ Hid (P W1) ∧ ((M = 0 ∧ W1 = w) ∨ (0 < M ∧ ∃ y : Nat, w.cell? ⟨gx, M - 1, none⟩ = some (.int .u8 (y : Int)) ∧ w.frozen? ⟨gx, M - 1, none⟩ = false ∧ bits .xor .u8 (y : Int) 255 = ((y ^^^ 255 : Nat) : Int) ∧ w.setCell ⟨gx, M - 1, none⟩ (.int .u8 ((y ^^^ 255 : Nat) : Int)) = W1)) := by
    by_cases hM0 : M = 0
    · have h0 : body = [] := List.eq_nil_of_length_eq_zero (by rw [HM.out]; exact hM0)
      refine ⟨w, ?_, HLS0, HP0, .inl ⟨hM0, rfl⟩⟩
      rw [h0, turnL_nil, ← h0]
      exact HX0
    · have hp : 0 < body.length := by rw [HM.out]; omega
      have hyl : body.getD (M - 1) 0 < 256 := getD_lt (fun x hx => HX0.out.2 x (by simp [hx])) _
      obtain ⟨hx1, hx2⟩ := xor255 _ hyl
      have ht := HX0.out.turned hp (y := body.getD (M - 1) 0) (by rw [HM.out]) hx2
      rw [HM.out] at ht
      refine ⟨_, ht, HLS0.out.off HX0.out (HX0.out.grownBy _) (fun i hi => (HGS.out i (by rw [← HN.out]; exact hi)).2), HPset.out _ _ _ _ hge HGX.out HP0.out, .inr ⟨by omega, body.getD (M - 1) 0, ?_, HX0.out.row.frozenAt _, hx1, rfl⟩⟩
      rw [HX0.out.cell (M - 1) (by rw [HM.out]; omega)]
      simp [List.getD_eq_getElem?_getD, List.getElem?_append_left (show M - 1 < body.length by rw [HM.out]; omega)]
  clear HX0 HLS0 HP0
  go_enter Tryd.func25, Tryd.ntmps25
  rcases hwalk with ⟨hM0, hW1⟩ | ⟨hM0, y0, hcy0, hfz0, hx0, hW1⟩
  · subst hW1
    have hMd : decide ((0 : Int) < (M : Int)) = false := by simp; omega
    have hMd2 : decide (0 < M) = false := by simp; omega
    have HM0 : Hid (M = 0) := hM0
    clear hM0
    go_wp2
    go_loopw [13, 14] (fun o i wr => ∃ (k : Nat) (a : Option Addr) (p : Nat) (cells : List Value), k ≤ N ∧ i = .int .i64 k ∧ o = .slice a k p ∧ wr.ownsRow B2 22 1 (.slice a k p) k cells ∧ Hid (∀ i, i < ((bss.take k).map turnL).length → Own wr B2 (cells.getD i undef) (((bss.take k).map turnL).getD i [])) ∧ Hid (LS wr B0 (.slice al N cl) (turnTo k bss) gs) ∧ Hid (Lent wr B0 gx (turnL body)) ∧ Hid (P wr)) (fun _ i _ => N - (intOf i).toNat)
    case atStart => exact ⟨0, none, 0, [], Nat.zero_le _, rfl, rfl, World.ownsRow_nil _ _ _ _, fun i hi => by simp at hi, by rw [turnTo_zero]; exact HLS1, HX1, HP1⟩
    case round =>
      clear HLS1 HX1 HP1
      obtain ⟨k, oa, op, cells, hk, rfl, rfl, hown, HI, HLS, HX, HPr⟩ := hrel
      by_cases hkN : k < N
      · have hkl : k < bss.length := by rw [HN.out]; exact hkN
        obtain ⟨al', cl', hvl, hfl⟩ := HLS.out.form
        rw [turnTo_length _ _ (by omega), HN.out] at hvl hfl
        simp only [Value.slice.injEq] at hvl
        obtain ⟨rfl, -, rfl⟩ := hvl
        obtain ⟨bl, rfl, hcl⟩ := hfl (by omega)
        obtain ⟨hxl, hLk⟩ := hcl k hkN
        rw [turnTo_get k bss hkl] at hxl hLk
        obtain ⟨a3', c3', hv3, hf3⟩ := HVS.out
        rw [HN.out] at hv3 hf3
        simp only [Value.slice.injEq] at hv3
        obtain ⟨rfl, -, rfl⟩ := hv3
        obtain ⟨b3, o3, rfl, hc3⟩ := hf3 (by omega)
        obtain ⟨x, hx, hv⟩ := hc3 k hkN
        have hbw := HPb.out _ HPr.out
        have hxr : wr.cell? ⟨b3, o3 + k, none⟩ = some x := (hbw.cell (p := ⟨b3, o3 + k, none⟩) (cell_lt hx)).trans hx
        have hlen := HF.out.len hkl
        have HSn : Hid ((bss.take (k + 1)).map turnL = (bss.take k).map turnL ++ [turnL (bss.getD k [])]) := turns_snoc hkl
        have HTg : Hid ((turnTo k bss).getD k [] = bss.getD k []) := turnTo_get k bss hkl
        have HTs : Hid ((turnTo k bss).set k (turnL (bss.getD k [])) = turnTo (k + 1) bss) := turnTo_set k bss hkl
        have HTz : Hid ((bss.getD k []).length = 0 → turnTo (k + 1) bss = turnTo k bss) := turnTo_skip k bss hkl
        have HTn : Hid (k < (turnTo k bss).length) := by show _ < _; rw [turnTo_length _ _ (by omega)]; exact hkl
        have HTn1 : Hid ((turnTo (k + 1) bss).length = N) := by show _ = _; rw [turnTo_length _ _ (by omega)]; exact HN.out
        have hb3 : b3 < B0 := by rw [← HB0.out]; exact cell_lt hx
        obtain ⟨d, hd⟩ : ∃ d, bss.getD k [] = d := ⟨_, rfl⟩
        rw [hd] at HSn HTg HTs HTz hxl hLk hv hlen
        obtain ⟨m, hm⟩ : ∃ m, d.length = m := ⟨_, rfl⟩
        have HMk : Hid (d.length = m) := hm
        obtain ⟨gk, hgk⟩ : ∃ q, gs k = q := ⟨_, rfl⟩
        have HGK : Hid (gs k = gk) := hgk
        rw [hgk] at hLk hxl
        rw [hm] at hxl hlen
        have hTl : ((bss.take k).map turnL).length = k := by simp; omega
        have c18 := fun W1 (h : Below w0.heap.size w0 W1) => turned_any (w := W1) (hv.next h) (show d.length ≤ 70368744177664 by rw [hm]; omega)
        obtain ⟨a1, q1, rfl, _, _⟩ := hv.form
        rw [hm] at c18 hxr
        unfold lentV at hxl
        have HTl : Hid (((bss.take k).map turnL).length = k) := hTl
        have HLk : Hid (Lent wr B0 gk d) := hLk
        clear hx hv hc3 hcl hm hgk hbw hkl hTl hLk hf3 hfl hd
        by_cases hm0 : m = 0
        · subst hm0
          have HLSn : Hid (LS wr B0 (.slice (some ⟨bl, 0, none⟩) N cl) (turnTo (k + 1) bss) gs) := by
            rw [HTz.out HMk.out]
            exact HLS
          have HXn : Hid (Lent wr B0 gx (turnL body)) := HX
          have HPn : Hid (P wr) := HPr
          obtain ⟨cells', hcc⟩ : ∃ c, cells = c := ⟨_, rfl⟩
          clear HLS HX HPr HLk hcc
          go_wp2_with (go_at_call 18; fail)
          refine (c18 wr (HPb.out _ HPn.out)).mono ?_
          rintro e W2 ⟨vt, rfl, hO, hb2⟩
          obtain ⟨at1, pt1, rfl⟩ := hO.shape
          rw [turnL_length, HMk.out] at hO ⊢
          obtain ⟨ho3, hB3, HP3⟩ := push_all HTl.out hown HI.out (HPs.out _ HPn.out).2.2 hb2 hO
          have HP3 : Hid (∀ w4 v2, _ → _ → _) := HP3
          clear hO hb2 c18 hown HI hxr hxl
          go_wp2_with (first | (at_builtin; refine wpList_append_own _ rfl _ _ 31 rfl B2 22 i1 (.slice none 0 0) 1 24 Tryd.underlying31 hj1 hy0 hy1 hy2 rfl (by decide) (.slice oa k op) k cells rfl (ho3.alloc _) ⟨W2.heap.size, 0, none⟩ 1 1 [.slice at1 0 pt1] rfl rfl ?_ ?_ ?_ ?_ ?_ ?_) | fail)
          · exact cell_one_new _ _ _
          · intro u hu; simp at hu; subst hu; rfl
          · unfold maxLen; omega
          · omega
          · simp; omega
          · intro v4 W4 hown4 hgrow4 _
            obtain ⟨⟨a5, p5, cells5, rfl, ho4, hI4⟩, hb4, hs4⟩ := HP3.out W4 v4 hown4 hgrow4
            have HLS4 : Hid (LS W4 B0 (.slice (some ⟨bl, 0, none⟩) N cl) (turnTo (k + 1) bss) gs) := HLSn.out.under hb4 HAL.out (fun i hi => by have := (HGS.out i (by rw [← HTn1.out]; exact hi)).1; have := HB1.out; omega)
            have HX4 : Hid (Lent W4 B0 gx (turnL body)) := HXn.out.under hb4 (Nat.lt_of_lt_of_le HGX.out HB1.out)
            have HP4 : Hid (P W4) := HPunder.out _ _ HPn.out hb4
            have HI4 : Hid (∀ i, i < ((bss.take (k + 1)).map turnL).length → Own W4 B2 (cells5.getD i undef) (((bss.take (k + 1)).map turnL).getD i [])) := by rw [HSn.out]; exact hI4
            clear hown4 hgrow4 HP3 ho3 hI4 HLSn HXn HPn hb4
            go_wp2
            go_roundw
            case rel => exact ⟨k + 1, a5, p5, cells5, by omega, by go_num, rfl, ho4, HI4, HLS4, HX4, HP4⟩
            case measure => simp [intOf]; omega
        · have hmp : 0 < m := by omega
          obtain ⟨y, HY, hcy⟩ : ∃ y, Hid (y = d.getD (m - 1) 0) ∧ wr.cell? ⟨gk, m - 1, none⟩ = some (.int .u8 (y : Int)) := by
            refine ⟨_, rfl, ?_⟩
            rw [HLk.out.cell (m - 1) (by rw [HMk.out]; omega)]
            simp [List.getD_eq_getElem?_getD, List.getElem?_append_left (show m - 1 < d.length by rw [HMk.out]; omega)]
          have hfz : wr.frozen? ⟨gk, m - 1, none⟩ = false := HLk.out.row.frozenAt _
          have hyl : y < 256 := by
            rw [HY.out]
            exact getD_lt (fun x hx => HLk.out.2 x (by simp [hx])) _
          obtain ⟨hx1, hx2⟩ := xor255 y hyl
          obtain ⟨V1, hV1⟩ : ∃ V1, wr.setCell ⟨gk, m - 1, none⟩ (.int .u8 ((y ^^^ 255 : Nat) : Int)) = V1 := ⟨_, rfl⟩
          have hgk := HGS.out k hkN
          rw [HGK.out] at hgk
          have HLSn : Hid (LS V1 B0 (.slice (some ⟨bl, 0, none⟩) N cl) (turnTo (k + 1) bss) gs) := by
            rw [← hV1]
            have h1 := HLS.out.turned HTn.out (by rw [HTg.out, HMk.out]; exact hmp) (y := y) (by rw [HTg.out, HMk.out]; exact HY.out) hx2
            rw [HTg.out, HTs.out, HMk.out, HGK.out] at h1
            exact h1
          have HXn : Hid (Lent V1 B0 gx (turnL body)) := by rw [← hV1]; exact HX.out.off (HLk.out.grownBy _) (Ne.symm hgk.2)
          have HPn : Hid (P V1) := by rw [← hV1]; exact HPset.out _ _ _ _ HLk.out.lt.1 hgk.1 HPr.out
          have hgw : gk < B2 := Nat.lt_of_lt_of_le hgk.1 HB1.out
          have hownV : V1.ownsRow B2 22 1 (.slice oa k op) k cells := by rw [← hV1]; exact ownsRow_setCell_below hown (a := ⟨gk, m - 1, none⟩) hgw _
          have HIV : Hid (∀ i, i < ((bss.take k).map turnL).length → Own V1 B2 (cells.getD i undef) (((bss.take k).map turnL).getD i [])) := by
            rw [← hV1]
            exact fun i hi => (HI.out i hi).set hgw _
          have hxrV : V1.cell? ⟨b3, o3 + k, none⟩ = some (.slice a1 m q1) := by
            rw [← hV1]
            exact (cell_set_off (by have := HLk.out.lt.1; omega)).trans hxr
          have hmI : (0 : Int) < (m : Int) := by omega
          clear HLS HX HPr HI hown hyl hx2
          go_wp2
          go_region
          have HLSd : Hid (LS V1.drew B0 (.slice (some ⟨bl, 0, none⟩) N cl) (turnTo (k + 1) bss) gs) := HLSn.out
          have HXd : Hid (Lent V1.drew B0 gx (turnL body)) := HXn.out
          have HPd1 : Hid (P V1.drew) := HPd.out V1 1 HPn.out
          have hownd : V1.drew.ownsRow B2 22 1 (.slice oa k op) k cells := hownV
          have HId : Hid (∀ i, i < ((bss.take k).map turnL).length → Own V1.drew B2 (cells.getD i undef) (((bss.take k).map turnL).getD i [])) := HIV.out
          have hxrd : V1.drew.cell? ⟨b3, o3 + k, none⟩ = some (.slice a1 m q1) := hxrV
          clear HLSn HXn HPn hownV HIV hxrV hV1 hxr hcy hfz hx1
          generalize V1.drew = V2 at HLSd HXd HPd1 hownd HId hxrd ⊢
          obtain ⟨HLSn, HXn, HPn, hown, HI, hxr⟩ := And.intro HLSd (And.intro HXd (And.intro HPd1 (And.intro hownd (And.intro HId hxrd))))
          clear HLSd HXd HPd1 hownd HId hxrd
          go_wp2_with (go_at_call 18; fail)
          refine (c18 V2 (HPb.out _ HPn.out)).mono ?_
          rintro e W2 ⟨vt, rfl, hO, hb2⟩
          obtain ⟨at1, pt1, rfl⟩ := hO.shape
          rw [turnL_length, HMk.out] at hO ⊢
          obtain ⟨ho3, hB3, HP3⟩ := push_all HTl.out hown HI.out (HPs.out _ HPn.out).2.2 hb2 hO
          have HP3 : Hid (∀ w4 v2, _ → _ → _) := HP3
          clear hO hb2 c18 hown HI hxr hxl
          go_wp2_with (first | (at_builtin; refine wpList_append_own _ rfl _ _ 31 rfl B2 22 i1 (.slice none 0 0) 1 24 Tryd.underlying31 hj1 hy0 hy1 hy2 rfl (by decide) (.slice oa k op) k cells rfl (ho3.alloc _) ⟨W2.heap.size, 0, none⟩ 1 1 [.slice at1 m pt1] rfl rfl ?_ ?_ ?_ ?_ ?_ ?_) | fail)
          · exact cell_one_new _ _ _
          · intro u hu; simp at hu; subst hu; rfl
          · unfold maxLen; omega
          · omega
          · simp; omega
          · intro v4 W4 hown4 hgrow4 _
            obtain ⟨⟨a5, p5, cells5, rfl, ho4, hI4⟩, hb4, hs4⟩ := HP3.out W4 v4 hown4 hgrow4
            have HLS4 : Hid (LS W4 B0 (.slice (some ⟨bl, 0, none⟩) N cl) (turnTo (k + 1) bss) gs) := HLSn.out.under hb4 HAL.out (fun i hi => by have := (HGS.out i (by rw [← HTn1.out]; exact hi)).1; have := HB1.out; omega)
            have HX4 : Hid (Lent W4 B0 gx (turnL body)) := HXn.out.under hb4 (Nat.lt_of_lt_of_le HGX.out HB1.out)
            have HP4 : Hid (P W4) := HPunder.out _ _ HPn.out hb4
            have HI4 : Hid (∀ i, i < ((bss.take (k + 1)).map turnL).length → Own W4 B2 (cells5.getD i undef) (((bss.take (k + 1)).map turnL).getD i [])) := by rw [HSn.out]; exact hI4
            clear hown4 hgrow4 HP3 ho3 hI4 HLSn HXn HPn hb4
            go_wp2
            go_roundw
            case rel => exact ⟨k + 1, a5, p5, cells5, by omega, by go_num, rfl, ho4, HI4, HLS4, HX4, HP4⟩
            case measure => simp [intOf]; omega
      · obtain rfl : k = N := by omega
        have etk : bss.take k = bss := by rw [← HN.out]; exact List.take_length
        have HVV : Hid (VV wr B2 (.slice oa k op) (bss.map turnL)) := by
          have := HI.out
          rw [etk] at this
          exact ⟨cells, by rw [List.length_map, HN.out]; exact hown, this⟩
        have HLSe : Hid (LS wr B0 (.slice al k cl) (bss.map turnL) gs) := by
          have := HLS.out
          rw [show turnTo k bss = bss.map turnL by rw [← HN.out]; exact turnTo_all bss] at this
          exact this
        have HFt : Hid (Few (bss.map turnL)) := HF.out.turned
        have c18 := turned_any (HV.out.next (HPb.out _ HPr.out)) (by rw [HM.out]; omega)
        have hTM : (turnL body).length = M := by rw [turnL_length, HM.out]
        obtain ⟨tb, htb⟩ : ∃ tb, turnL body = tb := ⟨_, rfl⟩
        obtain ⟨tl, htl⟩ : ∃ tl, bss.map turnL = tl := ⟨_, rfl⟩
        rw [htb] at c18 hTM HX
        rw [htl] at HVV HLSe HFt
        have HTM : Hid (tb.length = M) := hTM
        have HTL : Hid (tl.length = k) := by show _ = _; rw [← htl, List.length_map, HN.out]
        clear hown HI HLS etk htb htl hTM HGS
        go_wp2_with (go_at_call 18; fail)
        refine c18.mono ?_
        rintro e W2 ⟨vy, rfl, hOy, hb2⟩
        obtain ⟨ay, py, rfl⟩ := hOy.shape
        rw [HTM.out] at hOy ⊢
        have HOy : Hid (Own W2 wr.heap.size (.slice ay M py) tb) := hOy
        have HX2 : Hid (Lent W2 B0 gx tb) := HX.out.next hb2
        have HL2 : Hid (LS W2 B0 (.slice al k cl) tl gs) := HLSe.out.next hb2
        have HV2 : Hid (VV W2 B2 (.slice oa k op) tl) := HVV.out.next hb2
        have HP2 : Hid (P W2) := HPunder.out _ _ HPr.out (hb2.mono (HPs.out _ HPr.out).2.2)
        have HT2 : Hid (Tab W2) := HT.out.next (HPb.out _ HP2.out)
        have c6 : Calls Tryd.prog 6 #[.slice (some ⟨gx, 0, none⟩) M (M + 3)] W2 fun e w' => e = .returned (.int .u32 (crc tb : Nat)) ∧ W2 = w' := by
          have hv := HX2.out.v (cap := M + 3) (by rw [HTM.out]; omega)
          rw [HTM.out] at hv
          exact sum_any hv HT2.out (by rw [HTM.out]; omega)
        have c9 := framep_any (w := W2) (b := gx) (off := 0) (m := M) (c := M + 3) (lent_at HX2.out) HTM.out HX2.out.lt.2 HT2.out n hn hbl (by omega)
        have hcr : crc tb < 4294967296 := crc_lt _ hOy.2
        obtain ⟨C, hC⟩ : ∃ C, crc tb = C := ⟨_, rfl⟩
        have HC : Hid (crc tb = C) := hC
        rw [hC] at c6 hcr
        have HFOl : Hid ((frameO n tb).length ≤ 400017) := by
          show _ ≤ _
          unfold frameO
          split
          · rw [frameL_length, HTM.out]; omega
          · simp
        have HFEc : Hid (∀ a c, frameE tb = some (a, c) → (c != 0) = true) := frameE_code
        have HHEc : Hid (∀ a c, headE gen tl = some (a, c) → (c != 0) = true) := headE_code
        obtain ⟨Fo, hFo⟩ : ∃ Fo, frameO n tb = Fo := ⟨_, rfl⟩
        have HFo : Hid (frameO n tb = Fo) := hFo
        obtain ⟨Fe, hFe⟩ : ∃ Fe, frameE tb = Fe := ⟨_, rfl⟩
        have HFe : Hid (frameE tb = Fe) := hFe
        obtain ⟨Ho, hHo⟩ : ∃ Ho, headO gen tl = Ho := ⟨_, rfl⟩
        have HHo : Hid (headO gen tl = Ho) := hHo
        obtain ⟨He, hHe⟩ : ∃ He, headE gen tl = He := ⟨_, rfl⟩
        have HHe : Hid (headE gen tl = He) := hHe
        rw [hFo] at c9 HFOl
        rw [hFe] at c9 HFEc
        rw [hHe] at HHEc
        have HHOl : Hid (Ho.length ≤ 411924) := by
          show _ ≤ _
          rw [← hHo]
          unfold headO
          split
          · unfold headL
            simp only [List.length_append, hd0_length, dig_length, framesL_length]
            have := HFt.out.2
            omega
          · simp
        clear c18 hb2 hOy HX HLSe HVV HPr hC hFo hFe hHo hHe
        go_wp2_with (first | (go_at_call 6; refine c6.mono ?_; rintro e w' ⟨rfl, rfl⟩) | (go_at_call 9; fail))
        refine c9.mono ?_
        rintro e W3 ⟨v1, ve1, rfl, hO1, hE1, hb3⟩
        obtain ⟨a1, p1, rfl⟩ := hO1.shape
        have c21 := rFrame_any (HOy.out.v.next hb3) n hn (by rw [HTM.out]; exact hbl)
        rw [HFo.out, HFe.out] at c21
        have HO3 : Hid (Own W3 W2.heap.size (.slice a1 Fo.length p1) Fo) := hO1
        have HE3 : Hid (PE W3 ve1 Fe) := hE1
        have HB3 : Hid (Below W2.heap.size W2 W3) := hb3
        clear c6 c9 hO1 hE1 hb3
        go_wp2_with (go_at_call 21; fail)
        refine c21.mono ?_
        rintro e W4 ⟨v2, vf1, rfl, hO2, hR1, hb4⟩
        obtain ⟨a2, p2, rfl⟩ := hO2.shape
        obtain ⟨fa, fn, fc, fcd, rfl⟩ := hR1.shape
        clear c21
        go_wp2_with (go_at_call 7; fail)
        obtain ⟨p21, hp21⟩ : ∃ p, W4.heap.size = p := ⟨_, rfl⟩
        obtain ⟨W5, hW5⟩ : ∃ W5, W4.alloc (.cells #[.slice fa fn fc, .int .i64 fcd] 41) = W5 := ⟨_, rfl⟩
        rw [hW5]
        rw [hp21]
        have hb5 : Below W4.heap.size W4 W5 := hW5 ▸ (Below.refl _ _).alloc (Nat.le_refl _) _
        have d0 : W5.cell? ⟨p21, 0, none⟩ = some (.slice fa fn fc) := by rw [← hW5, ← hp21]; simp
        have d1 : W5.cell? ⟨p21, 1, none⟩ = some (.int .i64 fcd) := by rw [← hW5, ← hp21]; simp
        have hb25 : Below W2.heap.size W2 W5 := (HB3.out.trans (hb4.mono HB3.out.size)).trans (hb5.mono (Nat.le_trans HB3.out.size hb4.size))
        have c7 := head_any (HL2.out.next hb25) (HT2.out.next hb25) gen hg HFt.out
        rw [HHo.out, HHe.out] at c7
        have HO5 : Hid (Own W5 W2.heap.size (.slice a1 Fo.length p1) Fo) := (HO3.out.next hb4).next hb5
        have HE5 : Hid (PE W5 ve1 Fe) := (HE3.out.next hb4).next hb5
        have HQ5 : Hid (Own W5 (W3.heap.size + 1) (.slice a2 Fo.length p2) Fo) := hO2.next hb5
        have HR5 : Hid (RE W5 (.agg #[.slice fa fn fc, .int .i64 fcd]) Fe) := hR1.next hb5
        have HV5 : Hid (VV W5 B2 (.slice oa k op) tl) := HV2.out.next hb25
        have HD0 : Hid (W5.cell? ⟨p21, 0, none⟩ = some (.slice fa fn fc)) := d0
        have HD1 : Hid (W5.cell? ⟨p21, 1, none⟩ = some (.int .i64 fcd)) := d1
        have HB25 : Hid (Below W2.heap.size W2 W5) := hb25
        clear hW5 hp21 hb5 d0 d1 hb25 hb4 hO2 hR1 HO3 HE3 HB3
        refine c7.mono ?_
        rintro e W6 ⟨v3, ve2, rfl, hO3, hE2, hb6⟩
        obtain ⟨a4, p4, rfl⟩ := hO3.shape
        have c22 := rhead_any (HV5.out.next hb6).vs gen hg HFt.out
        rw [HHo.out, HHe.out] at c22
        have HO6 : Hid (Own W6 W5.heap.size (.slice a4 Ho.length p4) Ho) := hO3
        have HE6 : Hid (PE W6 ve2 He) := hE2
        have HB6 : Hid (Below W5.heap.size W5 W6) := hb6
        clear c7 hO3 hE2 hb6
        go_wp2_with (go_at_call 22; fail)
        refine c22.mono ?_
        rintro e W7 ⟨v4, vf2, rfl, hO4, hR2, hb7⟩
        obtain ⟨a6, p6, rfl⟩ := hO4.shape
        obtain ⟨ga, gn, gc, gcd, rfl⟩ := hR2.shape
        obtain ⟨p25, hp25⟩ : ∃ p, W7.heap.size = p := ⟨_, rfl⟩
        obtain ⟨W8, hW8⟩ : ∃ W8, W7.alloc (.cells #[.slice ga gn gc, .int .i64 gcd] 41) = W8 := ⟨_, rfl⟩
        have hb8 : Below W7.heap.size W7 W8 := hW8 ▸ (Below.refl _ _).alloc (Nat.le_refl _) _
        have e0 : W8.cell? ⟨p25, 0, none⟩ = some (.slice ga gn gc) := by rw [← hW8, ← hp25]; simp
        have e1 : W8.cell? ⟨p25, 1, none⟩ = some (.int .i64 gcd) := by rw [← hW8, ← hp25]; simp
        have hb58 : Below W5.heap.size W5 W8 := (HB6.out.trans (hb7.mono HB6.out.size)).trans (hb8.mono (Nat.le_trans HB6.out.size hb7.size))
        have hb68 : Below W6.heap.size W6 W8 := hb7.trans (hb8.mono hb7.size)
        have d0 : W8.cell? ⟨p21, 0, none⟩ = some (.slice fa fn fc) := (hb58.cell (cell_lt HD0.out)).trans HD0.out
        have d1 : W8.cell? ⟨p21, 1, none⟩ = some (.int .i64 fcd) := (hb58.cell (cell_lt HD1.out)).trans HD1.out
        have hb28 : Below W2.heap.size W2 W8 := HB25.out.trans (hb58.mono HB25.out.size)
        have c23 : Calls Tryd.prog 23 #[.slice ay M py] W8 fun e w' => e = .returned (.int .u32 (C : Nat)) ∧ W8 = w' := by rw [← HC.out]; exact rsum_any (HOy.out.v.next hb28) (by rw [HTM.out]; omega)
        have c15 := is_eq (HE5.out.next hb58) (HR5.out.next hb58) HFEc.out
        have HO8 : Hid (Own W8 W2.heap.size (.slice a1 Fo.length p1) Fo) := HO5.out.next hb58
        have HQ8 : Hid (Own W8 (W3.heap.size + 1) (.slice a2 Fo.length p2) Fo) := HQ5.out.next hb58
        have HH8 : Hid (Own W8 W5.heap.size (.slice a4 Ho.length p4) Ho) := HO6.out.next hb68
        have HG8 : Hid (Own W8 (W6.heap.size + 1) (.slice a6 Ho.length p6) Ho) := hO4.next hb8
        have HE8 : Hid (PE W8 ve2 He) := HE6.out.next hb68
        have HR8 : Hid (RE W8 (.agg #[.slice ga gn gc, .int .i64 gcd]) He) := hR2.next hb8
        have HP8 : Hid (P W8) := HPunder.out _ _ HP2.out (hb28.mono (HPs.out _ HP2.out).2.2)
        have hlt25 := cell_lt e0
        clear c22 hO4 hR2 hb7 hb8 hb58 hb68 hb28 HO5 HE5 HQ5 HR5 HV5 HD0 HD1 HB25 HO6 HE6 HB6 HOy HX2 HL2 HV2 HP2 HT2
        go_wp2_with (first | (go_at_call 23; refine c23.mono ?_; rintro e w' ⟨rfl, rfl⟩) | (go_at_call 15; fail))
        refine c15.mono ?_
        rintro e W9 ⟨rfl, hb9⟩
        have e0' : W9.cell? ⟨p25, 0, none⟩ = some (.slice ga gn gc) := (hb9.cell (cell_lt e0)).trans e0
        have e1' : W9.cell? ⟨p25, 1, none⟩ = some (.int .i64 gcd) := (hb9.cell (cell_lt e1)).trans e1
        have c15b := is_eq (HE8.out.next hb9) (HR8.out.next hb9) HHEc.out
        have HO9 := HO8.out.next hb9
        have HQ9 := HQ8.out.next hb9
        have HH9 := HH8.out.next hb9
        have HG9 := HG8.out.next hb9
        have HP9 := HPunder.out _ _ HP8.out (hb9.mono (HPs.out _ HP8.out).2.2)
        clear c15 c23 d0 d1 e0 e1 hW8 hp25
        go_wp2_with (go_at_call 15; fail)
        refine c15b.mono ?_
        rintro e W10 ⟨rfl, hb10⟩
        have c11 := bytes_any (HO9.next hb10).v (HQ9.next hb10).v (by have := HFOl.out; omega)
        have c12 := fun j => bytes_any (w := W10.drewN j) (HH9.next hb10).v (HG9.next hb10).v (by have := HHOl.out; omega)
        rw [show decide (Fo = Fo) = true by simp] at c11
        rw [show decide (Ho = Ho) = true by simp] at c12
        have HP10 := HPunder.out _ _ HP9 (hb10.mono (HPs.out _ HP9).2.2)
        clear c15b e0' e1' HO9 HQ9 HH9 HG9 hb9 hb10
        go_wp2_with (go_at_call 11; fail)
        refine c11.mono ?_
        rintro e w' ⟨rfl, j1, rfl⟩
        go_wp2_with (go_at_call 11; fail)
        refine (c12 j1).mono ?_
        rintro e w' ⟨rfl, j2, rfl⟩
        go_wp2
        go_ret
        have hPf := HPd.out _ (j1 + j2) HP10
        rw [HPP.out] at hPf
        refine ⟨rfl, ?_, ?_⟩
        · exact hPf.1
        · exact hPf.2.2
  · go_wp2
    clear hcy0 hfz0 hx0 hW1
    go_loopw [13, 14] (fun o i wr => ∃ (k : Nat) (a : Option Addr) (p : Nat) (cells : List Value), k ≤ N ∧ i = .int .i64 k ∧ o = .slice a k p ∧ wr.ownsRow B2 22 1 (.slice a k p) k cells ∧ Hid (∀ i, i < ((bss.take k).map turnL).length → Own wr B2 (cells.getD i undef) (((bss.take k).map turnL).getD i [])) ∧ Hid (LS wr B0 (.slice al N cl) (turnTo k bss) gs) ∧ Hid (Lent wr B0 gx (turnL body)) ∧ Hid (P wr)) (fun _ i _ => N - (intOf i).toNat)
    case atStart => exact ⟨0, none, 0, [], Nat.zero_le _, rfl, rfl, World.ownsRow_nil _ _ _ _, fun i hi => by simp at hi, by rw [turnTo_zero]; exact HLS1, HX1, HP1⟩
    case round =>
      clear HLS1 HX1 HP1
      obtain ⟨k, oa, op, cells, hk, rfl, rfl, hown, HI, HLS, HX, HPr⟩ := hrel
      by_cases hkN : k < N
      · have hkl : k < bss.length := by rw [HN.out]; exact hkN
        obtain ⟨al', cl', hvl, hfl⟩ := HLS.out.form
        rw [turnTo_length _ _ (by omega), HN.out] at hvl hfl
        simp only [Value.slice.injEq] at hvl
        obtain ⟨rfl, -, rfl⟩ := hvl
        obtain ⟨bl, rfl, hcl⟩ := hfl (by omega)
        obtain ⟨hxl, hLk⟩ := hcl k hkN
        rw [turnTo_get k bss hkl] at hxl hLk
        obtain ⟨a3', c3', hv3, hf3⟩ := HVS.out
        rw [HN.out] at hv3 hf3
        simp only [Value.slice.injEq] at hv3
        obtain ⟨rfl, -, rfl⟩ := hv3
        obtain ⟨b3, o3, rfl, hc3⟩ := hf3 (by omega)
        obtain ⟨x, hx, hv⟩ := hc3 k hkN
        have hbw := HPb.out _ HPr.out
        have hxr : wr.cell? ⟨b3, o3 + k, none⟩ = some x := (hbw.cell (p := ⟨b3, o3 + k, none⟩) (cell_lt hx)).trans hx
        have hlen := HF.out.len hkl
        have HSn : Hid ((bss.take (k + 1)).map turnL = (bss.take k).map turnL ++ [turnL (bss.getD k [])]) := turns_snoc hkl
        have HTg : Hid ((turnTo k bss).getD k [] = bss.getD k []) := turnTo_get k bss hkl
        have HTs : Hid ((turnTo k bss).set k (turnL (bss.getD k [])) = turnTo (k + 1) bss) := turnTo_set k bss hkl
        have HTz : Hid ((bss.getD k []).length = 0 → turnTo (k + 1) bss = turnTo k bss) := turnTo_skip k bss hkl
        have HTn : Hid (k < (turnTo k bss).length) := by show _ < _; rw [turnTo_length _ _ (by omega)]; exact hkl
        have HTn1 : Hid ((turnTo (k + 1) bss).length = N) := by show _ = _; rw [turnTo_length _ _ (by omega)]; exact HN.out
        have hb3 : b3 < B0 := by rw [← HB0.out]; exact cell_lt hx
        obtain ⟨d, hd⟩ : ∃ d, bss.getD k [] = d := ⟨_, rfl⟩
        rw [hd] at HSn HTg HTs HTz hxl hLk hv hlen
        obtain ⟨m, hm⟩ : ∃ m, d.length = m := ⟨_, rfl⟩
        have HMk : Hid (d.length = m) := hm
        obtain ⟨gk, hgk⟩ : ∃ q, gs k = q := ⟨_, rfl⟩
        have HGK : Hid (gs k = gk) := hgk
        rw [hgk] at hLk hxl
        rw [hm] at hxl hlen
        have hTl : ((bss.take k).map turnL).length = k := by simp; omega
        have c18 := fun W1 (h : Below w0.heap.size w0 W1) => turned_any (w := W1) (hv.next h) (show d.length ≤ 70368744177664 by rw [hm]; omega)
        obtain ⟨a1, q1, rfl, _, _⟩ := hv.form
        rw [hm] at c18 hxr
        unfold lentV at hxl
        have HTl : Hid (((bss.take k).map turnL).length = k) := hTl
        have HLk : Hid (Lent wr B0 gk d) := hLk
        clear hx hv hc3 hcl hm hgk hbw hkl hTl hLk hf3 hfl hd
        by_cases hm0 : m = 0
        · subst hm0
          have HLSn : Hid (LS wr B0 (.slice (some ⟨bl, 0, none⟩) N cl) (turnTo (k + 1) bss) gs) := by
            rw [HTz.out HMk.out]
            exact HLS
          have HXn : Hid (Lent wr B0 gx (turnL body)) := HX
          have HPn : Hid (P wr) := HPr
          obtain ⟨cells', hcc⟩ : ∃ c, cells = c := ⟨_, rfl⟩
          clear HLS HX HPr HLk hcc
          go_wp2_with (go_at_call 18; fail)
          refine (c18 wr (HPb.out _ HPn.out)).mono ?_
          rintro e W2 ⟨vt, rfl, hO, hb2⟩
          obtain ⟨at1, pt1, rfl⟩ := hO.shape
          rw [turnL_length, HMk.out] at hO ⊢
          obtain ⟨ho3, hB3, HP3⟩ := push_all HTl.out hown HI.out (HPs.out _ HPn.out).2.2 hb2 hO
          have HP3 : Hid (∀ w4 v2, _ → _ → _) := HP3
          clear hO hb2 c18 hown HI hxr hxl
          go_wp2_with (first | (at_builtin; refine wpList_append_own _ rfl _ _ 31 rfl B2 22 i1 (.slice none 0 0) 1 24 Tryd.underlying31 hj1 hy0 hy1 hy2 rfl (by decide) (.slice oa k op) k cells rfl (ho3.alloc _) ⟨W2.heap.size, 0, none⟩ 1 1 [.slice at1 0 pt1] rfl rfl ?_ ?_ ?_ ?_ ?_ ?_) | fail)
          · exact cell_one_new _ _ _
          · intro u hu; simp at hu; subst hu; rfl
          · unfold maxLen; omega
          · omega
          · simp; omega
          · intro v4 W4 hown4 hgrow4 _
            obtain ⟨⟨a5, p5, cells5, rfl, ho4, hI4⟩, hb4, hs4⟩ := HP3.out W4 v4 hown4 hgrow4
            have HLS4 : Hid (LS W4 B0 (.slice (some ⟨bl, 0, none⟩) N cl) (turnTo (k + 1) bss) gs) := HLSn.out.under hb4 HAL.out (fun i hi => by have := (HGS.out i (by rw [← HTn1.out]; exact hi)).1; have := HB1.out; omega)
            have HX4 : Hid (Lent W4 B0 gx (turnL body)) := HXn.out.under hb4 (Nat.lt_of_lt_of_le HGX.out HB1.out)
            have HP4 : Hid (P W4) := HPunder.out _ _ HPn.out hb4
            have HI4 : Hid (∀ i, i < ((bss.take (k + 1)).map turnL).length → Own W4 B2 (cells5.getD i undef) (((bss.take (k + 1)).map turnL).getD i [])) := by rw [HSn.out]; exact hI4
            clear hown4 hgrow4 HP3 ho3 hI4 HLSn HXn HPn hb4
            go_wp2
            go_roundw
            case rel => exact ⟨k + 1, a5, p5, cells5, by omega, by go_num, rfl, ho4, HI4, HLS4, HX4, HP4⟩
            case measure => simp [intOf]; omega
        · have hmp : 0 < m := by omega
          obtain ⟨y, HY, hcy⟩ : ∃ y, Hid (y = d.getD (m - 1) 0) ∧ wr.cell? ⟨gk, m - 1, none⟩ = some (.int .u8 (y : Int)) := by
            refine ⟨_, rfl, ?_⟩
            rw [HLk.out.cell (m - 1) (by rw [HMk.out]; omega)]
            simp [List.getD_eq_getElem?_getD, List.getElem?_append_left (show m - 1 < d.length by rw [HMk.out]; omega)]
          have hfz : wr.frozen? ⟨gk, m - 1, none⟩ = false := HLk.out.row.frozenAt _
          have hyl : y < 256 := by
            rw [HY.out]
            exact getD_lt (fun x hx => HLk.out.2 x (by simp [hx])) _
          obtain ⟨hx1, hx2⟩ := xor255 y hyl
          obtain ⟨V1, hV1⟩ : ∃ V1, wr.setCell ⟨gk, m - 1, none⟩ (.int .u8 ((y ^^^ 255 : Nat) : Int)) = V1 := ⟨_, rfl⟩
          have hgk := HGS.out k hkN
          rw [HGK.out] at hgk
          have HLSn : Hid (LS V1 B0 (.slice (some ⟨bl, 0, none⟩) N cl) (turnTo (k + 1) bss) gs) := by
            rw [← hV1]
            have h1 := HLS.out.turned HTn.out (by rw [HTg.out, HMk.out]; exact hmp) (y := y) (by rw [HTg.out, HMk.out]; exact HY.out) hx2
            rw [HTg.out, HTs.out, HMk.out, HGK.out] at h1
            exact h1
          have HXn : Hid (Lent V1 B0 gx (turnL body)) := by rw [← hV1]; exact HX.out.off (HLk.out.grownBy _) (Ne.symm hgk.2)
          have HPn : Hid (P V1) := by rw [← hV1]; exact HPset.out _ _ _ _ HLk.out.lt.1 hgk.1 HPr.out
          have hgw : gk < B2 := Nat.lt_of_lt_of_le hgk.1 HB1.out
          have hownV : V1.ownsRow B2 22 1 (.slice oa k op) k cells := by rw [← hV1]; exact ownsRow_setCell_below hown (a := ⟨gk, m - 1, none⟩) hgw _
          have HIV : Hid (∀ i, i < ((bss.take k).map turnL).length → Own V1 B2 (cells.getD i undef) (((bss.take k).map turnL).getD i [])) := by
            rw [← hV1]
            exact fun i hi => (HI.out i hi).set hgw _
          have hxrV : V1.cell? ⟨b3, o3 + k, none⟩ = some (.slice a1 m q1) := by
            rw [← hV1]
            exact (cell_set_off (by have := HLk.out.lt.1; omega)).trans hxr
          have hmI : (0 : Int) < (m : Int) := by omega
          clear HLS HX HPr HI hown hyl hx2
          go_wp2
          go_region
          have HLSd : Hid (LS V1.drew B0 (.slice (some ⟨bl, 0, none⟩) N cl) (turnTo (k + 1) bss) gs) := HLSn.out
          have HXd : Hid (Lent V1.drew B0 gx (turnL body)) := HXn.out
          have HPd1 : Hid (P V1.drew) := HPd.out V1 1 HPn.out
          have hownd : V1.drew.ownsRow B2 22 1 (.slice oa k op) k cells := hownV
          have HId : Hid (∀ i, i < ((bss.take k).map turnL).length → Own V1.drew B2 (cells.getD i undef) (((bss.take k).map turnL).getD i [])) := HIV.out
          have hxrd : V1.drew.cell? ⟨b3, o3 + k, none⟩ = some (.slice a1 m q1) := hxrV
          clear HLSn HXn HPn hownV HIV hxrV hV1 hxr hcy hfz hx1
          generalize V1.drew = V2 at HLSd HXd HPd1 hownd HId hxrd ⊢
          obtain ⟨HLSn, HXn, HPn, hown, HI, hxr⟩ := And.intro HLSd (And.intro HXd (And.intro HPd1 (And.intro hownd (And.intro HId hxrd))))
          clear HLSd HXd HPd1 hownd HId hxrd
          go_wp2_with (go_at_call 18; fail)
          refine (c18 V2 (HPb.out _ HPn.out)).mono ?_
          rintro e W2 ⟨vt, rfl, hO, hb2⟩
          obtain ⟨at1, pt1, rfl⟩ := hO.shape
          rw [turnL_length, HMk.out] at hO ⊢
          obtain ⟨ho3, hB3, HP3⟩ := push_all HTl.out hown HI.out (HPs.out _ HPn.out).2.2 hb2 hO
          have HP3 : Hid (∀ w4 v2, _ → _ → _) := HP3
          clear hO hb2 c18 hown HI hxr hxl
          go_wp2_with (first | (at_builtin; refine wpList_append_own _ rfl _ _ 31 rfl B2 22 i1 (.slice none 0 0) 1 24 Tryd.underlying31 hj1 hy0 hy1 hy2 rfl (by decide) (.slice oa k op) k cells rfl (ho3.alloc _) ⟨W2.heap.size, 0, none⟩ 1 1 [.slice at1 m pt1] rfl rfl ?_ ?_ ?_ ?_ ?_ ?_) | fail)
          · exact cell_one_new _ _ _
          · intro u hu; simp at hu; subst hu; rfl
          · unfold maxLen; omega
          · omega
          · simp; omega
          · intro v4 W4 hown4 hgrow4 _
            obtain ⟨⟨a5, p5, cells5, rfl, ho4, hI4⟩, hb4, hs4⟩ := HP3.out W4 v4 hown4 hgrow4
            have HLS4 : Hid (LS W4 B0 (.slice (some ⟨bl, 0, none⟩) N cl) (turnTo (k + 1) bss) gs) := HLSn.out.under hb4 HAL.out (fun i hi => by have := (HGS.out i (by rw [← HTn1.out]; exact hi)).1; have := HB1.out; omega)
            have HX4 : Hid (Lent W4 B0 gx (turnL body)) := HXn.out.under hb4 (Nat.lt_of_lt_of_le HGX.out HB1.out)
            have HP4 : Hid (P W4) := HPunder.out _ _ HPn.out hb4
            have HI4 : Hid (∀ i, i < ((bss.take (k + 1)).map turnL).length → Own W4 B2 (cells5.getD i undef) (((bss.take (k + 1)).map turnL).getD i [])) := by rw [HSn.out]; exact hI4
            clear hown4 hgrow4 HP3 ho3 hI4 HLSn HXn HPn hb4
            go_wp2
            go_roundw
            case rel => exact ⟨k + 1, a5, p5, cells5, by omega, by go_num, rfl, ho4, HI4, HLS4, HX4, HP4⟩
            case measure => simp [intOf]; omega
      · obtain rfl : k = N := by omega
        have etk : bss.take k = bss := by rw [← HN.out]; exact List.take_length
        have HVV : Hid (VV wr B2 (.slice oa k op) (bss.map turnL)) := by
          have := HI.out
          rw [etk] at this
          exact ⟨cells, by rw [List.length_map, HN.out]; exact hown, this⟩
        have HLSe : Hid (LS wr B0 (.slice al k cl) (bss.map turnL) gs) := by
          have := HLS.out
          rw [show turnTo k bss = bss.map turnL by rw [← HN.out]; exact turnTo_all bss] at this
          exact this
        have HFt : Hid (Few (bss.map turnL)) := HF.out.turned
        have c18 := turned_any (HV.out.next (HPb.out _ HPr.out)) (by rw [HM.out]; omega)
        have hTM : (turnL body).length = M := by rw [turnL_length, HM.out]
        obtain ⟨tb, htb⟩ : ∃ tb, turnL body = tb := ⟨_, rfl⟩
        obtain ⟨tl, htl⟩ : ∃ tl, bss.map turnL = tl := ⟨_, rfl⟩
        rw [htb] at c18 hTM HX
        rw [htl] at HVV HLSe HFt
        have HTM : Hid (tb.length = M) := hTM
        have HTL : Hid (tl.length = k) := by show _ = _; rw [← htl, List.length_map, HN.out]
        clear hown HI HLS etk htb htl hTM HGS
        go_wp2_with (go_at_call 18; fail)
        refine c18.mono ?_
        rintro e W2 ⟨vy, rfl, hOy, hb2⟩
        obtain ⟨ay, py, rfl⟩ := hOy.shape
        rw [HTM.out] at hOy ⊢
        have HOy : Hid (Own W2 wr.heap.size (.slice ay M py) tb) := hOy
        have HX2 : Hid (Lent W2 B0 gx tb) := HX.out.next hb2
        have HL2 : Hid (LS W2 B0 (.slice al k cl) tl gs) := HLSe.out.next hb2
        have HV2 : Hid (VV W2 B2 (.slice oa k op) tl) := HVV.out.next hb2
        have HP2 : Hid (P W2) := HPunder.out _ _ HPr.out (hb2.mono (HPs.out _ HPr.out).2.2)
        have HT2 : Hid (Tab W2) := HT.out.next (HPb.out _ HP2.out)
        have c6 : Calls Tryd.prog 6 #[.slice (some ⟨gx, 0, none⟩) M (M + 3)] W2 fun e w' => e = .returned (.int .u32 (crc tb : Nat)) ∧ W2 = w' := by
          have hv := HX2.out.v (cap := M + 3) (by rw [HTM.out]; omega)
          rw [HTM.out] at hv
          exact sum_any hv HT2.out (by rw [HTM.out]; omega)
        have c9 := framep_any (w := W2) (b := gx) (off := 0) (m := M) (c := M + 3) (lent_at HX2.out) HTM.out HX2.out.lt.2 HT2.out n hn hbl (by omega)
        have hcr : crc tb < 4294967296 := crc_lt _ hOy.2
        obtain ⟨C, hC⟩ : ∃ C, crc tb = C := ⟨_, rfl⟩
        have HC : Hid (crc tb = C) := hC
        rw [hC] at c6 hcr
        have HFOl : Hid ((frameO n tb).length ≤ 400017) := by
          show _ ≤ _
          unfold frameO
          split
          · rw [frameL_length, HTM.out]; omega
          · simp
        have HFEc : Hid (∀ a c, frameE tb = some (a, c) → (c != 0) = true) := frameE_code
        have HHEc : Hid (∀ a c, headE gen tl = some (a, c) → (c != 0) = true) := headE_code
        obtain ⟨Fo, hFo⟩ : ∃ Fo, frameO n tb = Fo := ⟨_, rfl⟩
        have HFo : Hid (frameO n tb = Fo) := hFo
        obtain ⟨Fe, hFe⟩ : ∃ Fe, frameE tb = Fe := ⟨_, rfl⟩
        have HFe : Hid (frameE tb = Fe) := hFe
        obtain ⟨Ho, hHo⟩ : ∃ Ho, headO gen tl = Ho := ⟨_, rfl⟩
        have HHo : Hid (headO gen tl = Ho) := hHo
        obtain ⟨He, hHe⟩ : ∃ He, headE gen tl = He := ⟨_, rfl⟩
        have HHe : Hid (headE gen tl = He) := hHe
        rw [hFo] at c9 HFOl
        rw [hFe] at c9 HFEc
        rw [hHe] at HHEc
        have HHOl : Hid (Ho.length ≤ 411924) := by
          show _ ≤ _
          rw [← hHo]
          unfold headO
          split
          · unfold headL
            simp only [List.length_append, hd0_length, dig_length, framesL_length]
            have := HFt.out.2
            omega
          · simp
        clear c18 hb2 hOy HX HLSe HVV HPr hC hFo hFe hHo hHe
        go_wp2_with (first | (go_at_call 6; refine c6.mono ?_; rintro e w' ⟨rfl, rfl⟩) | (go_at_call 9; fail))
        refine c9.mono ?_
        rintro e W3 ⟨v1, ve1, rfl, hO1, hE1, hb3⟩
        obtain ⟨a1, p1, rfl⟩ := hO1.shape
        have c21 := rFrame_any (HOy.out.v.next hb3) n hn (by rw [HTM.out]; exact hbl)
        rw [HFo.out, HFe.out] at c21
        have HO3 : Hid (Own W3 W2.heap.size (.slice a1 Fo.length p1) Fo) := hO1
        have HE3 : Hid (PE W3 ve1 Fe) := hE1
        have HB3 : Hid (Below W2.heap.size W2 W3) := hb3
        clear c6 c9 hO1 hE1 hb3
        go_wp2_with (go_at_call 21; fail)
        refine c21.mono ?_
        rintro e W4 ⟨v2, vf1, rfl, hO2, hR1, hb4⟩
        obtain ⟨a2, p2, rfl⟩ := hO2.shape
        obtain ⟨fa, fn, fc, fcd, rfl⟩ := hR1.shape
        clear c21
        go_wp2_with (go_at_call 7; fail)
        obtain ⟨p21, hp21⟩ : ∃ p, W4.heap.size = p := ⟨_, rfl⟩
        obtain ⟨W5, hW5⟩ : ∃ W5, W4.alloc (.cells #[.slice fa fn fc, .int .i64 fcd] 41) = W5 := ⟨_, rfl⟩
        rw [hW5]
        rw [hp21]
        have hb5 : Below W4.heap.size W4 W5 := hW5 ▸ (Below.refl _ _).alloc (Nat.le_refl _) _
        have d0 : W5.cell? ⟨p21, 0, none⟩ = some (.slice fa fn fc) := by rw [← hW5, ← hp21]; simp
        have d1 : W5.cell? ⟨p21, 1, none⟩ = some (.int .i64 fcd) := by rw [← hW5, ← hp21]; simp
        have hb25 : Below W2.heap.size W2 W5 := (HB3.out.trans (hb4.mono HB3.out.size)).trans (hb5.mono (Nat.le_trans HB3.out.size hb4.size))
        have c7 := head_any (HL2.out.next hb25) (HT2.out.next hb25) gen hg HFt.out
        rw [HHo.out, HHe.out] at c7
        have HO5 : Hid (Own W5 W2.heap.size (.slice a1 Fo.length p1) Fo) := (HO3.out.next hb4).next hb5
        have HE5 : Hid (PE W5 ve1 Fe) := (HE3.out.next hb4).next hb5
        have HQ5 : Hid (Own W5 (W3.heap.size + 1) (.slice a2 Fo.length p2) Fo) := hO2.next hb5
        have HR5 : Hid (RE W5 (.agg #[.slice fa fn fc, .int .i64 fcd]) Fe) := hR1.next hb5
        have HV5 : Hid (VV W5 B2 (.slice oa k op) tl) := HV2.out.next hb25
        have HD0 : Hid (W5.cell? ⟨p21, 0, none⟩ = some (.slice fa fn fc)) := d0
        have HD1 : Hid (W5.cell? ⟨p21, 1, none⟩ = some (.int .i64 fcd)) := d1
        have HB25 : Hid (Below W2.heap.size W2 W5) := hb25
        clear hW5 hp21 hb5 d0 d1 hb25 hb4 hO2 hR1 HO3 HE3 HB3
        refine c7.mono ?_
        rintro e W6 ⟨v3, ve2, rfl, hO3, hE2, hb6⟩
        obtain ⟨a4, p4, rfl⟩ := hO3.shape
        have c22 := rhead_any (HV5.out.next hb6).vs gen hg HFt.out
        rw [HHo.out, HHe.out] at c22
        have HO6 : Hid (Own W6 W5.heap.size (.slice a4 Ho.length p4) Ho) := hO3
        have HE6 : Hid (PE W6 ve2 He) := hE2
        have HB6 : Hid (Below W5.heap.size W5 W6) := hb6
        clear c7 hO3 hE2 hb6
        go_wp2_with (go_at_call 22; fail)
        refine c22.mono ?_
        rintro e W7 ⟨v4, vf2, rfl, hO4, hR2, hb7⟩
        obtain ⟨a6, p6, rfl⟩ := hO4.shape
        obtain ⟨ga, gn, gc, gcd, rfl⟩ := hR2.shape
        obtain ⟨p25, hp25⟩ : ∃ p, W7.heap.size = p := ⟨_, rfl⟩
        obtain ⟨W8, hW8⟩ : ∃ W8, W7.alloc (.cells #[.slice ga gn gc, .int .i64 gcd] 41) = W8 := ⟨_, rfl⟩
        have hb8 : Below W7.heap.size W7 W8 := hW8 ▸ (Below.refl _ _).alloc (Nat.le_refl _) _
        have e0 : W8.cell? ⟨p25, 0, none⟩ = some (.slice ga gn gc) := by rw [← hW8, ← hp25]; simp
        have e1 : W8.cell? ⟨p25, 1, none⟩ = some (.int .i64 gcd) := by rw [← hW8, ← hp25]; simp
        have hb58 : Below W5.heap.size W5 W8 := (HB6.out.trans (hb7.mono HB6.out.size)).trans (hb8.mono (Nat.le_trans HB6.out.size hb7.size))
        have hb68 : Below W6.heap.size W6 W8 := hb7.trans (hb8.mono hb7.size)
        have d0 : W8.cell? ⟨p21, 0, none⟩ = some (.slice fa fn fc) := (hb58.cell (cell_lt HD0.out)).trans HD0.out
        have d1 : W8.cell? ⟨p21, 1, none⟩ = some (.int .i64 fcd) := (hb58.cell (cell_lt HD1.out)).trans HD1.out
        have hb28 : Below W2.heap.size W2 W8 := HB25.out.trans (hb58.mono HB25.out.size)
        have c23 : Calls Tryd.prog 23 #[.slice ay M py] W8 fun e w' => e = .returned (.int .u32 (C : Nat)) ∧ W8 = w' := by rw [← HC.out]; exact rsum_any (HOy.out.v.next hb28) (by rw [HTM.out]; omega)
        have c15 := is_eq (HE5.out.next hb58) (HR5.out.next hb58) HFEc.out
        have HO8 : Hid (Own W8 W2.heap.size (.slice a1 Fo.length p1) Fo) := HO5.out.next hb58
        have HQ8 : Hid (Own W8 (W3.heap.size + 1) (.slice a2 Fo.length p2) Fo) := HQ5.out.next hb58
        have HH8 : Hid (Own W8 W5.heap.size (.slice a4 Ho.length p4) Ho) := HO6.out.next hb68
        have HG8 : Hid (Own W8 (W6.heap.size + 1) (.slice a6 Ho.length p6) Ho) := hO4.next hb8
        have HE8 : Hid (PE W8 ve2 He) := HE6.out.next hb68
        have HR8 : Hid (RE W8 (.agg #[.slice ga gn gc, .int .i64 gcd]) He) := hR2.next hb8
        have HP8 : Hid (P W8) := HPunder.out _ _ HP2.out (hb28.mono (HPs.out _ HP2.out).2.2)
        have hlt25 := cell_lt e0
        clear c22 hO4 hR2 hb7 hb8 hb58 hb68 hb28 HO5 HE5 HQ5 HR5 HV5 HD0 HD1 HB25 HO6 HE6 HB6 HOy HX2 HL2 HV2 HP2 HT2
        go_wp2_with (first | (go_at_call 23; refine c23.mono ?_; rintro e w' ⟨rfl, rfl⟩) | (go_at_call 15; fail))
        refine c15.mono ?_
        rintro e W9 ⟨rfl, hb9⟩
        have e0' : W9.cell? ⟨p25, 0, none⟩ = some (.slice ga gn gc) := (hb9.cell (cell_lt e0)).trans e0
        have e1' : W9.cell? ⟨p25, 1, none⟩ = some (.int .i64 gcd) := (hb9.cell (cell_lt e1)).trans e1
        have c15b := is_eq (HE8.out.next hb9) (HR8.out.next hb9) HHEc.out
        have HO9 := HO8.out.next hb9
        have HQ9 := HQ8.out.next hb9
        have HH9 := HH8.out.next hb9
        have HG9 := HG8.out.next hb9
        have HP9 := HPunder.out _ _ HP8.out (hb9.mono (HPs.out _ HP8.out).2.2)
        clear c15 c23 d0 d1 e0 e1 hW8 hp25
        go_wp2_with (go_at_call 15; fail)
        refine c15b.mono ?_
        rintro e W10 ⟨rfl, hb10⟩
        have c11 := bytes_any (HO9.next hb10).v (HQ9.next hb10).v (by have := HFOl.out; omega)
        have c12 := fun j => bytes_any (w := W10.drewN j) (HH9.next hb10).v (HG9.next hb10).v (by have := HHOl.out; omega)
        rw [show decide (Fo = Fo) = true by simp] at c11
        rw [show decide (Ho = Ho) = true by simp] at c12
        have HP10 := HPunder.out _ _ HP9 (hb10.mono (HPs.out _ HP9).2.2)
        clear c15b e0' e1' HO9 HQ9 HH9 HG9 hb9 hb10
        go_wp2_with (go_at_call 11; fail)
        refine c11.mono ?_
        rintro e w' ⟨rfl, j1, rfl⟩
        go_wp2_with (go_at_call 11; fail)
        refine (c12 j1).mono ?_
        rintro e w' ⟨rfl, j2, rfl⟩
        go_wp2
        go_ret
        have hPf := HPd.out _ (j1 + j2) HP10
        rw [HPP.out] at hPf
        refine ⟨rfl, ?_, ?_⟩
        · exact hPf.1
        · exact hPf.2.2

end Go.Proofs.YtngmleddlfkecaaDoor
