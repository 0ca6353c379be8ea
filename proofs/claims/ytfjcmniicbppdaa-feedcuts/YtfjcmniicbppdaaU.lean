import Derived.Test.YtfjcmniicbppdaaT
import Derived.Deep.Cut
import Derived.Deep.CutRange
import Derived.Deep.CutBlock
/-
  DERIVED. The law of cuts, walked.
-/
namespace Go.Proofs.Ytfjcmniicbppdaa
open Go Go.Proofs Go.RowKit Go.Deep

theorem V.news {w : World} {g n c : Nat} {bs : List Nat} (h : V w (.slice (some ⟨g, 0, none⟩) n c) bs) : ∀ j u, (u8s bs)[j]? = some u → w.cell? ((⟨g, 0, none⟩ : Addr).add j) = some u := by
  intro j u hu
  have hj : j < bs.length := by have := (List.getElem?_eq_some_iff.1 hu).1; rw [u8s_length] at this; exact this
  rcases h with ⟨a1, c1, e, rfl⟩ | ⟨b, off, c', e, _, _, hat⟩
  · simp at hj
  · cases e
    rw [add_at, hat.1 j hj, ← hu, u8s_get bs j hj]
theorem u8s_one (bs : List Nat) : ∀ u ∈ u8s bs, u.oneCell' = true := by
  intro u hu
  obtain ⟨b, _, rfl⟩ := List.mem_map.1 hu
  rfl

set_option maxRecDepth 100000 in
set_option maxHeartbeats 8000000 in
theorem cuts_any (w : World) (vt vb vc : Value) (T : List ByteArray) (bt : List Nat) (Z : List Int) (hT : TX w vt T) (hB : V w vb bt) (hZ : IX w vc Z) (hTl : T.length ≤ 9223372036854775807) (hBl : bt.length ≤ 9223372036854775807) (hZl : Z.length ≤ 9223372036854775807) :
    Calls Try.prog 4 #[vt, vb, vc] w fun e w' => e = .returned (.bool true) ∧ Below w.heap.size w w' := by
  obtain ⟨ta, tc, rfl, hT⟩ := hT
  obtain ⟨ba, bc, rfl, hBf, hBb⟩ := hB.form
  obtain ⟨za, zc, rfl, hZ⟩ := hZ
  have HT : Hid (∀ k, k < T.length → ∃ b off, ta = some ⟨b, off, none⟩ ∧ w.cell? ⟨b, off + k, none⟩ = some (.string (T.getD k ⟨#[]⟩)) ∧ (T.getD k ⟨#[]⟩).size ≤ 9223372036854775807) := hT
  have HBf : Hid ((0 < bt.length → ∃ b off, ba = some ⟨b, off, none⟩ ∧ At w b off bt) ∧ ∀ x ∈ bt, x < 256) := ⟨hBf, hBb⟩
  have HZ : Hid (∀ k, k < Z.length → ∃ b off, za = some ⟨b, off, none⟩ ∧ w.cell? ⟨b, off + k, none⟩ = some (.int .i64 (Z.getD k 0))) := hZ
  clear hT hB hBf hBb hZ
  obtain ⟨i0, hi, hz0, hz1, hz2⟩ := info_parts info5s
  obtain ⟨i9, hi9, hy0, hy1, hy2⟩ := info_parts info9s
  obtain ⟨i37, hi37, hx0, hx1, hx2⟩ := info_parts info37
  obtain ⟨N, hN⟩ : ∃ N, min T.length 8 = N := ⟨_, rfl⟩
  have hN8 : N ≤ 8 := by omega
  have hNT : N ≤ T.length := by omega
  have HA0 : Hid (A1 w w (.slice none 0 0) (.slice none 0 0) (alB (bwOf bt) ((T.take 0).filter cl)) ((T.take 0).filter cl)) := ⟨Below.refl _ _, World.ownsRow_nil _ _ _ _, World.ownsRow_nil _ _ _ _, by simp [alB]⟩
  go_enter Try.func4, Try.ntmps4
  go_upto_block 0 with fail
  go_cut [7, 8] from 9 (fun s7 s8 wx => Hid (A1 w wx s7 s8 (alB (bwOf bt) ((T.take N).filter cl)) ((T.take N).filter cl)))
  case first =>
    go_wp2
    go_loopg [7, 8, 9] N (fun g s7 s8 s9 wx => ∃ i : Nat, s9 = .int .i64 (i : Int) ∧ g + i = N ∧ Hid (A1 w wx s7 s8 (alB (bwOf bt) ((T.take i).filter cl)) ((T.take i).filter cl)))
    case atStart => exact ⟨0, rfl, rfl, HA0.out⟩
    case round =>
      obtain ⟨i, rfl, hgi, HA⟩ := hrel
      clear HA0
      by_cases hiN : i < N
      · obtain ⟨b, off, rfl, hc, hsz⟩ := HT.out i (by omega)
        have hfil := filter_take_succ T cl i (by omega)
        obtain ⟨t, ht⟩ : ∃ t, T.getD i ⟨#[]⟩ = t := ⟨_, rfl⟩
        rw [ht] at hc hsz hfil
        have HC : Hid (w.cell? ⟨b, off + i, none⟩ = some (.string t)) := hc
        have hcell := (HA.out.be.cell (p := ⟨b, off + i, none⟩) (World.block_lt_of_cell? w _ hc)).trans hc
        have hall : ∀ x ∈ (T.take i).filter cl, cl x = true := fun x hx => (List.mem_filter.1 hx).2
        have hwl : ((T.take i).filter cl).length ≤ i := Nat.le_trans (List.length_filter_le _ _) (by rw [List.length_take]; omega)
        have hal := alB_len (bwOf bt) (bw_len bt) _ hall
        generalize (T.take i).filter cl = wt at *
        have e8 : (i : Int) < 8 := by omega
        have eT : (i : Int) < (T.length : Int) := by omega
        have kc := clean_any wr t hsz
        cases hcl : cl t with
        | false =>
          rw [hcl] at kc hfil
          go_wp2_with (go_at_call 10; refine Stop.mk ?_)
          refine Stop.out (kc.mono ?_)
          rintro e w' ⟨rfl, rfl⟩
          go_wp2
          go_roundg (N - (i + 1))
          case measure => omega
          case rel => exact ⟨i + 1, by simp, by omega, by rw [hfil]; show A1 _ _ _ _ (alB _ (wt ++ [])) (wt ++ []); rw [List.append_nil]; exact HA.out⟩
        | true =>
          rw [hcl] at kc hfil
          obtain ⟨hcl1, hcl2⟩ := cl_iff hcl
          have HFT : Hid (∀ x ∈ fb t, x < 256) := fb_lt t
          clear hcl1
          go_wp2_with (first | (go_at_call 10; refine kc.mono ?_; rintro e w' ⟨rfl, rfl⟩) | (at_builtin; refine wpList_append_lies _ rfl _ _ 31 rfl w.heap.size 9 i9 _ 1 16 Try.underlying31 hi9 hy0 hy1 hy2 rfl (by decide) u8 wt.length (wt.map .string) rfl (World.ownsRow.alloc HA.out.ow _) ⟨wr.heap.size, 0, none⟩ 1 1 [.string t] rfl rfl (cell_one_new _ _ _) (by intro u hu; simp at hu; subst hu; rfl) (by decide) (by unfold maxLen; omega) (by omega) (by have := HA.out.be.size; simp; omega) (wr.heap.size + 1) (by simp) ?_; intro g cp W2 hown2 hgrow2 hat2 hlt2; refine Stop.mk ?_) | fail)
          refine Stop.out ?_
          have HA2 : Hid (A1 w W2 u7 (.slice (some ⟨g, 0, none⟩) (wt.length + 1) cp) (alB (bwOf bt) wt) (wt ++ [t])) := HA.out.pushW ((Below.refl _ _).alloc (Nat.le_refl _) _) hgrow2 (by rw [List.length_append, List.map_append]; exact hown2)
          clear hown2 hgrow2 hat2 hlt2 hcell kc HA
          have hcell := (HA2.out.be.cell (p := ⟨b, off + i, none⟩) (World.block_lt_of_cell? w _ HC.out)).trans HC.out
          have kf := frame_v W2 t (by omega)
          go_wp2_with (go_at_call 8; refine Stop.mk ?_)
          refine Stop.out (kf.mono ?_)
          rintro e W3 ⟨v1, rfl, hv1, ⟨g1, c1, rfl, _, _⟩, hb3⟩
          have HA3 : Hid (A1 w W3 u7 (.slice (some ⟨g, 0, none⟩) (wt.length + 1) cp) (alB (bwOf bt) wt) (wt ++ [t])) := HA2.out.on hb3
          have HV1 : Hid (V W3 (.slice (some ⟨g1, 0, none⟩) (t.size + 3) c1) (fb t)) := hv1
          clear hv1 hb3 kf HA2 hcell
          go_wp2_with (first | (at_builtin; refine wpList_append_lies _ rfl _ _ 22 rfl w.heap.size 5 i0 _ 1 1 Try.underlying22 hi hz0 hz1 hz2 rfl (by decide) u7 (alB (bwOf bt) wt).length (u8s (alB (bwOf bt) wt)) rfl HA3.out.oa ⟨g1, 0, none⟩ (t.size + 3) c1 (u8s (fb t)) rfl (by rw [u8s_length, fb_length]; omega) HV1.out.news (u8s_one _) (by omega) (by unfold maxLen; omega) (by omega) HA3.out.be.size W3.heap.size rfl ?_; intro g2 cp2 W4 hown2 hgrow2 hat2 hlt2; refine Stop.mk ?_) | fail)
          refine Stop.out ?_
          have HA4 : Hid (A1 w W4 (.slice (some ⟨g2, 0, none⟩) ((alB (bwOf bt) wt).length + (t.size + 3)) cp2) (.slice (some ⟨g, 0, none⟩) (wt.length + 1) cp) (alB (bwOf bt) wt ++ (fb t ++ (bt.take 0).filter (· != 11))) (wt ++ [t])) := HA3.out.pushA (Below.refl _ _) hgrow2 (by
            rw [List.take_zero, List.filter_nil, List.append_nil, List.length_append, fb_length, u8s_append]; exact hown2) (by
            rw [List.take_zero, List.filter_nil, List.append_nil]
            intro x hx
            rcases List.mem_append.1 hx with hx | hx
            · exact HA3.out.bt x hx
            · exact HFT.out x hx)
          clear hown2 hgrow2 hat2 hlt2 HV1 HA3
          obtain ⟨M, hM⟩ : ∃ M, min bt.length 100 = M := ⟨_, rfl⟩
          generalize (Value.slice (some ⟨g, 0, none⟩) (wt.length + 1) cp) = vw at *
          go_wp2
          go_loopg [7, 10] M (fun gg s7 s10 wx => ∃ k : Nat, s10 = .int .i64 (k : Int) ∧ gg + k = M ∧ Hid (A1 w wx s7 vw (alB (bwOf bt) wt ++ (fb t ++ (bt.take k).filter (· != 11))) (wt ++ [t])))
          case atStart => exact ⟨0, rfl, rfl, HA4.out⟩
          case round =>
            obtain ⟨k, rfl, hgk, HK⟩ := hrel
            clear HA4
            by_cases hkM : k < M
            · obtain ⟨b2, off2, rfl, hat⟩ := HBf.out.1 (by omega)
              have hck := hat.1 k (by omega)
              have hcb := (HK.out.be.cell (p := ⟨b2, off2 + k, none⟩) (World.block_lt_of_cell? w _ hck)).trans hck
              have hft := filterN_take_succ bt (· != 11) k (by omega)
              have hfl : ((bt.take k).filter (· != 11)).length ≤ k := Nat.le_trans (List.length_filter_le _ _) (by rw [List.length_take]; omega)
              have hx8 : bt.getD k 0 < 256 := by rw [List.getD_eq_getElem?_getD, List.getElem?_eq_getElem (by omega : k < bt.length)]; exact HBf.out.2 _ (List.getElem_mem _)
              obtain ⟨x, hx⟩ : ∃ x, bt.getD k 0 = x := ⟨_, rfl⟩
              rw [hx] at hcb hft hx8
              clear hat hck
              obtain ⟨ay, hay⟩ : ∃ ay, alB (bwOf bt) wt ++ (fb t ++ (bt.take k).filter (· != 11)) = ay := ⟨_, rfl⟩
              have hayl : ay.length ≤ 300000 := by rw [← hay, List.length_append, List.length_append, fb_length]; omega
              rw [hay] at HK
              have ek : (k : Int) < (bt.length : Int) := by omega
              have ek2 : (k : Int) < 100 := by omega
              by_cases h11 : x = 11
              · subst h11
                go_wp2
                go_roundg (M - (k + 1))
                case measure => omega
                case rel =>
                  refine ⟨k + 1, by simp, by omega, ?_⟩
                  rw [hft, show ((11 : Nat) != 11) = false from rfl]
                  show A1 w wr u7 vw (alB (bwOf bt) wt ++ (fb t ++ ((bt.take k).filter (· != 11) ++ []))) (wt ++ [t])
                  rw [List.append_nil, hay]
                  exact HK.out
              · have e11 : ((x : Int) != 11) = true := by simp; omega
                obtain ⟨a7, c7, rfl⟩ := own_slice HK.out.oa
                go_wp2_with (first | (at_builtin; refine wpList_append_lies _ rfl _ _ 22 rfl w.heap.size 5 i0 _ 1 1 Try.underlying22 hi hz0 hz1 hz2 rfl (by decide) (.slice a7 ay.length c7) ay.length (u8s ay) rfl (World.ownsRow.alloc HK.out.oa _) ⟨wr.heap.size, 0, none⟩ 1 1 [.int .u8 (x : Int)] rfl rfl (cell_one_new _ _ _) (by intro u hu; simp at hu; subst hu; rfl) (by decide) (by unfold maxLen; omega) (by omega) (by have := HK.out.be.size; simp; omega) (wr.heap.size + 1) (by simp) ?_; intro g3 cp3 W6 hown2 hgrow2 hat2 hlt2; refine Stop.mk ?_) | fail)
                refine Stop.out ?_
                have HK2 : Hid (A1 w W6 (.slice (some ⟨g3, 0, none⟩) (ay.length + 1) cp3) vw (ay ++ [x]) (wt ++ [t])) := HK.out.pushA ((Below.refl _ _).alloc (Nat.le_refl _) _) hgrow2 (by rw [List.length_append, u8s_append]; exact hown2) (by
                  intro y hy
                  rcases List.mem_append.1 hy with hy | hy
                  · exact HK.out.bt y hy
                  · simp at hy; omega)
                clear hown2 hgrow2 hat2 hlt2 hcb
                go_wp2
                go_roundg (M - (k + 1))
                case measure => omega
                case rel =>
                  refine ⟨k + 1, by simp, by omega, ?_⟩
                  rw [hft, show (x != 11) = true by simpa using h11]
                  show A1 w W6 _ vw (alB (bwOf bt) wt ++ (fb t ++ ((bt.take k).filter (· != 11) ++ [x]))) (wt ++ [t])
                  rw [← List.append_assoc (fb t), ← List.append_assoc, hay]
                  exact HK2.out
            · have hkm : k = M := by omega
              have hbw : (bt.take k).filter (· != 11) = bwOf bt := by
                unfold bwOf
                congr 1
                rw [hkm, ← hM]
                rcases Nat.le_total bt.length 100 with h | h
                · rw [Nat.min_eq_left h, List.take_of_length_le (Nat.le_refl _), List.take_of_length_le h]
                · rw [Nat.min_eq_right h]
              rw [hbw] at HK
              by_cases hb100 : k < bt.length
              · have e1 : (k : Int) < (bt.length : Int) := by omega
                have e2 : ¬ (k : Int) < 100 := by omega
                go_wp2
                go_roundg (N - (i + 1))
                case measure => omega
                case rel =>
                  refine ⟨i + 1, by simp, by omega, ?_⟩
                  rw [hfil]
                  show A1 w wr u7 vw (alB (bwOf bt) (wt ++ [t])) (wt ++ [t])
                  rw [alB_app]
                  exact HK.out
              · have e1 : ¬ (k : Int) < (bt.length : Int) := by omega
                go_wp2
                go_roundg (N - (i + 1))
                case measure => omega
                case rel =>
                  refine ⟨i + 1, by simp, by omega, ?_⟩
                  rw [hfil]
                  show A1 w wr u7 vw (alB (bwOf bt) (wt ++ [t])) (wt ++ [t])
                  rw [alB_app]
                  exact HK.out
      · have hiN' : i = N := by omega
        subst hiN'
        by_cases h8 : i < T.length
        · have e1 : (i : Int) < (T.length : Int) := by omega
          have e2 : ¬ (i : Int) < 8 := by omega
          go_wp2
          go_meet
          case rel => exact HA.out
        · have e1 : ¬ (i : Int) < (T.length : Int) := by omega
          go_wp2
          go_meet
          case rel => exact HA.out
  case rest =>
    have hall : ∀ x ∈ (T.take N).filter cl, cl x = true := fun x hx => (List.mem_filter.1 hx).2
    have hwl : ((T.take N).filter cl).length ≤ 8 := Nat.le_trans (List.length_filter_le _ _) (by rw [List.length_take]; omega)
    have hal := alB_len (bwOf bt) (bw_len bt) _ hall
    have hkey := tk_all (bwOf bt) (bw_ne bt) _ [] hall
    have HA : Hid (A1 w wc u7 u8 (alB (bwOf bt) ((T.take N).filter cl)) ((T.take N).filter cl)) := hcut
    clear HA0 hcut
    generalize (T.take N).filter cl = wt at *
    generalize alB (bwOf bt) wt = al at *
    have hal2 : al.length ≤ 131896 := by omega
    clear hall hal
    go_wp2_with (first | (at_builtin; refine wpList_append_lies _ rfl _ _ 31 rfl w.heap.size 9 i9 _ 1 16 Try.underlying31 hi9 hy0 hy1 hy2 rfl (by decide) u8 wt.length (wt.map .string) rfl (World.ownsRow.alloc HA.out.ow _) ⟨wc.heap.size, 0, none⟩ 1 1 [.string ⟨#[101, 110, 100]⟩] rfl rfl (cell_one_new _ _ _) (by intro u hu; simp at hu; subst hu; rfl) (by decide) (by unfold maxLen; omega) (by omega) (by have := HA.out.be.size; simp; omega) (wc.heap.size + 1) (by simp) ?_; intro g cp W2 hown2 hgrow2 hat2 hlt2; refine Stop.mk ?_) | fail)
    refine Stop.out ?_
    have HA2 : Hid (A1 w W2 u7 (.slice (some ⟨g, 0, none⟩) (wt.length + 1) cp) al (wt ++ [⟨#[101, 110, 100]⟩])) := HA.out.pushW ((Below.refl _ _).alloc (Nat.le_refl _) _) hgrow2 (by rw [List.length_append, List.map_append]; exact hown2)
    clear hown2 hgrow2 hat2 hlt2 HA
    have kf := frame_v W2 ⟨#[101, 110, 100]⟩ (by decide)
    go_wp2_with (go_at_call 8; refine Stop.mk ?_)
    refine Stop.out (kf.mono ?_)
    rintro e W3 ⟨v1, rfl, hv1, ⟨g1, c1, rfl, _, _⟩, hb3⟩
    have HA3 : Hid (A1 w W3 u7 (.slice (some ⟨g, 0, none⟩) (wt.length + 1) cp) al (wt ++ [⟨#[101, 110, 100]⟩])) := HA2.out.on hb3
    have HV1 : Hid (V W3 (.slice (some ⟨g1, 0, none⟩) 6 c1) (fb ⟨#[101, 110, 100]⟩)) := hv1
    rw [show (⟨#[101, 110, 100]⟩ : ByteArray).size + 3 = 6 from rfl]
    clear hv1 hb3 kf HA2
    go_wp2_with (first | (at_builtin; refine wpList_append_lies _ rfl _ _ 22 rfl w.heap.size 5 i0 _ 1 1 Try.underlying22 hi hz0 hz1 hz2 rfl (by decide) u7 al.length (u8s al) rfl HA3.out.oa ⟨g1, 0, none⟩ 6 c1 (u8s (fb ⟨#[101, 110, 100]⟩)) rfl rfl HV1.out.news (u8s_one _) (by omega) (by unfold maxLen; omega) (by omega) HA3.out.be.size W3.heap.size rfl ?_; intro g2 cp2 W4 hown2 hgrow2 hat2 hlt2; refine Stop.mk ?_) | fail)
    refine Stop.out ?_
    have HA4 : Hid (A1 w W4 (.slice (some ⟨g2, 0, none⟩) (al.length + 6) cp2) (.slice (some ⟨g, 0, none⟩) (wt.length + 1) cp) (al ++ fb ⟨#[101, 110, 100]⟩) (wt ++ [⟨#[101, 110, 100]⟩])) := HA3.out.pushA (Below.refl _ _) hgrow2 (by rw [List.length_append, u8s_append]; exact hown2) (by
      intro x hx
      rcases List.mem_append.1 hx with hx | hx
      · exact HA3.out.bt x hx
      · exact fb_lt _ x hx)
    have hkey2 : tk (al ++ fb ⟨#[101, 110, 100]⟩) (1, [], false) [] = ((1, [], false), frs (wt ++ [⟨#[101, 110, 100]⟩])) := by
      rw [tk_app, hkey, tk_frame (by decide), frs, frs, List.map_append]; rfl
    have hal3 : (al ++ fb ⟨#[101, 110, 100]⟩).length = al.length + 6 := by rw [List.length_append]; rfl
    have hwt3 : (wt ++ [(⟨#[101, 110, 100]⟩ : ByteArray)]).length = wt.length + 1 := by rw [List.length_append]; rfl
    clear hown2 hgrow2 hat2 hlt2 HV1 HA3 hkey
    rw [← hal3] at HA4 ⊢
    rw [← hwt3] at HA4 ⊢
    have hL6 : 6 ≤ (al ++ fb ⟨#[101, 110, 100]⟩).length := by omega
    have hLb : (al ++ fb ⟨#[101, 110, 100]⟩).length ≤ 140000 := by omega
    have hWb : (wt ++ [(⟨#[101, 110, 100]⟩ : ByteArray)]).length ≤ 9 := by omega
    clear hal3 hwt3
    generalize al ++ fb ⟨#[101, 110, 100]⟩ = al2 at *
    generalize wt ++ [(⟨#[101, 110, 100]⟩ : ByteArray)] = wt2 at *
    have kn := newFramer_any W4
    go_wp2_with (go_at_call 11; refine Stop.mk ?_)
    refine Stop.out (kn.mono ?_)
    rintro e W5 ⟨rfl, hF5, hb5, hz5⟩
    have HG : Hid (A2 w W5 (.slice (some ⟨g2, 0, none⟩) al2.length cp2) (.slice (some ⟨g, 0, none⟩) wt2.length cp) al2 wt2 W4.heap.size (.slice none 0 0) (1, [], false) (.slice none 0 0) []) := ⟨HA4.out.on hb5, hF5, .inl ⟨rfl, rfl, rfl⟩, HA4.out.be.size, (fun g hg => by cases hg), World.ownsRow_nil _ _ _ _⟩
    have HCP : Hid (al2.length ≤ cp2) := by
      rcases HA4.out.oa.2 with ⟨e, _⟩ | ⟨_, _, _, e, _, _, h, _⟩
      · cases e
      · cases e; exact h
    clear kn hF5 hb5 hz5 HA4
    obtain ⟨q, hq⟩ : ∃ q, W4.heap.size = q := ⟨_, rfl⟩
    rw [hq] at HG ⊢
    have e6 : ¬ (al2.length : Int) < 6 := by omega
    go_wp2
    go_loopg [12, 13, 14] al2.length (fun gg s12 s13 s14 wx => ∃ (k i : Nat) (u : Value) (a : FSt) (fs : Fs), s13 = .int .i64 (k : Int) ∧ s14 = .int .i64 (i : Int) ∧ gg + k = al2.length ∧ i ≤ k ∧ fs.length ≤ k ∧ Hid (A2 w wx (.slice (some ⟨g2, 0, none⟩) al2.length cp2) (.slice (some ⟨g, 0, none⟩) wt2.length cp) al2 wt2 q u a s12 fs) ∧ Hid (tk (al2.drop k) a fs = ((1, [], false), frs wt2)))
    case atStart => exact ⟨0, 0, _, _, _, rfl, rfl, by omega, by omega, by simp, HG.out, hkey2⟩
    case round =>
      obtain ⟨k, i, u, a, fs, rfl, rfl, hgk, hik, hfk, HG2, HK⟩ := hrel
      clear HG
      by_cases hkL : k < al2.length
      · have ekL : (k : Int) < (al2.length : Int) := by omega
        have hCP := HCP.out
        obtain ⟨n0, hn0⟩ : ∃ n0, al2.length - k = n0 := ⟨_, rfl⟩
        have en0 : (al2.length : Int) - (k : Int) = (n0 : Int) := by omega
        go_upto_region 25 with fail
        try rw [en0]
        go_cut [112] from 113 to 144 (fun s112 wx => wx = wr ∧ (s112 = .bool false ∨ (s112 = .bool true ∧ i < Z.length ∧ 0 < Z.getD i 0 ∧ Z.getD i 0 < (n0 : Int))))
        case first =>
          by_cases hiZ : i < Z.length
          · obtain ⟨b, off, rfl, hc⟩ := HZ.out i hiZ
            have hcell := (HG2.out.a1.be.cell (p := ⟨b, off + i, none⟩) (World.block_lt_of_cell? w _ hc)).trans hc
            obtain ⟨z, hz⟩ : ∃ z, Z.getD i 0 = z := ⟨_, rfl⟩
            rw [hz] at hcell
            have eiZ : (i : Int) < (Z.length : Int) := by omega
            by_cases hz0' : 0 < z
            · have ez : decide (0 < z) = true := by simpa using hz0'
              by_cases hzn : z < (n0 : Int)
              · have ez2 : decide (z < (n0 : Int)) = true := by simpa using hzn
                go_wp2
                go_meet
                case rel => exact ⟨rfl, .inr ⟨by simp, hiZ, by rw [hz]; exact hz0', by rw [hz]; exact hzn⟩⟩
              · have ez2 : decide (z < (n0 : Int)) = false := by simpa using hzn
                go_wp2
                go_meet
                case rel => exact ⟨rfl, .inl (by simp)⟩
            · have ez : decide (0 < z) = false := by simpa using hz0'
              go_wp2
              go_meet
              case rel => exact ⟨rfl, .inl (by simp)⟩
          · have eiZ : ¬ (i : Int) < (Z.length : Int) := by omega
            go_wp2
            go_meet
            case rel => exact ⟨rfl, .inl (by simp)⟩
        case rest =>
          obtain ⟨rfl, hway⟩ := hcut
          rcases hway with rfl | ⟨rfl, hiZ, hz1', hz2'⟩
          · obtain ⟨n, hn⟩ : ∃ n, n0 = n := ⟨_, rfl⟩
            have hn1 : 1 ≤ n := by omega
            have hnL : k + n ≤ al2.length := by omega
            rw [hn]
            clear hn en0 hn0
            obtain ⟨pc, hpc⟩ : ∃ pc, (al2.drop k).take n = pc := ⟨_, rfl⟩
            have hpl : pc.length = n := by rw [← hpc, List.length_take, List.length_drop]; omega
            have kl := lend_any (own_sub HG2.out.a1.oa HG2.out.a1.bt hn1 hnL hCP) (by rw [hpc, hpl]; omega)
            rw [hpc, hpl] at kl
            go_wp2_with (go_at_call 12; refine Stop.mk ?_)
            refine Stop.out (kl.mono ?_)
            rintro e W1 ⟨rfl, hown, hb⟩
            have HT1 : Hid (Lent W1 wc.heap.size wc.heap.size pc) := by show Own _ _ (.slice _ (pc.length + 3) (pc.length + 3)) _; rw [hpl]; exact hown
            have HL1 : Hid (A2 w W1 (.slice (some ⟨g2, 0, none⟩) al2.length cp2) (.slice (some ⟨g, 0, none⟩) wt2.length cp) al2 wt2 q u a u12 fs) := HG2.out.on hb
            have HVP := HT1.out.v (cap := n + 3) (by omega)
            rw [hpl] at HVP
            have kt := take_any (bs := pc) HL1.out.fr HL1.out.ok HVP (apart_new (w := wc) (Nat.le_refl _) (HT1.out.1.lt _ rfl).2 HG2.out.fr.row.lt (fun j hj => (HG2.out.fr.own.lt j hj).2)) (by omega)
            clear kl hown hb HVP
            go_wp2_with (go_at_call 7; refine Stop.mk ?_)
            refine Stop.out (kt.mono ?_)
            rintro e W2 ⟨told, u', s', tx', lg', fs', rfl, hTI, hfs, hR⟩
            have hok := tk_okF pc a [] HL1.out.ok
            have hR' : tk pc a [] = ((s', tx', lg'), fs') := hR
            rw [hR'] at hok
            have HA5 : Hid (A2 w W2 (.slice (some ⟨g2, 0, none⟩) al2.length cp2) (.slice (some ⟨g, 0, none⟩) wt2.length cp) al2 wt2 q u' (s', tx', lg') u12 (fs ++ fs'.take 0)) := by rw [List.take_zero, List.append_nil]; exact HL1.out.take (a' := (s', tx', lg')) hTI hok
            have HTL : Hid (W2.ownsRow W1.heap.size 37 2 told fs'.length (fsC fs')) := hTI.tl
            have HNE : Hid (∀ j, u12.ownBlock = some j → told.ownBlock ≠ some j) := fun j hj hj' => by
              have := (HL1.out.og.lt j hj).2
              have := (hTI.tl.lt j hj').1
              omega
            have HK2 : Hid (tk (al2.drop (k + n)) (s', tx', lg') (fs ++ fs') = ((1, [], false), frs wt2)) := by
              have := tk_cut al2 k n a fs
              rw [hpc, hR', HK.out] at this
              exact this.symm
            obtain ⟨ta2, tc2, rfl⟩ := own_slice hTI.tl
            rw [hpl] at hfs
            clear kt hTI hR hR' hok HL1 HT1 HG2 HK hpc hpl
            go_wp2
            go_loopg [12, 17] fs'.length (fun gg s12 s17 wx => ∃ j : Nat, s17 = .int .i64 (j : Int) ∧ gg + j = fs'.length ∧ Hid (A2 w wx (.slice (some ⟨g2, 0, none⟩) al2.length cp2) (.slice (some ⟨g, 0, none⟩) wt2.length cp) al2 wt2 q u' (s', tx', lg') s12 (fs ++ fs'.take j)) ∧ Hid (wx.ownsRow W1.heap.size 37 2 (.slice ta2 fs'.length tc2) fs'.length (fsC fs')) ∧ Hid (∀ j, s12.ownBlock = some j → Value.ownBlock (.slice ta2 fs'.length tc2) ≠ some j))
            case atStart => exact ⟨0, rfl, by omega, HA5.out, HTL.out, HNE.out⟩
            case round =>
              obtain ⟨j, rfl, hgj, HAj, HTj, HNj⟩ := hrel
              clear HA5 HTL HNE
              by_cases hjn : j < fs'.length
              · have ejn : (j : Int) < (fs'.length : Int) := by omega
                obtain ⟨g4, rfl, x1, y1⟩ := FL.cells ⟨_, HTj.out⟩ j hjn
                have hfj := fs_take_succ fs' j hjn
                obtain ⟨f, hf⟩ : ∃ f, fs'.getD j ([], false) = f := ⟨_, rfl⟩
                rw [hf] at x1 y1 hfj
                have hlen : (fs ++ fs'.take j).length ≤ fs.length + j := by rw [List.length_append, List.length_take]; omega
                have hfj2 : fs ++ fs'.take (j + 1) = (fs ++ fs'.take j) ++ [f] := by rw [hfj, List.append_assoc]
                generalize fs ++ fs'.take j = fj at *
                go_wp2_with (first | (at_builtin; refine wpList_append_lies _ rfl _ _ 26 rfl w.heap.size 37 i37 _ 2 24 Try.underlying26 hi37 hx0 hx1 hx2 rfl (by decide) u12 fj.length (fsC fj) rfl (World.ownsRow.alloc HAj.out.og _) ⟨wr.heap.size, 0, none⟩ 1 1 [.string (arr f.1), .bool f.2] rfl rfl (cell_two_new _ _ _ _) (by intro u hu; simp at hu; rcases hu with rfl | rfl <;> rfl) (by decide) (by unfold maxLen; omega) (by omega) (by have := HAj.out.a1.be.size; simp; omega) (wr.heap.size + 1) (by simp) ?_; intro g5 cp5 W6 hown2 hgrow2 hat2 hlt2; refine Stop.mk ?_) | fail)
                refine Stop.out ?_
                have HA6 : Hid (A2 w W6 (.slice (some ⟨g2, 0, none⟩) al2.length cp2) (.slice (some ⟨g, 0, none⟩) wt2.length cp) al2 wt2 q u' (s', tx', lg') (.slice (some ⟨g5, 0, none⟩) (fj.length + 1) cp5) (fj ++ [f])) := HAj.out.pushG ((Below.refl _ _).alloc (Nat.le_refl _) _) hgrow2 (by rw [List.length_append, fsC_app]; exact hown2)
                have HT6 : Hid (W6.ownsRow W1.heap.size 37 2 (.slice (some ⟨g4, 0, none⟩) fs'.length tc2) fs'.length (fsC fs')) := owns_of HTj.out fun y hy => (hgrow2.block y (by have := (HTj.out.lt y hy).2; simp; omega) (fun e => HNj.out y e.symm hy)).trans (blk_alloc_lt _ _ _ (HTj.out.lt y hy).2)
                have HN6 : Hid (∀ j, Value.ownBlock (.slice (some ⟨g5, 0, none⟩) (fj.length + 1) cp5) = some j → Value.ownBlock (.slice (some ⟨g4, 0, none⟩) fs'.length tc2) ≠ some j) := fun y hy hy' => by
                  have e1 : g5 = y := Option.some.inj hy
                  subst e1
                  rcases hat2 with e | e
                  · exact HNj.out _ e hy'
                  · have := (HTj.out.lt _ hy').2; omega
                clear hown2 hgrow2 hat2 hlt2 x1 y1
                go_wp2
                go_roundg (fs'.length - (j + 1))
                case measure => omega
                case rel => exact ⟨j + 1, by simp, by omega, by rw [hfj2]; exact HA6.out, HT6.out, HN6.out⟩
              · have hj' : j = fs'.length := by omega
                subst hj'
                rw [List.take_length] at HAj
                have kh := held_any HAj.out.fr
                have hhl : hd s' tx'.length ≤ 16385 := hd_le HAj.out.fr.len
                simp only at kh
                generalize hd s' tx'.length = hh at *
                have ehh : ¬ ((hh : Int) > 16385) := by omega
                have ehh2 : decide ((16385 : Int) < (hh : Int)) = false := by simp; omega
                have ejn : ¬ (fs'.length : Int) < (fs'.length : Int) := by omega
                go_wp2_with (go_at_call 9; refine Stop.mk ?_)
                refine Stop.out (kh.mono ?_)
                rintro e w' ⟨rfl, rfl⟩
                clear kh
                go_wp2
                go_roundg (al2.length - (k + n))
                case measure => omega
                case rel => exact ⟨k + n, i + 1, u', (s', tx', lg'), fs ++ fs', by simp, by simp, by omega, by omega, by rw [List.length_append]; omega, HAj.out, HK2.out⟩
          · obtain ⟨b, off, rfl, hc⟩ := HZ.out i hiZ
            have hcell := (HG2.out.a1.be.cell (p := ⟨b, off + i, none⟩) (World.block_lt_of_cell? w _ hc)).trans hc
            obtain ⟨n, hn⟩ : ∃ n : Nat, Z.getD i 0 = (n : Int) := ⟨(Z.getD i 0).toNat, by omega⟩
            rw [hn] at hcell hz1' hz2'
            have hn1 : 1 ≤ n := by omega
            have hnL : k + n ≤ al2.length := by omega
            clear hc en0 hn0
            obtain ⟨pc, hpc⟩ : ∃ pc, (al2.drop k).take n = pc := ⟨_, rfl⟩
            have hpl : pc.length = n := by rw [← hpc, List.length_take, List.length_drop]; omega
            have kl := lend_any (own_sub HG2.out.a1.oa HG2.out.a1.bt hn1 hnL hCP) (by rw [hpc, hpl]; omega)
            rw [hpc, hpl] at kl
            go_wp2_with (go_at_call 12; refine Stop.mk ?_)
            refine Stop.out (kl.mono ?_)
            rintro e W1 ⟨rfl, hown, hb⟩
            have HT1 : Hid (Lent W1 wc.heap.size wc.heap.size pc) := by show Own _ _ (.slice _ (pc.length + 3) (pc.length + 3)) _; rw [hpl]; exact hown
            have HL1 : Hid (A2 w W1 (.slice (some ⟨g2, 0, none⟩) al2.length cp2) (.slice (some ⟨g, 0, none⟩) wt2.length cp) al2 wt2 q u a u12 fs) := HG2.out.on hb
            have HVP := HT1.out.v (cap := n + 3) (by omega)
            rw [hpl] at HVP
            have kt := take_any (bs := pc) HL1.out.fr HL1.out.ok HVP (apart_new (w := wc) (Nat.le_refl _) (HT1.out.1.lt _ rfl).2 HG2.out.fr.row.lt (fun j hj => (HG2.out.fr.own.lt j hj).2)) (by omega)
            clear kl hown hb HVP
            go_wp2_with (go_at_call 7; refine Stop.mk ?_)
            refine Stop.out (kt.mono ?_)
            rintro e W2 ⟨told, u', s', tx', lg', fs', rfl, hTI, hfs, hR⟩
            have hok := tk_okF pc a [] HL1.out.ok
            have hR' : tk pc a [] = ((s', tx', lg'), fs') := hR
            rw [hR'] at hok
            have HA5 : Hid (A2 w W2 (.slice (some ⟨g2, 0, none⟩) al2.length cp2) (.slice (some ⟨g, 0, none⟩) wt2.length cp) al2 wt2 q u' (s', tx', lg') u12 (fs ++ fs'.take 0)) := by rw [List.take_zero, List.append_nil]; exact HL1.out.take (a' := (s', tx', lg')) hTI hok
            have HTL : Hid (W2.ownsRow W1.heap.size 37 2 told fs'.length (fsC fs')) := hTI.tl
            have HNE : Hid (∀ j, u12.ownBlock = some j → told.ownBlock ≠ some j) := fun j hj hj' => by
              have := (HL1.out.og.lt j hj).2
              have := (hTI.tl.lt j hj').1
              omega
            have HK2 : Hid (tk (al2.drop (k + n)) (s', tx', lg') (fs ++ fs') = ((1, [], false), frs wt2)) := by
              have := tk_cut al2 k n a fs
              rw [hpc, hR', HK.out] at this
              exact this.symm
            obtain ⟨ta2, tc2, rfl⟩ := own_slice hTI.tl
            rw [hpl] at hfs
            clear kt hTI hR hR' hok HL1 HT1 HG2 HK hpc hpl
            go_wp2
            go_loopg [12, 17] fs'.length (fun gg s12 s17 wx => ∃ j : Nat, s17 = .int .i64 (j : Int) ∧ gg + j = fs'.length ∧ Hid (A2 w wx (.slice (some ⟨g2, 0, none⟩) al2.length cp2) (.slice (some ⟨g, 0, none⟩) wt2.length cp) al2 wt2 q u' (s', tx', lg') s12 (fs ++ fs'.take j)) ∧ Hid (wx.ownsRow W1.heap.size 37 2 (.slice ta2 fs'.length tc2) fs'.length (fsC fs')) ∧ Hid (∀ j, s12.ownBlock = some j → Value.ownBlock (.slice ta2 fs'.length tc2) ≠ some j))
            case atStart => exact ⟨0, rfl, by omega, HA5.out, HTL.out, HNE.out⟩
            case round =>
              obtain ⟨j, rfl, hgj, HAj, HTj, HNj⟩ := hrel
              clear HA5 HTL HNE
              by_cases hjn : j < fs'.length
              · have ejn : (j : Int) < (fs'.length : Int) := by omega
                obtain ⟨g4, rfl, x1, y1⟩ := FL.cells ⟨_, HTj.out⟩ j hjn
                have hfj := fs_take_succ fs' j hjn
                obtain ⟨f, hf⟩ : ∃ f, fs'.getD j ([], false) = f := ⟨_, rfl⟩
                rw [hf] at x1 y1 hfj
                have hlen : (fs ++ fs'.take j).length ≤ fs.length + j := by rw [List.length_append, List.length_take]; omega
                have hfj2 : fs ++ fs'.take (j + 1) = (fs ++ fs'.take j) ++ [f] := by rw [hfj, List.append_assoc]
                generalize fs ++ fs'.take j = fj at *
                go_wp2_with (first | (at_builtin; refine wpList_append_lies _ rfl _ _ 26 rfl w.heap.size 37 i37 _ 2 24 Try.underlying26 hi37 hx0 hx1 hx2 rfl (by decide) u12 fj.length (fsC fj) rfl (World.ownsRow.alloc HAj.out.og _) ⟨wr.heap.size, 0, none⟩ 1 1 [.string (arr f.1), .bool f.2] rfl rfl (cell_two_new _ _ _ _) (by intro u hu; simp at hu; rcases hu with rfl | rfl <;> rfl) (by decide) (by unfold maxLen; omega) (by omega) (by have := HAj.out.a1.be.size; simp; omega) (wr.heap.size + 1) (by simp) ?_; intro g5 cp5 W6 hown2 hgrow2 hat2 hlt2; refine Stop.mk ?_) | fail)
                refine Stop.out ?_
                have HA6 : Hid (A2 w W6 (.slice (some ⟨g2, 0, none⟩) al2.length cp2) (.slice (some ⟨g, 0, none⟩) wt2.length cp) al2 wt2 q u' (s', tx', lg') (.slice (some ⟨g5, 0, none⟩) (fj.length + 1) cp5) (fj ++ [f])) := HAj.out.pushG ((Below.refl _ _).alloc (Nat.le_refl _) _) hgrow2 (by rw [List.length_append, fsC_app]; exact hown2)
                have HT6 : Hid (W6.ownsRow W1.heap.size 37 2 (.slice (some ⟨g4, 0, none⟩) fs'.length tc2) fs'.length (fsC fs')) := owns_of HTj.out fun y hy => (hgrow2.block y (by have := (HTj.out.lt y hy).2; simp; omega) (fun e => HNj.out y e.symm hy)).trans (blk_alloc_lt _ _ _ (HTj.out.lt y hy).2)
                have HN6 : Hid (∀ j, Value.ownBlock (.slice (some ⟨g5, 0, none⟩) (fj.length + 1) cp5) = some j → Value.ownBlock (.slice (some ⟨g4, 0, none⟩) fs'.length tc2) ≠ some j) := fun y hy hy' => by
                  have e1 : g5 = y := Option.some.inj hy
                  subst e1
                  rcases hat2 with e | e
                  · exact HNj.out _ e hy'
                  · have := (HTj.out.lt _ hy').2; omega
                clear hown2 hgrow2 hat2 hlt2 x1 y1
                go_wp2
                go_roundg (fs'.length - (j + 1))
                case measure => omega
                case rel => exact ⟨j + 1, by simp, by omega, by rw [hfj2]; exact HA6.out, HT6.out, HN6.out⟩
              · have hj' : j = fs'.length := by omega
                subst hj'
                rw [List.take_length] at HAj
                have kh := held_any HAj.out.fr
                have hhl : hd s' tx'.length ≤ 16385 := hd_le HAj.out.fr.len
                simp only at kh
                generalize hd s' tx'.length = hh at *
                have ehh : ¬ ((hh : Int) > 16385) := by omega
                have ehh2 : decide ((16385 : Int) < (hh : Int)) = false := by simp; omega
                have ejn : ¬ (fs'.length : Int) < (fs'.length : Int) := by omega
                go_wp2_with (go_at_call 9; refine Stop.mk ?_)
                refine Stop.out (kh.mono ?_)
                rintro e w' ⟨rfl, rfl⟩
                clear kh
                go_wp2
                go_roundg (al2.length - (k + n))
                case measure => omega
                case rel => exact ⟨k + n, i + 1, u', (s', tx', lg'), fs ++ fs', by simp, by simp, by omega, by omega, by rw [List.length_append]; omega, HAj.out, HK2.out⟩
      · have hk' : k = al2.length := by omega
        subst hk'
        have hend := HK.out
        rw [tk_end (Nat.le_refl _)] at hend
        have ha : a = (1, [], false) := (Prod.ext_iff.1 hend).1
        have hf : fs = frs wt2 := (Prod.ext_iff.1 hend).2
        subst ha hf
        have kh := held_any HG2.out.fr
        have hgl : (frs wt2).length = wt2.length := by simp [frs]
        obtain ⟨ga, gc, rfl⟩ := own_slice HG2.out.og
        have HGF : Hid (FL wr (.slice ga (frs wt2).length gc) (frs wt2)) := ⟨_, HG2.out.og⟩
        have HW : Hid (wr.ownsRow w.heap.size 9 1 (.slice (some ⟨g, 0, none⟩) wt2.length cp) wt2.length (wt2.map .string)) := HG2.out.a1.ow
        have HBE : Hid (Below w.heap.size w wr) := HG2.out.a1.be
        have ekL : ¬ (al2.length : Int) < (al2.length : Int) := by omega
        rw [show hd ((1, [], false) : FSt).1 ((1, [], false) : FSt).2.1.length = 0 from rfl] at kh
        rw [hgl]
        rw [hgl] at HGF
        clear HG2 HK hend
        go_wp2_with (go_at_call 9; refine Stop.mk ?_)
        refine Stop.out (kh.mono ?_)
        rintro e w' ⟨rfl, rfl⟩
        clear kh
        go_wp2
        go_loopw [18] (fun i wx => ∃ j m : Nat, j ≤ wt2.length ∧ i = .int .i64 (j : Int) ∧ wx = wr.drewN m) (fun i _ => wt2.length - (intOf i).toNat)
        case atStart => exact ⟨0, 0, Nat.zero_le _, rfl, rfl⟩
        case round =>
          obtain ⟨j, m, hj, rfl, rfl⟩ := hrel
          by_cases hjn : j < wt2.length
          · obtain ⟨g6, rfl, x1, y1⟩ := HGF.out.cells j (by rw [hgl]; exact hjn)
            have hfr : (frs wt2).getD j ([], false) = (sn (wt2.getD j ⟨#[]⟩), false) := by
              simp [frs, List.getD_eq_getElem?_getD, List.getElem?_eq_getElem hjn]
            rw [hfr, arr_sn] at x1
            rw [hfr] at y1
            have z1 := HW.out.cells (g := g) rfl j (.string (wt2.getD j ⟨#[]⟩)) (by simp [List.getD_eq_getElem?_getD, List.getElem?_eq_getElem hjn])
            rw [add_at, Nat.zero_add] at z1
            simp only at x1 y1
            generalize wt2.getD j ⟨#[]⟩ = tt at *
            go_wp2
            go_quiet (fail)
            go_wp2
            go_roundw
            case rel => exact ⟨j + 1, _, by omega, by go_num, rfl⟩
            case measure => simp [intOf]; omega
          · have hj' : j = wt2.length := by omega
            subst hj'
            go_wp2
            go_ret
            exact ⟨rfl, HBE.out.trans ((below_drewN _ _).mono HBE.out.size)⟩
end Go.Proofs.Ytfjcmniicbppdaa
