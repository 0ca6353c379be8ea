import Derived.Test.YtehgeninocbpeaaGreatDoorGL
import Derived.Test.YtehgeninocbpeaaGreatDoorGP
import Derived.Test.YtehgeninocbpeaaGreatDoorQR
namespace Go.Proofs.YtehgeninocbpeaaGreatDoor.Tm
open Go Go.Proofs Go.RowKit
theorem rglob_fits (W : World) (p u : ByteArray) (hp : p.size ≤ 2097152) (hu : u.size ≤ 2097152) : Calls Tryz.prog 52 #[.string p, .string u] W (BoolP W (fits p u)) := by
  have c := Gl.rglob_any W p u hp hu
  rw [Gl.relems_map, Gl.relems_map, Gl.gm_map] at c
  exact c
theorem rfold_B (W : World) (s : ByteArray) (hs : s.size ≤ 2097152) : Calls Tryz.prog 88 #[.string s] W fun e w' => e = .returned (.string (foldB s)) ∧ Below W.heap.size W w' := Gl.rfold_any W s hs
def tr (s : ByteArray) (n : Nat) : List UInt8 := Lib.trimRightS (s.data.toList.take n) [94, 61]
theorem take_next (s : ByteArray) (n : Nat) (h : n < s.size) : s.data.toList.take (n + 1) = s.data.toList.take n ++ [s.get! n] := by
  rw [List.take_add_one, Cu.get_l s n h]
  rfl
theorem tr_step (s : ByteArray) (n : Nat) (h : n < s.size) (hb : (s.get! n).toNat = 94 ∨ (s.get! n).toNat = 61) : tr s (n + 1) = tr s n := by
  unfold tr Lib.trimRightS
  rw [take_next s n h, List.reverse_append, List.reverse_singleton, List.singleton_append, List.dropWhile_cons, if_pos]
  rcases hb with hb | hb
  · have : s.get! n = 94 := UInt8.toNat_inj.1 hb
    rw [this]; rfl
  · have : s.get! n = 61 := UInt8.toNat_inj.1 hb
    rw [this]; rfl
theorem tr_stop (s : ByteArray) (n : Nat) (h : n < s.size) (hb : ¬ ((s.get! n).toNat = 94 ∨ (s.get! n).toNat = 61)) : tr s (n + 1) = s.data.toList.take (n + 1) := by
  unfold tr Lib.trimRightS
  rw [take_next s n h, List.reverse_append, List.reverse_singleton, List.singleton_append, List.dropWhile_cons, if_neg]
  · simp
  · simp only [List.contains_cons, List.contains_nil, Bool.or_false, Bool.or_eq_true, beq_iff_eq]
    rintro (e | e)
    · exact hb (.inl (by rw [e]; rfl))
    · exact hb (.inr (by rw [e]; rfl))
theorem tr_all (s : ByteArray) : tr s s.size = Lib.trimRightS s.data.toList [94, 61] := by
  unfold tr
  rw [List.take_of_length_le (by rw [Array.length_toList]; exact Nat.le_refl _)]
theorem ext_take (s : ByteArray) (n : Nat) : s.extract 0 n = ⟨(s.data.toList.take n).toArray⟩ := by
  rw [← Cu.BA_of (s.extract 0 n), Cu.ext_l]
  rfl
set_option maxRecDepth 100000 in
set_option maxHeartbeats 2000000 in
theorem bare_any (w : World) (s : ByteArray) (hs : s.size ≤ 2097152) : Calls Tryz.prog 89 #[.string s] w fun e w' => e = .returned (.string (Sp.trimE s)) ∧ Below w.heap.size w w' := by
  obtain ⟨R, hR⟩ : ∃ R, Sp.trimE s = R := ⟨_, rfl⟩
  have HR : Hid ((⟨(tr s s.size).toArray⟩ : ByteArray) = R) := by
    show _ = _
    rw [tr_all]
    exact hR
  rw [hR]
  clear hR
  go_enter Tryz.func89, Tryz.ntmps89
  go_wp2
  go_loopg [3] s.size (fun k s3 wx => ∃ n : Nat, s3 = .int .i64 (n : Int) ∧ n ≤ s.size ∧ k = n ∧ Hid ((⟨(tr s n).toArray⟩ : ByteArray) = R) ∧ Hid (Below w.heap.size w wx))
  case atStart => exact ⟨s.size, rfl, Nat.le_refl _, rfl, HR, Below.refl _ _⟩
  case round =>
    obtain ⟨n, rfl, hn, hk, HT, HB⟩ := hrel
    cases n with
    | zero =>
      have e : Hid (s.extract 0 0 = R) := by
        show _ = _
        rw [← HT.out, ext_take]
        rfl
      clear HT
      go_wp2
      go_ret
      exact ⟨by rw [← e.out]; first | rfl | simp, HB.out⟩
    | succ m =>
      have hm : m < s.size := by omega
      have hc1 : (((m + 1 : Nat) : Int) > 0) := by omega
      have hi0 : ((m + 1 : Nat) : Int) - 1 = (m : Int) := by omega
      obtain ⟨b, hb⟩ : ∃ b, s[m].toNat = b := ⟨_, rfl⟩
      have hgb : (s.get! m).toNat = b := by rw [← Cu.get_get! s m hm, hb]
      by_cases h1 : b = 94
      · subst h1
        have HT2 : Hid ((⟨(tr s m).toArray⟩ : ByteArray) = R) := by show _ = _; rw [← tr_step s m hm (.inl hgb)]; exact HT.out
        clear HT hgb
        go_wp2
        go_roundg m
        case measure => omega
        case rel => exact ⟨m, by first | rfl | simp, by omega, rfl, HT2, HB⟩
      · by_cases h2 : b = 61
        · subst h2
          have HT2 : Hid ((⟨(tr s m).toArray⟩ : ByteArray) = R) := by show _ = _; rw [← tr_step s m hm (.inr hgb)]; exact HT.out
          clear HT hgb
          go_wp2
          go_roundg m
          case measure => omega
          case rel => exact ⟨m, by first | rfl | simp, by omega, rfl, HT2, HB⟩
        · have e : Hid (s.extract 0 (m + 1) = R) := by
            show _ = _
            rw [← HT.out, ext_take, tr_stop s m hm (by rw [hgb]; omega)]
          have x1 : ((b : Int) == 94) = false := by simp; omega
          have x2 : ((b : Int) == 61) = false := by simp; omega
          have hlt : ((m + 1 : Nat) : Int) ≤ (s.size : Int) := by omega
          clear HT hgb
          go_wp2
          go_ret
          exact ⟨by rw [← e.out]; first | rfl | simp, HB.out⟩
end Go.Proofs.YtehgeninocbpeaaGreatDoor.Tm

namespace Go.Proofs.YtehgeninocbpeaaGreatDoor.Tm
open Go Go.Proofs Go.RowKit
def PcP (w : World) (xs : List ByteArray) : Ending → World → Prop := fun e w' => ∃ g cap, e = .returned (.slice (some ⟨g, 0, none⟩) xs.length cap) ∧ (∀ i (h : i < xs.length), w'.cell? ⟨g, i, none⟩ = some (.string xs[i])) ∧ Below w.heap.size w w'
theorem cut_of (w : World) (s : ByteArray) (hs : s.size ≤ 2097152) (c : Nat) : Calls Tryz.prog 29 #[.string s, .int .u8 (c : Int)] w (PcP w (Cu.cx s c 0)) := by
  refine (Cu.cut12_any w s hs c).mono fun e w' ⟨v, he, ho, hb⟩ => ?_
  obtain ⟨a, cap, rfl, _, hc⟩ := Cu.own_str ho
  have hne := Cu.cx_ne s c 0
  generalize Cu.cx s c 0 = xs at *
  cases xs with
  | nil => exact absurd rfl hne
  | cons x xs =>
    obtain ⟨g, rfl, _⟩ := hc 0 x rfl
    refine ⟨g, cap, he, fun i hi => ?_, hb⟩
    obtain ⟨g', e, h⟩ := hc i _ (List.getElem?_eq_getElem hi)
    obtain rfl : g = g' := by simpa using e
    exact h
theorem cut_eq (w : World) (s : ByteArray) (hs : s.size ≤ 2097152) : Calls Tryz.prog 29 #[.string s, .int .u8 61] w (PcP w (Se.spB s)) := by
  rw [← Cu.cx_61]; exact cut_of w s hs 61
theorem cut_bs (w : World) (s : ByteArray) (hs : s.size ≤ 2097152) : Calls Tryz.prog 29 #[.string s, .int .u8 92] w (PcP w (Sp.spB s)) := by
  rw [← Cu.cx_92]; exact cut_of w s hs 92
theorem spL_single : ∀ l : List UInt8, (Se.spL l).length = 1 → Se.spL l = [l]
  | [], _ => rfl
  | b :: l, h => by
    have hn := Se.spL_ne l
    rw [Se.spL] at h ⊢
    split at h
    · exfalso
      rw [List.length_cons] at h
      exact hn (List.length_eq_zero_iff.1 (by omega))
    · rename_i hb
      rw [if_neg hb]
      cases hs : Se.spL l with
      | nil => exact absurd hs hn
      | cons a t =>
        rw [hs] at h
        simp only [List.length_cons] at h
        obtain rfl : t = [] := List.length_eq_zero_iff.1 (by omega)
        have := spL_single l (by rw [hs]; rfl)
        rw [hs] at this
        simp at this
        rw [this]
theorem spB_single (s : ByteArray) (h : (Se.spB s).length = 1) : Se.spB s = [s] := by
  unfold Se.spB Se.bsL at h ⊢
  rw [List.length_map] at h
  rw [spL_single _ h]
  rfl
set_option maxRecDepth 100000 in
set_option maxHeartbeats 4000000 in
theorem person_any (W : World) (key v : ByteArray) (hk : key.size ≤ 2097152) (hv : v.size ≤ 2097152) : Calls Tryz.prog 51 #[.string key, .string v] W (BoolP W (nmM key v)) := by
  have f1 := rfold_B W key hk
  have f2 := fun W => rfold_B W v hv
  have b1 := fun W => bare_any W (foldB key) (by rw [foldB_size]; omega)
  have b2 := fun W => bare_any W (foldB v) (by rw [foldB_size]; omega)
  have hK : (Sp.trimE (foldB key)).size ≤ 2097152 := by have := trimE_size (foldB key); rw [foldB_size] at this; omega
  have hV : (Sp.trimE (foldB v)).size ≤ 2097152 := by have := trimE_size (foldB v); rw [foldB_size] at this; omega
  have c1 := fun W => cut_eq W (Sp.trimE (foldB key)) hK
  have c2 := fun W => cut_eq W (Sp.trimE (foldB v)) hV
  have sk : ∀ u ∈ grp key, u.size ≤ 2097152 := fun u hu => by have := grp_size key u hu; omega
  have sv : ∀ u ∈ grp v, u.size ≤ 2097152 := fun u hu => by have := grp_size v u hu; omega
  have lk := grp_len key
  have lv := grp_len v
  have one := spB_single (Sp.trimE (foldB key))
  have HM : Hid (nmM key v = if (grp key).length = 1 then decide (((grp key).headD ⟨#[]⟩).size = 0) || (grp v).any (fits ((grp key).headD ⟨#[]⟩)) else arG (grp v) (grp key) 0) := rfl
  have ek : Se.spB (Sp.trimE (foldB key)) = grp key := rfl
  have ev : Se.spB (Sp.trimE (foldB v)) = grp v := rfl
  rw [ek] at c1 one
  rw [ev] at c2
  have e0 : Hid ((Sp.trimE (foldB key)).size = 0 → grp key = [⟨#[]⟩]) := by
    intro h
    have : Sp.trimE (foldB key) = ⟨#[]⟩ := ByteArray.ext (Array.eq_empty_of_size_eq_zero h)
    rw [← ek, this]
    rfl
  clear ek ev
  generalize Sp.trimE (foldB key) = K at *
  generalize Sp.trimE (foldB v) = V at *
  generalize foldB key = FK at *
  generalize foldB v = FV at *
  generalize grp key = ks at *
  generalize grp v = gs at *
  generalize nmM key v = R at *
  go_enter Tryz.func51, Tryz.ntmps51
  go_wp2_with (go_at_call 88; refine Stop.mk ?_)
  refine Stop.out (f1.mono ?_)
  rintro e W1 ⟨rfl, hb1⟩
  go_wp2_with (go_at_call 89; refine Stop.mk ?_)
  refine Stop.out ((b1 W1).mono ?_)
  rintro e W2 ⟨rfl, hb2⟩
  have hb12 := hb1.trans (hb2.mono hb1.size)
  clear f1 b1 hb1 hb2
  go_wp2_with (go_at_call 88; refine Stop.mk ?_)
  refine Stop.out ((f2 W2).mono ?_)
  rintro e W3 ⟨rfl, hb3⟩
  have hb13 := hb12.trans (hb3.mono hb12.size)
  clear f2 hb12 hb3
  go_wp2_with (go_at_call 89; refine Stop.mk ?_)
  refine Stop.out ((b2 W3).mono ?_)
  rintro e W4 ⟨rfl, hb4⟩
  have hb14 : Below W.heap.size W W4 := hb13.trans (hb4.mono hb13.size)
  have HB4 : Hid (Below W.heap.size W W4) := hb14
  clear b2 hb13 hb4 hb14
  by_cases hK0 : K.size = 0
  · have hks := e0.out hK0
    obtain rfl : K = ⟨#[]⟩ := ByteArray.ext (Array.eq_empty_of_size_eq_zero hK0)
    have e : Hid (true = R) := by show _ = _; rw [HM.out, hks]; rfl
    clear HM e0 c1 c2 one
    go_wp2
    go_ret
    exact ⟨by rw [← e.out]; rfl, HB4.out⟩
  have hke := text_some hK0
  clear e0
  go_wp2_with (go_at_call 29; refine Stop.mk ?_)
  refine Stop.out ((c1 W4).mono ?_)
  rintro e W5 ⟨g1, p1, rfl, cl1, hb5⟩
  have HB5 : Hid (Below W.heap.size W W5) := HB4.out.trans (hb5.mono HB4.out.size)
  have HK5 : Hid (∀ i (h : i < ks.length), W5.cell? ⟨g1, i, none⟩ = some (.string ks[i])) := cl1
  clear c1 HB4 hb5 cl1
  obtain ⟨n, hl⟩ : ∃ n, ks.length = n := ⟨_, rfl⟩
  have HL : Hid (ks.length = n) := hl
  rw [hl] at lk ⊢
  go_wp2_with (go_at_call 29; refine Stop.mk ?_)
  refine Stop.out ((c2 W5).mono ?_)
  rintro e W6 ⟨g2, p2, rfl, cl2, hb6⟩
  have HB6 : Hid (Below W.heap.size W W6) := HB5.out.trans (hb6.mono HB5.out.size)
  have HK6 : Hid (∀ i (h : i < ks.length), W6.cell? ⟨g1, i, none⟩ = some (.string ks[i])) := fun i h => (hb6.cell (cell_lt (HK5.out i h))).trans (HK5.out i h)
  have HG6 : Hid (∀ i (h : i < gs.length), W6.cell? ⟨g2, i, none⟩ = some (.string gs[i])) := cl2
  clear c2 HB5 HK5 hb6 cl2
  obtain ⟨mg, hlg⟩ : ∃ mg, gs.length = mg := ⟨_, rfl⟩
  have HLg : Hid (gs.length = mg) := hlg
  rw [hlg] at lv ⊢
  have HSk : Hid (∀ u ∈ ks, u.size ≤ 2097152) := sk
  have HSv : Hid (∀ u ∈ gs, u.size ≤ 2097152) := sv
  clear sk sv hlg
  by_cases hn1 : n = 1
  · subst hn1
    have hks := one hl
    have HR : Hid ((gs.drop 0).any (fits K) = R) := by
      show _ = _
      rw [HM.out, hks]
      show _ = (decide (K.size = 0) || gs.any (fits K))
      rw [decide_eq_false hK0, Bool.false_or]
      rfl
    clear HM one hks HK6 HSk HL hl
    go_wp2
    go_loopg [9] mg (fun k s9 wx => ∃ i : Nat, s9 = .int .i64 (i : Int) ∧ i ≤ mg ∧ k + i = mg ∧ Hid ((gs.drop i).any (fits K) = R) ∧ Hid (Below W.heap.size W wx) ∧ Hid (∀ i (h : i < gs.length), wx.cell? ⟨g2, i, none⟩ = some (.string gs[i])))
    case atStart => exact ⟨0, rfl, by omega, by omega, HR, HB6, HG6⟩
    case round =>
      clear HB6 HG6 HR
      obtain ⟨i, rfl, hi, hg, HI, HBr, HGr⟩ := hrel
      by_cases hlt : i < mg
      · have hlx : i < gs.length := by have := HLg.out; omega
        obtain ⟨u, hu⟩ : ∃ u, gs[i] = u := ⟨_, rfl⟩
        have cl : wr.cell? ⟨g2, i, none⟩ = some (.string u) := by have h0 := HGr.out i hlx; rw [hu] at h0; exact h0
        have cG := rglob_fits wr K u hK (HSv.out u (by rw [← hu]; exact List.getElem_mem hlx))
        have HI2 : Hid ((fits K u || (gs.drop (i + 1)).any (fits K)) = R) := by
          have := HI.out
          rw [List.drop_eq_getElem_cons hlx, List.any_cons, hu] at this
          exact this
        clear HI hlx hu
        cases hz : fits K u with
        | true =>
          rw [hz] at cG
          have e : Hid (true = R) := by have := HI2.out; rw [hz, Bool.true_or] at this; exact this
          clear HI2 hz
          go_wp2_with (go_at_call 52; refine Stop.mk ?_)
          refine Stop.out (cG.mono ?_)
          rintro e2 W9 ⟨rfl, hb9⟩
          have HB9 : Hid (Below W.heap.size W W9) := HBr.out.trans (hb9.mono HBr.out.size)
          clear hb9 cG
          go_wp2
          go_ret
          exact ⟨by rw [← e.out]; rfl, HB9.out⟩
        | false =>
          rw [hz] at cG
          have HI3 : Hid ((gs.drop (i + 1)).any (fits K) = R) := by have := HI2.out; rw [hz, Bool.false_or] at this; exact this
          clear HI2 hz
          go_wp2_with (go_at_call 52; refine Stop.mk ?_)
          refine Stop.out (cG.mono ?_)
          rintro e2 W9 ⟨rfl, hb9⟩
          have HB9 : Hid (Below W.heap.size W W9) := HBr.out.trans (hb9.mono HBr.out.size)
          have HG9 : Hid (∀ i (h : i < gs.length), W9.cell? ⟨g2, i, none⟩ = some (.string gs[i])) := fun j h => (hb9.cell (cell_lt (HGr.out j h))).trans (HGr.out j h)
          clear hb9 cG HBr HGr
          go_wp2
          go_roundg (mg - (i + 1))
          case measure => omega
          case rel => exact ⟨i + 1, by simp, by omega, by omega, HI3, HB9, HG9⟩
      · have e : Hid (false = R) := by
          have := HI.out
          rw [List.drop_eq_nil_of_le (by have := HLg.out; omega)] at this
          exact this
        clear HI
        go_wp2
        go_ret
        exact ⟨by rw [← e.out]; rfl, HBr.out⟩
  · have hnI : ((n : Int) == 1) = false := by simp; omega
    have HR : Hid (arG gs (ks.drop 0) 0 = R) := by
      show _ = _
      rw [HM.out, if_neg (by rw [hl]; exact hn1)]
      rfl
    have HSg : Hid (∀ i, (gs.getD i ⟨#[]⟩).size ≤ 2097152) := fun i => by
      rw [List.getD_eq_getElem?_getD]
      cases hi : gs[i]? with
      | none => show (⟨#[]⟩ : ByteArray).size ≤ _; decide
      | some x => exact HSv.out x (List.mem_of_getElem? hi)
    clear HM one hl HSv
    go_wp2
    go_loopg [10] n (fun k s10 wx => ∃ i : Nat, s10 = .int .i64 (i : Int) ∧ i ≤ n ∧ k + i = n ∧ Hid (arG gs (ks.drop i) i = R) ∧ Hid (Below W.heap.size W wx) ∧ Hid (∀ i (h : i < ks.length), wx.cell? ⟨g1, i, none⟩ = some (.string ks[i])) ∧ Hid (∀ i (h : i < gs.length), wx.cell? ⟨g2, i, none⟩ = some (.string gs[i])))
    case atStart => exact ⟨0, rfl, by omega, by omega, HR, HB6, HK6, HG6⟩
    case round =>
      clear HB6 HG6 HK6 HR
      obtain ⟨i, rfl, hi, hg, HI, HBr, HKr, HGr⟩ := hrel
      by_cases hlt : i < n
      · have hlx : i < ks.length := by have := HL.out; omega
        obtain ⟨u, hu⟩ : ∃ u, ks[i] = u := ⟨_, rfl⟩
        have cl : wr.cell? ⟨g1, i, none⟩ = some (.string u) := by have h0 := HKr.out i hlx; rw [hu] at h0; exact h0
        obtain ⟨x, hx⟩ : ∃ x, gs.getD i ⟨#[]⟩ = x := ⟨_, rfl⟩
        have HX : Hid (gs.getD i ⟨#[]⟩ = x) := hx
        have cG := rglob_fits wr u x (HSk.out u (by rw [← hu]; exact List.getElem_mem hlx)) (by rw [← hx]; exact HSg.out i)
        have HI2 : Hid (((decide (u.size = 0) || fits u x) && arG gs (ks.drop (i + 1)) (i + 1)) = R) := by
          have := HI.out
          rw [List.drop_eq_getElem_cons hlx, arG, hu, hx] at this
          exact this
        clear HI hlx hu hx
        by_cases hj : i < mg
        · have clx : wr.cell? ⟨g2, i, none⟩ = some (.string x) := by
            have h0 := HGr.out i (by have := HLg.out; omega)
            have e : gs[i]'(by have := HLg.out; omega) = x := by rw [← HX.out]; rw [List.getD_eq_getElem?_getD, List.getElem?_eq_getElem (by have := HLg.out; omega)]; rfl
            rw [e] at h0
            exact h0
          have hjI : (i : Int) < (mg : Int) := by omega
          clear HX
          by_cases h0 : u.size = 0
          · obtain rfl : u = ⟨#[]⟩ := ByteArray.ext (Array.eq_empty_of_size_eq_zero h0)
            have HI3 : Hid (arG gs (ks.drop (i + 1)) (i + 1) = R) := by have := HI2.out; rw [decide_eq_true h0, Bool.true_or, Bool.true_and] at this; exact this
            clear HI2 h0 cG
            go_wp2
            go_roundg (n - (i + 1))
            case measure => omega
            case rel => exact ⟨i + 1, by simp, by omega, by omega, HI3, HBr, HKr, HGr⟩
          · have hke := text_some h0
            cases hz : fits u x with
            | true =>
              rw [hz] at cG
              have HI3 : Hid (arG gs (ks.drop (i + 1)) (i + 1) = R) := by have := HI2.out; rw [hz, Bool.or_true, Bool.true_and] at this; exact this
              clear HI2 hz
              go_wp2_with (go_at_call 52; refine Stop.mk ?_)
              refine Stop.out (cG.mono ?_)
              rintro e2 W2 ⟨rfl, hb2⟩
              have HB2 : Hid (Below W.heap.size W W2) := HBr.out.trans (hb2.mono HBr.out.size)
              have HK2 : Hid (∀ i (h : i < ks.length), W2.cell? ⟨g1, i, none⟩ = some (.string ks[i])) := fun j h => (hb2.cell (cell_lt (HKr.out j h))).trans (HKr.out j h)
              have HG2 : Hid (∀ i (h : i < gs.length), W2.cell? ⟨g2, i, none⟩ = some (.string gs[i])) := fun j h => (hb2.cell (cell_lt (HGr.out j h))).trans (HGr.out j h)
              clear hb2 cG HBr HKr HGr
              go_wp2
              go_roundg (n - (i + 1))
              case measure => omega
              case rel => exact ⟨i + 1, by simp, by omega, by omega, HI3, HB2, HK2, HG2⟩
            | false =>
              rw [hz] at cG
              have e : Hid (false = R) := by have := HI2.out; rw [hz, decide_eq_false h0, Bool.or_false, Bool.false_and] at this; exact this
              clear HI2 hz
              go_wp2_with (go_at_call 52; refine Stop.mk ?_)
              refine Stop.out (cG.mono ?_)
              rintro e2 W2 ⟨rfl, hb2⟩
              have HB2 : Hid (Below W.heap.size W W2) := HBr.out.trans (hb2.mono HBr.out.size)
              clear hb2 cG
              go_wp2
              go_ret
              exact ⟨by rw [← e.out]; rfl, HB2.out⟩
        · obtain rfl : x = ⟨#[]⟩ := by rw [← HX.out]; rw [List.getD_eq_getElem?_getD, List.getElem?_eq_none (by have := HLg.out; omega)]; rfl
          have hjI : ¬ ((i : Int) < (mg : Int)) := by omega
          clear HX
          by_cases h0 : u.size = 0
          · obtain rfl : u = ⟨#[]⟩ := ByteArray.ext (Array.eq_empty_of_size_eq_zero h0)
            have HI3 : Hid (arG gs (ks.drop (i + 1)) (i + 1) = R) := by have := HI2.out; rw [decide_eq_true h0, Bool.true_or, Bool.true_and] at this; exact this
            clear HI2 h0 cG
            go_wp2
            go_roundg (n - (i + 1))
            case measure => omega
            case rel => exact ⟨i + 1, by simp, by omega, by omega, HI3, HBr, HKr, HGr⟩
          · have hke := text_some h0
            cases hz : fits u ⟨#[]⟩ with
            | true =>
              rw [hz] at cG
              have HI3 : Hid (arG gs (ks.drop (i + 1)) (i + 1) = R) := by have := HI2.out; rw [hz, Bool.or_true, Bool.true_and] at this; exact this
              clear HI2 hz
              go_wp2_with (go_at_call 52; refine Stop.mk ?_)
              refine Stop.out (cG.mono ?_)
              rintro e2 W2 ⟨rfl, hb2⟩
              have HB2 : Hid (Below W.heap.size W W2) := HBr.out.trans (hb2.mono HBr.out.size)
              have HK2 : Hid (∀ i (h : i < ks.length), W2.cell? ⟨g1, i, none⟩ = some (.string ks[i])) := fun j h => (hb2.cell (cell_lt (HKr.out j h))).trans (HKr.out j h)
              have HG2 : Hid (∀ i (h : i < gs.length), W2.cell? ⟨g2, i, none⟩ = some (.string gs[i])) := fun j h => (hb2.cell (cell_lt (HGr.out j h))).trans (HGr.out j h)
              clear hb2 cG HBr HKr HGr
              go_wp2
              go_roundg (n - (i + 1))
              case measure => omega
              case rel => exact ⟨i + 1, by simp, by omega, by omega, HI3, HB2, HK2, HG2⟩
            | false =>
              rw [hz] at cG
              have e : Hid (false = R) := by have := HI2.out; rw [hz, decide_eq_false h0, Bool.or_false, Bool.false_and] at this; exact this
              clear HI2 hz
              go_wp2_with (go_at_call 52; refine Stop.mk ?_)
              refine Stop.out (cG.mono ?_)
              rintro e2 W2 ⟨rfl, hb2⟩
              have HB2 : Hid (Below W.heap.size W W2) := HBr.out.trans (hb2.mono HBr.out.size)
              clear hb2 cG
              go_wp2
              go_ret
              exact ⟨by rw [← e.out]; rfl, HB2.out⟩
      · have e : Hid (true = R) := by
          have := HI.out
          rw [List.drop_eq_nil_of_le (by have := HL.out; omega), arG] at this
          exact this
        clear HI
        go_wp2
        go_ret
        exact ⟨by rw [← e.out]; rfl, HBr.out⟩
end Go.Proofs.YtehgeninocbpeaaGreatDoor.Tm

namespace Go.Proofs.YtehgeninocbpeaaGreatDoor.Tm
open Go Go.Proofs Go.RowKit
def f3 (y m d : Int) : Nat → Value := fun k => if k = 0 then .int .i64 y else if k = 1 then .int .i64 m else .int .i64 d
structure M2 (w wx : World) : Prop where
  r : wx.rowIs w.heap.size 118 3 (f3 0 0 0)
  e : wx.rowIs (w.heap.size + 1) 35 2 fN
  b : Below w.heap.size w wx
theorem M2.on {w wx wy : World} (h : M2 w wx) (hb : Below wx.heap.size wx wy) : M2 w wy :=
  ⟨row_on h.r hb, row_on h.e hb, h.b.trans (hb.mono h.b.size)⟩
theorem M2.start (w : World) : M2 w ((w.alloc (.cells #[.int .i64 0, .int .i64 0, .int .i64 0] 118)).alloc (.cells #[.slice none 0 0, .int .i64 0] 35)) := by
  refine ⟨?_, ?_, ?_⟩
  · exact (World.rowIs_alloc w _ 118 _ (fun i hi => by
      rcases (by simp at hi; omega : i = 0 ∨ i = 1 ∨ i = 2) with rfl | rfl | rfl <;> rfl)).alloc _
  · have := World.rowIs_alloc (w.alloc (.cells #[.int .i64 0, .int .i64 0, .int .i64 0] 118)) #[.slice none 0 0, .int .i64 0] 35 fN (fun i hi => by
      rcases (by simp at hi; omega : i = 0 ∨ i = 1) with rfl | rfl <;> rfl)
    simpa using this
  · exact (((Below.refl _ _).alloc (Nat.le_refl _) _).alloc (by simp) _)
theorem M2.facts {w wx : World} (h : M2 w wx) : wx.cell? ⟨w.heap.size, 0, none⟩ = some (.int .i64 0) ∧ wx.cell? ⟨w.heap.size, 1, none⟩ = some (.int .i64 0) ∧ wx.cell? ⟨w.heap.size, 2, none⟩ = some (.int .i64 0) ∧ (∀ i, wx.frozen? ⟨w.heap.size, i, none⟩ = false) ∧ wx.cell? ⟨w.heap.size + 1, 0, none⟩ = some (.slice none 0 0) ∧ wx.cell? ⟨w.heap.size + 1, 1, none⟩ = some (.int .i64 0) ∧ (∀ i, wx.frozen? ⟨w.heap.size + 1, i, none⟩ = false) :=
  ⟨h.r.cell (i := 0) (by omega), h.r.cell (i := 1) (by omega), h.r.cell (i := 2) (by omega), fun i => h.r.frozen i, h.e.cell (i := 0) (by omega), h.e.cell (i := 1) (by omega), fun i => h.e.frozen i⟩
def stored (w W : World) (y m d : Int) (a b : Value) : World := ((((W.setCell ⟨w.heap.size, 0, none⟩ (.int .i64 y)).setCell ⟨w.heap.size, 1, none⟩ (.int .i64 m)).setCell ⟨w.heap.size, 2, none⟩ (.int .i64 d)).setCell ⟨w.heap.size + 1, 0, none⟩ a).setCell ⟨w.heap.size + 1, 1, none⟩ b
theorem stored_below {w W : World} (h : Below w.heap.size w W) (y m d : Int) (a b : Value) : Below w.heap.size w (stored w W y m d a b) :=
  ((((h.setCell (p := ⟨w.heap.size, 0, none⟩) (Nat.le_refl _) _).setCell (p := ⟨w.heap.size, 1, none⟩) (Nat.le_refl _) _).setCell (p := ⟨w.heap.size, 2, none⟩) (Nat.le_refl _) _).setCell (p := ⟨w.heap.size + 1, 0, none⟩) (Nat.le_succ _) _).setCell (p := ⟨w.heap.size + 1, 1, none⟩) (Nat.le_succ _) _
theorem stored_err {w W : World} {v : Value} {o : Option (Int × Int)} (h : M2 w W) (hv : RErr W v o) (y m d : Int) (a b : Value) : RErr (stored w W y m d a b) v o := by
  obtain ⟨r0, _, _, _, s0, _, _⟩ := h.facts
  cases o with
  | none => exact hv
  | some x =>
    obtain ⟨g, k, rfl, h0, h1⟩ := hv
    have n1 : w.heap.size ≠ g := fun e => by rw [← e, r0] at h0; cases h0
    have n2 : w.heap.size + 1 ≠ g := fun e => by rw [← e, s0] at h0; cases h0
    exact ⟨g, k, rfl, (cell_set_off n2).trans ((cell_set_off n2).trans ((cell_set_off n1).trans ((cell_set_off n1).trans ((cell_set_off n1).trans h0)))), (cell_set_off n2).trans ((cell_set_off n2).trans ((cell_set_off n1).trans ((cell_set_off n1).trans ((cell_set_off n1).trans h1))))⟩
end Go.Proofs.YtehgeninocbpeaaGreatDoor.Tm

namespace Go.Proofs.YtehgeninocbpeaaGreatDoor.Tm
open Go Go.Proofs Go.RowKit
theorem isDigit64_any (w : World) (b : Nat) : Calls Tryz.prog 93 #[.int .u8 (b : Int)] w fun e w' => e = .returned (.bool (decide (48 ≤ b) && decide (b ≤ 57))) ∧ w = w' := by
  by_cases h1 : 48 ≤ b
  · have a1 : (48 : Int) ≤ (b : Int) := by omega
    by_cases h2 : b ≤ 57
    · have a2 : (b : Int) ≤ 57 := by omega
      rw [decide_eq_true h1, decide_eq_true h2]
      go_enter Tryz.func93, Tryz.ntmps93
      go_wp2
      go_ret
      exact ⟨rfl, rfl⟩
    · have a2 : decide ((b : Int) ≤ 57) = false := by simp; omega
      rw [decide_eq_true h1, decide_eq_false h2]
      go_enter Tryz.func93, Tryz.ntmps93
      go_wp2
      go_ret
      exact ⟨rfl, rfl⟩
  · have a1 : decide ((48 : Int) ≤ (b : Int)) = false := by simp; omega
    rw [decide_eq_false h1, Bool.false_and]
    go_enter Tryz.func93, Tryz.ntmps93
    go_wp2
    go_ret
    exact ⟨rfl, rfl⟩
set_option maxRecDepth 100000 in
set_option maxHeartbeats 1000000 in
theorem digits31_any (w : World) (s : ByteArray) (a most : Nat) (ha : a ≤ s.size) (hs : s.size ≤ 140737488351232) (hm : most ≤ 100) :
    Calls Tryz.prog 56 #[.string s, .int .i64 (a : Int), .int .i64 (most : Int)] w fun e w' => e = .returned (.int .i64 (cnt s a most : Nat)) ∧ w = w' := by
  obtain ⟨E, hE⟩ : ∃ E, cnt s a most = E := ⟨_, rfl⟩
  have HE0 : Hid (0 + cnt s (a + 0) (most - 0) = E) := by show _ = _; simpa using hE
  rw [hE]
  clear hE
  go_enter Tryz.func56, Tryz.ntmps56
  go_wp2
  go_loopg [7] most (fun g s7 wx => ∃ n : Nat, s7 = .int .i64 (n : Int) ∧ g + n = most ∧ a + n ≤ s.size ∧ Hid (n + cnt s (a + n) (most - n) = E) ∧ w = wx)
  case atStart => exact ⟨0, rfl, by omega, by omega, HE0, rfl⟩
  case round =>
    clear HE0
    obtain ⟨n, rfl, hg, han, HE, rfl⟩ := hrel
    by_cases hn : n < most
    · have hnI : decide ((n : Int) < (most : Int)) = true := by simp; omega
      have hnI2 : decide (n < most) = true := by simp; omega
      have h1 := HE.out
      rw [show most - n = (most - (n + 1)) + 1 by omega, cnt] at h1
      by_cases hl : a + n < s.size
      · have hlI : (a : Int) + (n : Int) < (s.size : Int) := by omega
        have hlI2 : decide ((a : Int) + (n : Int) < (s.size : Int)) = true := by simp; omega
        have hlI3 : decide (a + n < s.size) = true := by simp; omega
        obtain ⟨c, hc⟩ : ∃ c, s[a + n].toNat = c := ⟨_, rfl⟩
        have cD := fun W => isDigit64_any W c
        have eD : isD s (a + n) = (decide (48 ≤ c) && decide (c ≤ 57)) := by
          unfold isD
          rw [← get_get! s (a + n) hl, hc, decide_eq_true hl, Bool.true_and]
        rw [← eD] at cD
        cases hD : isD s (a + n) with
        | true =>
          rw [hD] at h1 cD
          rw [if_pos rfl] at h1
          have HE2 : Hid (n + 1 + cnt s (a + (n + 1)) (most - (n + 1)) = E) := by show _ = _; rw [← h1, ← Nat.add_assoc a n 1]; omega
          clear h1 HE eD hD
          go_wp2_with (first | (go_at_call 93; refine (cD _).mono ?_; rintro e w' ⟨rfl, rfl⟩))
          go_roundg (most - (n + 1))
          case measure => omega
          case rel => exact ⟨n + 1, by first | rfl | simp, by omega, by omega, HE2, rfl⟩
        | false =>
          rw [hD] at h1 cD
          rw [if_neg (by simp)] at h1
          obtain rfl : n = E := by omega
          clear h1 HE eD hD
          go_wp2_with (first | (go_at_call 93; refine (cD _).mono ?_; rintro e w' ⟨rfl, rfl⟩))
          go_ret
          exact ⟨rfl, rfl⟩
      · have hlI : decide ((a : Int) + (n : Int) < (s.size : Int)) = false := by simp; omega
        have hlI3 : decide (a + n < s.size) = false := by simp; omega
        have hD : isD s (a + n) = false := by unfold isD; rw [decide_eq_false hl, Bool.false_and]
        rw [hD, if_neg (by simp)] at h1
        obtain rfl : n = E := by omega
        clear h1 HE hD
        go_wp2
        go_ret
        exact ⟨rfl, rfl⟩
    · obtain rfl : n = most := by omega
      have hnI : decide ((n : Int) < (n : Int)) = false := by simp
      have h1 := HE.out
      rw [Nat.sub_self, cnt] at h1
      obtain rfl : n = E := by omega
      clear h1 HE
      go_wp2
      go_ret
      exact ⟨rfl, rfl⟩
set_option maxRecDepth 100000 in
set_option maxHeartbeats 1000000 in
theorem number47_any (w : World) (u : ByteArray) (hu : Digs u) (h8 : u.size ≤ 8) :
    Calls Tryz.prog 57 #[.string u] w fun e w' => e = .returned (.int .i64 (val u.data.toList : Nat)) ∧ w = w' := by
  have HE0 : Hid (valN (u.data.toList.drop 0) 0 = val u.data.toList) := rfl
  have HU : Hid (Digs u) := hu
  generalize val u.data.toList = E at *
  clear hu
  go_enter Tryz.func57, Tryz.ntmps57
  go_wp2
  go_loopg [3, 4] u.size (fun g s3 s4 wx => ∃ pos n : Nat, s3 = .int .i64 (n : Int) ∧ s4 = .int .i64 (pos : Int) ∧ g + pos = u.size ∧ n ≤ 99999999 ∧ Hid (n < 10 ^ pos) ∧ Hid (valN (u.data.toList.drop pos) n = E) ∧ w = wx)
  case atStart => exact ⟨0, 0, rfl, rfl, by omega, by omega, by show 0 < 10 ^ 0; omega, HE0, rfl⟩
  case round =>
    clear HE0
    obtain ⟨pos, n, rfl, rfl, hg, hn8, HN, HE, rfl⟩ := hrel
    by_cases hp : pos < u.size
    · have hd := HU.out u[pos] (by
        have h2 : pos < u.data.size := hp
        have : u[pos] = u.data[pos] := rfl
        rw [this]
        exact Array.getElem_mem_toList h2)
      have h1 := HE.out
      rw [drop_byte hp, valN] at h1
      obtain ⟨c, hc⟩ : ∃ c, u[pos].toNat = c := ⟨_, rfl⟩
      rw [hc] at hd h1
      have HN2 : Hid (10 * n + (c - 48) < 10 ^ (pos + 1)) := by
        have := HN.out
        show _ < _
        rw [Nat.pow_succ]
        omega
      have hN8 : 10 * n + (c - 48) ≤ 99999999 := by
        have h2 := HN2.out
        have h3 : 10 ^ (pos + 1) ≤ 10 ^ 8 := Nat.pow_le_pow_right (by omega) (by omega)
        omega
      have HE2 : Hid (valN (u.data.toList.drop (pos + 1)) (10 * n + (c - 48)) = E) := h1
      obtain ⟨d, hdd⟩ : ∃ d, c - 48 = d := ⟨_, rfl⟩
      rw [hdd] at HE2 HN2 hN8
      have hcd : (c : Int) - 48 = (d : Int) := by omega
      have hd9 : d ≤ 9 := by omega
      have hc57 : c ≤ 57 := by omega
      have hpI : (pos : Int) < (u.size : Int) := by omega
      clear h1 hdd hd HE HN
      go_wp2
      go_roundg (u.size - (pos + 1))
      case measure => omega
      case rel => exact ⟨pos + 1, 10 * n + d, by first | rfl | (simp; omega), by first | rfl | simp, by omega, hN8, HN2, HE2, rfl⟩
    · have hpI : ¬ ((pos : Int) < (u.size : Int)) := by omega
      have hE : n = E := by
        have h1 := HE.out
        rw [List.drop_eq_nil_of_le (by rw [Array.length_toList]; show u.size ≤ _; omega)] at h1
        exact h1
      subst hE
      clear HE
      go_wp2
      go_ret
      exact ⟨rfl, rfl⟩
end Go.Proofs.YtehgeninocbpeaaGreatDoor.Tm
