import Derived.Test.YtehgeninocbpeaaGreatDoorMa
namespace Go.Proofs.YtehgeninocbpeaaGreatDoor.Tm
open Go Go.Proofs Go.RowKit
theorem eqB_comm (u k : ByteArray) : eqB u k = eqB k u := by
  unfold eqB
  rw [Bool.eq_iff_iff, decide_eq_true_eq, decide_eq_true_eq]
  exact eq_comm
set_option maxRecDepth 100000 in
set_option maxHeartbeats 2000000 in
theorem index67 (W : World) (g cap : Nat) (xs : List ByteArray) (hn : xs.length ≤ 1000000000000) (cells : ∀ i (h : i < xs.length), W.cell? ⟨g, i, none⟩ = some (.string xs[i])) (v : ByteArray) :
    Calls Tryz.prog 67 #[.slice (some ⟨g, 0, none⟩) xs.length cap, .string v] W fun e w' => e = .returned (.int .i64 (fdx (fun x => eqB v x) xs 0)) ∧ Below W.heap.size W w' := by
  obtain ⟨R, hR⟩ : ∃ R, fdx (fun x => eqB v x) xs 0 = R := ⟨_, rfl⟩
  have HR : Hid (fdx (fun x => eqB v x) (xs.drop 0) 0 = R) := hR
  rw [hR]
  obtain ⟨n, hl⟩ : ∃ n, xs.length = n := ⟨_, rfl⟩
  have HL : Hid (xs.length = n) := hl
  have HCe : Hid (∀ i (h : i < xs.length), W.cell? ⟨g, i, none⟩ = some (.string xs[i])) := cells
  rw [hl] at hn ⊢
  clear hR cells hl
  go_enter Tryz.func67, Tryz.ntmps67
  go_wp2
  go_loopg [8] n (fun k s8 wx => ∃ i : Nat, s8 = .int .i64 (i : Int) ∧ i ≤ n ∧ k + i = n ∧ Hid (fdx (fun x => eqB v x) (xs.drop i) i = R) ∧ Hid (Below W.heap.size W wx))
  case atStart => exact ⟨0, rfl, by omega, by omega, HR, Below.refl _ _⟩
  case round =>
    obtain ⟨i, rfl, hi, hg, HI, HB⟩ := hrel
    by_cases hlt : i < n
    · have hlx : i < xs.length := by have := HL.out; omega
      obtain ⟨u, hu⟩ : ∃ u, xs[i] = u := ⟨_, rfl⟩
      have cl : wr.cell? ⟨g, i, none⟩ = some (.string u) := by
        have h0 := HCe.out i hlx
        rw [hu] at h0
        exact (HB.out.cell (cell_lt h0)).trans h0
      have HI2 : Hid ((if eqB v u = true then (i : Int) else fdx (fun x => eqB v x) (xs.drop (i + 1)) (i + 1)) = R) := by
        have := HI.out
        rw [List.drop_eq_getElem_cons hlx, fdx, hu] at this
        exact this
      clear HI hlx hu
      cases hm : eqB v u with
      | true =>
        have hm2 : (v.toList == u.toList) = true := (eqB_of v u).trans hm
        have e : Hid ((i : Int) = R) := by have := HI2.out; rw [if_pos hm] at this; exact this
        clear HI2 hm
        go_wp2
        go_ret
        exact ⟨by rw [← e.out]; rfl, HB.out⟩
      | false =>
        have hm2 : (v.toList == u.toList) = false := (eqB_of v u).trans hm
        have HI3 : Hid (fdx (fun x => eqB v x) (xs.drop (i + 1)) (i + 1) = R) := by have := HI2.out; rw [if_neg (by rw [hm]; simp)] at this; exact this
        clear HI2 hm
        go_wp2
        go_roundg (n - (i + 1))
        case measure => omega
        case rel => exact ⟨i + 1, by simp, by omega, by omega, HI3, HB⟩
    · have e : Hid ((-1 : Int) = R) := by
        have := HI.out
        rw [List.drop_eq_nil_of_le (by have := HL.out; omega), fdx] at this
        exact this
      clear HI
      go_wp2
      go_ret
      exact ⟨by rw [← e.out]; rfl, HB.out⟩
set_option maxRecDepth 100000 in
theorem contains40 (W : World) (g cap : Nat) (xs : List ByteArray) (hn : xs.length ≤ 1000000000000) (cells : ∀ i (h : i < xs.length), W.cell? ⟨g, i, none⟩ = some (.string xs[i])) (v : ByteArray) :
    Calls Tryz.prog 40 #[.slice (some ⟨g, 0, none⟩) xs.length cap, .string v] W (BoolP W (xs.any (fun x => eqB v x))) := by
  have c := index67 W g cap xs hn cells v
  have e := fdx_any (fun x => eqB v x) xs 0
  have b := fdx_le (fun x => eqB v x) xs 0
  rw [← e]
  generalize fdx (fun x => eqB v x) xs 0 = R at *
  clear cells e
  generalize xs.length = n at *
  go_enter Tryz.func40, Tryz.ntmps40
  go_wp2_with (go_at_call 67; refine Stop.mk ?_)
  refine Stop.out (c.mono ?_)
  rintro e W1 ⟨rfl, hb⟩
  go_wp2
  go_ret
  exact ⟨rfl, hb⟩
theorem clos39 (W : World) (p : Nat) (key u : ByteArray) (hp : W.cell? ⟨p, 0, none⟩ = some (.string key)) (hk : key.size ≤ 2097152) : Calls Tryz.prog 39 #[.string u, ptr p] W (BoolP W ((Sp.spB key).any (fun x => eqB u x))) := by
  have cS := fun W => Sp.str_split key W (by omega)
  have hlen := Sp.spB_len key
  generalize Sp.spB key = xs at *
  obtain ⟨Z, hZ⟩ : ∃ Z, xs.any (fun x => eqB u x) = Z := ⟨_, rfl⟩
  have HZ : Hid (xs.any (fun x => eqB u x) = Z) := hZ
  rw [hZ]
  clear hZ
  unfold ptr
  go_enter Tryz.func39, Tryz.ntmps39
  go_wp2_with (go_at_call 20; refine Stop.mk ?_)
  refine Stop.out ((cS W).mono ?_)
  rintro e W3 ⟨rfl, hw3⟩
  have hb3 : Below W.heap.size W W3 := hw3 ▸ (Below.refl _ _).alloc (Nat.le_refl _) _
  have cc := contains40 W3 W.heap.size xs.length xs (by omega) (cells_of hw3) u
  rw [HZ.out] at cc
  clear HZ
  have HB3 : Hid (Below W.heap.size W W3) := hb3
  clear hb3 cS hw3
  generalize xs.length = n at *
  go_wp2_with (go_at_call 40; refine Stop.mk ?_)
  refine Stop.out (cc.mono ?_)
  rintro e W4 ⟨rfl, hb4⟩
  have HB4 : Hid (Below W.heap.size W W4) := HB3.out.trans (hb4.mono HB3.out.size)
  clear hb4 cc HB3
  go_wp2
  go_ret
  exact ⟨rfl, HB4.out⟩
theorem matcher_list (w : World) (vr : Int) (hv : rB vr = 4) (key : ByteArray) (hk0 : key.size ≠ 0) (hR : Rt w) : Calls Tryz.prog 17 #[.int .i64 vr, .string key] w fun e w' => ∃ p, e = .returned (.tuple #[.func (.func 39) #[] #[ptr p], .nilIface]) ∧ w'.cell? ⟨p, 0, none⟩ = some (.string key) ∧ Below w.heap.size w w' := by
  obtain ⟨W0, hW0⟩ : ∃ W0, w.alloc (.cells #[.string key] 9) = W0 := ⟨_, rfl⟩
  have hb0 : Below w.heap.size w W0 := hW0 ▸ (Below.refl _ _).alloc (Nat.le_refl _) _
  have c0 : W0.cell? ⟨w.heap.size, 0, none⟩ = some (.string key) := by rw [← hW0]; simp
  have cR := ruleOf_any W0 vr (hR.on hb0)
  rw [hv] at cR
  have HB : Hid (Below w.heap.size w W0) := hb0
  have hke := text_some hk0
  clear hR hb0 hk0 hv
  go_enter Tryz.func17, Tryz.ntmps17
  go_wp2_with (go_at_call 18; refine Stop.mk ?_)
  refine Stop.out (cR.mono ?_)
  rintro e W1 ⟨rfl, hb⟩
  have hf := field0 W1 4 (rC vr)
  have c1 : Hid (W1.cell? ⟨w.heap.size, 0, none⟩ = some (.string key)) := (hb.cell (cell_lt c0)).trans c0
  have HB1 : Hid (Below w.heap.size w W1) := HB.out.trans (hb.mono HB.out.size)
  clear cR hb HB c0 hW0
  go_wp2
  refine bodyPost_ret (v := .tuple #[.func (.func 39) #[] #[ptr w.heap.size], .nilIface]) (by simp [results, Tryz.results17, go_sem, ptr]) rfl ⟨_, rfl, c1.out, HB1.out⟩
set_option maxRecDepth 100000 in
set_option maxHeartbeats 2000000 in
theorem match_pat0 (w : World) (vr : Int) (hv : rB vr = 3) (hv2 : rC vr = false) (key v : ByteArray) (hk : key.size ≤ 2097152) (hk0 : key.size ≠ 0) (hvs : v.size ≤ 2097152) (hR : Rt w) : Calls Tryz.prog 6 #[.int .i64 vr, .string key, .string v] w (PostR w (.bool (fits key v)) none) := by
  have cM := matcher_pat w vr hv key hk0 hR
  have cR := fun W h => ruleOf_any W vr h
  rw [hv2] at cR
  have cC := fun W p (h : W.cell? ⟨p, 0, none⟩ = some (.string key)) => clos38 W p key v h hk hvs
  generalize fits key v = Z at *
  have HR : Hid (Rt w) := hR
  clear hR hk hk0 hv hv2
  go_enter Tryz.func6, Tryz.ntmps6
  go_wp2_with (go_at_call 17; refine Stop.mk ?_)
  refine Stop.out (cM.mono ?_)
  rintro e W1 ⟨p, rfl, hp, hb1⟩
  have HB1 : Hid (Below w.heap.size w W1) := hb1
  have HK : Hid (W1.cell? ⟨p, 0, none⟩ = some (.string key)) := hp
  have cr := cR W1 (HR.out.on hb1)
  clear hb1 cM cR HR hp
  unfold ptr
  go_wp2_with (go_at_call 18; refine Stop.mk ?_)
  refine Stop.out (cr.mono ?_)
  rintro e W2 ⟨rfl, hb2⟩
  have hf := field1 W2 (rB vr) false
  have HB2 : Hid (Below w.heap.size w W2) := HB1.out.trans (hb2.mono HB1.out.size)
  have cc := cC W2 p ((hb2.cell (cell_lt HK.out)).trans HK.out)
  unfold ptr at cc
  clear HB1 HK hb2 cr cC
  go_wp2_with (go_at_call 38; refine Stop.mk ?_)
  refine Stop.out (cc.mono ?_)
  rintro e W4 ⟨rfl, hb4⟩
  have HB4 : Hid (Below w.heap.size w W4) := HB2.out.trans (hb4.mono HB2.out.size)
  clear hb4 cc HB2
  go_wp2
  refine bodyPost_ret (v := .tuple #[.bool Z, .nilIface]) (by simp [results, Tryz.results6, go_sem]) rfl ⟨_, rfl, rfl, HB4.out⟩
set_option maxRecDepth 100000 in
set_option maxHeartbeats 2000000 in
theorem match_list (w : World) (vr : Int) (hv : rB vr = 4) (hv2 : rC vr = false) (key v : ByteArray) (hk : key.size ≤ 2097152) (hk0 : key.size ≠ 0) (hR : Rt w) : Calls Tryz.prog 6 #[.int .i64 vr, .string key, .string v] w (PostR w (.bool ((Sp.spB key).any (fun x => eqB v x))) none) := by
  have cM := matcher_list w vr hv key hk0 hR
  have cR := fun W h => ruleOf_any W vr h
  rw [hv2] at cR
  have cC := fun W p (h : W.cell? ⟨p, 0, none⟩ = some (.string key)) => clos39 W p key v h hk
  generalize (Sp.spB key).any (fun x => eqB v x) = Z at *
  have HR : Hid (Rt w) := hR
  clear hR hk hk0 hv hv2
  go_enter Tryz.func6, Tryz.ntmps6
  go_wp2_with (go_at_call 17; refine Stop.mk ?_)
  refine Stop.out (cM.mono ?_)
  rintro e W1 ⟨p, rfl, hp, hb1⟩
  have HB1 : Hid (Below w.heap.size w W1) := hb1
  have HK : Hid (W1.cell? ⟨p, 0, none⟩ = some (.string key)) := hp
  have cr := cR W1 (HR.out.on hb1)
  clear hb1 cM cR HR hp
  unfold ptr
  go_wp2_with (go_at_call 18; refine Stop.mk ?_)
  refine Stop.out (cr.mono ?_)
  rintro e W2 ⟨rfl, hb2⟩
  have hf := field1 W2 (rB vr) false
  have HB2 : Hid (Below w.heap.size w W2) := HB1.out.trans (hb2.mono HB1.out.size)
  have cc := cC W2 p ((hb2.cell (cell_lt HK.out)).trans HK.out)
  unfold ptr at cc
  clear HB1 HK hb2 cr cC
  go_wp2_with (go_at_call 39; refine Stop.mk ?_)
  refine Stop.out (cc.mono ?_)
  rintro e W4 ⟨rfl, hb4⟩
  have HB4 : Hid (Below w.heap.size w W4) := HB2.out.trans (hb4.mono HB2.out.size)
  clear hb4 cc HB2
  go_wp2
  refine bodyPost_ret (v := .tuple #[.bool Z, .nilIface]) (by simp [results, Tryz.results6, go_sem]) rfl ⟨_, rfl, rfl, HB4.out⟩
theorem matcher_list' (w : World) (vr : Int) (hv : rB vr = 4) (key : ByteArray) (hk0 : key.size ≠ 0) (hR : Rt w) : Calls Tryz.prog 15 #[.int .i64 vr, .string key] w (PKy w none) := by
  have c := matcher_list w vr hv key hk0 hR
  go_enter Tryz.func15, Tryz.ntmps15
  go_wp2_with (go_at_call 17; refine Stop.mk ?_)
  refine Stop.out (c.mono ?_)
  rintro e W1 ⟨p, rfl, _, hb⟩
  unfold ptr
  go_wp2
  go_ret
  exact ⟨_, rfl, rfl, hb⟩
end Go.Proofs.YtehgeninocbpeaaGreatDoor.Tm

namespace Go.Proofs.YtehgeninocbpeaaGreatDoor.Tm
open Go Go.Proofs Go.RowKit
def arG (gs : List ByteArray) : List ByteArray → Nat → Bool
  | [], _ => true
  | p :: ps, i => (decide (p.size = 0) || fits p (gs.getD i ⟨#[]⟩)) && arG gs ps (i + 1)
set_option maxRecDepth 100000 in
set_option maxHeartbeats 4000000 in
theorem areGroups_any (W : World) (ga ca : Nat) (pats : List ByteArray) (hn : pats.length ≤ 1000000000000) (cp : ∀ i (h : i < pats.length), W.cell? ⟨ga, i, none⟩ = some (.string pats[i])) (hp : ∀ u ∈ pats, u.size ≤ 2097152)
    (gb cb : Nat) (gs : List ByteArray) (hm : gs.length ≤ 1000000000000) (cg : ∀ i (h : i < gs.length), W.cell? ⟨gb, i, none⟩ = some (.string gs[i])) (hg : ∀ u ∈ gs, u.size ≤ 2097152) :
    Calls Tryz.prog 66 #[.slice (some ⟨ga, 0, none⟩) pats.length ca, .slice (some ⟨gb, 0, none⟩) gs.length cb] W (BoolP W (arG gs pats 0)) := by
  obtain ⟨R, hR⟩ : ∃ R, arG gs pats 0 = R := ⟨_, rfl⟩
  have HR : Hid (arG gs (pats.drop 0) 0 = R) := hR
  rw [hR]
  obtain ⟨n, hl⟩ : ∃ n, pats.length = n := ⟨_, rfl⟩
  have HL : Hid (pats.length = n) := hl
  obtain ⟨mg, hlg⟩ : ∃ mg, gs.length = mg := ⟨_, rfl⟩
  have HLg : Hid (gs.length = mg) := hlg
  have HCp : Hid (∀ i (h : i < pats.length), W.cell? ⟨ga, i, none⟩ = some (.string pats[i])) := cp
  have HCg : Hid (∀ i (h : i < gs.length), W.cell? ⟨gb, i, none⟩ = some (.string gs[i])) := cg
  have HSp : Hid (∀ u ∈ pats, u.size ≤ 2097152) := hp
  have HSg : Hid (∀ i, (gs.getD i ⟨#[]⟩).size ≤ 2097152) := fun i => by
    rw [List.getD_eq_getElem?_getD]
    cases hi : gs[i]? with
    | none => show (⟨#[]⟩ : ByteArray).size ≤ _; decide
    | some x => exact hg x (List.mem_of_getElem? hi)
  rw [hl] at hn ⊢
  rw [hlg] at hm ⊢
  clear hR cp cg hl hlg hp hg
  go_enter Tryz.func66, Tryz.ntmps66
  go_wp2
  go_loopg [10] n (fun k s10 wx => ∃ i : Nat, s10 = .int .i64 (i : Int) ∧ i ≤ n ∧ k + i = n ∧ Hid (arG gs (pats.drop i) i = R) ∧ Hid (Below W.heap.size W wx))
  case atStart => exact ⟨0, rfl, by omega, by omega, HR, Below.refl _ _⟩
  case round =>
    obtain ⟨i, rfl, hi, hgk, HI, HB⟩ := hrel
    by_cases hlt : i < n
    · have hlx : i < pats.length := by have := HL.out; omega
      obtain ⟨u, hu⟩ : ∃ u, pats[i] = u := ⟨_, rfl⟩
      have cl : wr.cell? ⟨ga, i, none⟩ = some (.string u) := by
        have h0 := HCp.out i hlx
        rw [hu] at h0
        exact (HB.out.cell (cell_lt h0)).trans h0
      obtain ⟨x, hx⟩ : ∃ x, gs.getD i ⟨#[]⟩ = x := ⟨_, rfl⟩
      have HX : Hid (gs.getD i ⟨#[]⟩ = x) := hx
      have cG := Gl.glob_any wr u x (HSp.out u (by rw [← hu]; exact List.getElem_mem hlx)) (by rw [← hx]; exact HSg.out i)
      change Calls Tryz.prog 10 _ _ (BoolP wr (fits u x)) at cG
      have HI2 : Hid (((decide (u.size = 0) || fits u x) && arG gs (pats.drop (i + 1)) (i + 1)) = R) := by
        have := HI.out
        rw [List.drop_eq_getElem_cons hlx, arG, hu, hx] at this
        exact this
      clear HI hlx hu hx
      by_cases hj : i < mg
      · have clx : wr.cell? ⟨gb, i, none⟩ = some (.string x) := by
          have h0 := HCg.out i (by have := HLg.out; omega)
          have e : gs[i]'(by have := HLg.out; omega) = x := by rw [← HX.out]; rw [List.getD_eq_getElem?_getD, List.getElem?_eq_getElem (by have := HLg.out; omega)]; rfl
          rw [e] at h0
          exact (HB.out.cell (cell_lt h0)).trans h0
        have hjI : (i : Int) < (mg : Int) := by omega
        clear HX
        by_cases h0 : u.size = 0
        · obtain rfl : u = ⟨#[]⟩ := ByteArray.ext (Array.eq_empty_of_size_eq_zero h0)
          have HI3 : Hid (arG gs (pats.drop (i + 1)) (i + 1) = R) := by have := HI2.out; rw [decide_eq_true h0, Bool.true_or, Bool.true_and] at this; exact this
          clear HI2 h0 cG
          go_wp2
          go_roundg (n - (i + 1))
          case measure => omega
          case rel => exact ⟨i + 1, by simp, by omega, by omega, HI3, HB⟩
        · have hke := text_some h0
          cases hz : fits u x with
          | true =>
            rw [hz] at cG
            have HI3 : Hid (arG gs (pats.drop (i + 1)) (i + 1) = R) := by have := HI2.out; rw [hz, Bool.or_true, Bool.true_and] at this; exact this
            clear HI2 hz
            go_wp2_with (go_at_call 10; refine Stop.mk ?_)
            refine Stop.out (cG.mono ?_)
            rintro e2 W2 ⟨rfl, hb2⟩
            have HB2 : Hid (Below W.heap.size W W2) := HB.out.trans (hb2.mono HB.out.size)
            clear hb2 cG
            go_wp2
            go_roundg (n - (i + 1))
            case measure => omega
            case rel => exact ⟨i + 1, by simp, by omega, by omega, HI3, HB2⟩
          | false =>
            rw [hz] at cG
            have e : Hid (false = R) := by have := HI2.out; rw [hz, decide_eq_false h0, Bool.or_false, Bool.false_and] at this; exact this
            clear HI2 hz
            go_wp2_with (go_at_call 10; refine Stop.mk ?_)
            refine Stop.out (cG.mono ?_)
            rintro e2 W2 ⟨rfl, hb2⟩
            have HB2 : Hid (Below W.heap.size W W2) := HB.out.trans (hb2.mono HB.out.size)
            clear hb2 cG
            go_wp2
            go_ret
            exact ⟨by rw [← e.out]; rfl, HB2.out⟩
      · obtain rfl : x = ⟨#[]⟩ := by rw [← HX.out]; rw [List.getD_eq_getElem?_getD, List.getElem?_eq_none (by have := HLg.out; omega)]; rfl
        have hjI : ¬ ((i : Int) < (mg : Int)) := by omega
        clear HX
        by_cases h0 : u.size = 0
        · obtain rfl : u = ⟨#[]⟩ := ByteArray.ext (Array.eq_empty_of_size_eq_zero h0)
          have HI3 : Hid (arG gs (pats.drop (i + 1)) (i + 1) = R) := by have := HI2.out; rw [decide_eq_true h0, Bool.true_or, Bool.true_and] at this; exact this
          clear HI2 h0 cG
          go_wp2
          go_roundg (n - (i + 1))
          case measure => omega
          case rel => exact ⟨i + 1, by simp, by omega, by omega, HI3, HB⟩
        · have hke := text_some h0
          cases hz : fits u ⟨#[]⟩ with
          | true =>
            rw [hz] at cG
            have HI3 : Hid (arG gs (pats.drop (i + 1)) (i + 1) = R) := by have := HI2.out; rw [hz, Bool.or_true, Bool.true_and] at this; exact this
            clear HI2 hz
            go_wp2_with (go_at_call 10; refine Stop.mk ?_)
            refine Stop.out (cG.mono ?_)
            rintro e2 W2 ⟨rfl, hb2⟩
            have HB2 : Hid (Below W.heap.size W W2) := HB.out.trans (hb2.mono HB.out.size)
            clear hb2 cG
            go_wp2
            go_roundg (n - (i + 1))
            case measure => omega
            case rel => exact ⟨i + 1, by simp, by omega, by omega, HI3, HB2⟩
          | false =>
            rw [hz] at cG
            have e : Hid (false = R) := by have := HI2.out; rw [hz, decide_eq_false h0, Bool.or_false, Bool.false_and] at this; exact this
            clear HI2 hz
            go_wp2_with (go_at_call 10; refine Stop.mk ?_)
            refine Stop.out (cG.mono ?_)
            rintro e2 W2 ⟨rfl, hb2⟩
            have HB2 : Hid (Below W.heap.size W W2) := HB.out.trans (hb2.mono HB.out.size)
            clear hb2 cG
            go_wp2
            go_ret
            exact ⟨by rw [← e.out]; rfl, HB2.out⟩
    · have e : Hid (true = R) := by
        have := HI.out
        rw [List.drop_eq_nil_of_le (by have := HL.out; omega), arG] at this
        exact this
      clear HI
      go_wp2
      go_ret
      exact ⟨by rw [← e.out]; rfl, HB.out⟩
structure Nks (W : World) (p ga : Nat) (l : List ByteArray) : Prop where
  p : W.cell? ⟨p, 0, none⟩ = some (.slice (some ⟨ga, 0, none⟩) l.length l.length)
  a : ∀ i (h : i < l.length), W.cell? ⟨ga, i, none⟩ = some (.string l[i])
theorem Nks.on {W W' : World} {p ga : Nat} {l : List ByteArray} (h : Nks W p ga l) {k : Nat} (hk : W.heap.size ≤ k) (hb : Below k W W') : Nks W' p ga l := ⟨(hb.cell (Nat.lt_of_lt_of_le (cell_lt h.p) hk)).trans h.p, fun i hi => (hb.cell (Nat.lt_of_lt_of_le (cell_lt (h.a i hi)) hk)).trans (h.a i hi)⟩
set_option maxRecDepth 100000 in
set_option maxHeartbeats 2000000 in
theorem clos65 (W : World) (p ga : Nat) (l : List ByteArray) (u : ByteArray) (hK : Nks W p ga l) (hl : l.length ≤ 1000000000000) (has : ∀ a ∈ l, a.size ≤ 2097152) (hu : u.size ≤ 2097152) : Calls Tryz.prog 65 #[.string u, ptr p] W (BoolP W (arG (grp u) l 0)) := by
  have cG := fun W => groupsOf_any W u hu
  have hlen := grp_len u
  have hgs := grp_size u
  generalize grp u = xs at *
  have cI := fun W (h : Nks W p ga l) g cells => areGroups_any W ga l.length l hl h.a has g xs.length xs (by omega) cells (fun v hv => by have := hgs v hv; omega)
  obtain ⟨Z, hZ⟩ : ∃ Z, arG xs l 0 = Z := ⟨_, rfl⟩
  rw [hZ] at cI ⊢
  clear hZ hgs has hu hl
  have hpc := hK.p
  obtain ⟨n, hn⟩ : ∃ n, l.length = n := ⟨_, rfl⟩
  unfold ptr
  go_enter Tryz.func65, Tryz.ntmps65
  go_upto_region 1 with fail
  have hB : Nks W.drew p ga l := ⟨hK.p, hK.a⟩
  have hW : Below W.heap.size W W.drew := (Below.refl _ _).drew
  rw [hn] at cI
  clear hpc
  go_region_held3 (fun w' => w'.cell? ⟨p, 0, none⟩ = some (.slice (some ⟨ga, 0, none⟩) n n)) (exact hn ▸ hB.p) (first | (go_at_call 62; refine (cG _).mono ?_; rintro e W9 ⟨g9, rfl, cells9, hb9⟩; replace hB := hB.on (Nat.le_refl _) hb9; replace hW := hW.trans (hb9.mono hW.size)) | (go_at_call 66; refine (cI _ hB _ cells9).mono ?_; rintro e W8 ⟨rfl, hb8⟩; replace hB := hB.on (Nat.le_refl _) hb8; replace hW := hW.trans (hb8.mono hW.size)) | fail)
  all_goals
    go_wp2
    go_ret
    exact ⟨rfl, hW⟩
theorem nameM_many (w : World) (key : ByteArray) (hs : key.size ≤ 2097152) (hg : (grp key).length ≠ 1) : Calls Tryz.prog 37 #[.string key] w fun e w' => ∃ p ga, e = .returned (.func (.func 65) #[] #[ptr p]) ∧ Nks w' p ga (grp key) ∧ Below w.heap.size w w' := by
  have cG := groupsOf_any w key hs
  have hlen := grp_len key
  generalize grp key = l at *
  obtain ⟨n, hn⟩ : ∃ n, l.length = n := ⟨_, rfl⟩
  have HN : Hid (l.length = n) := hn
  have hnI : ((n : Int) == 1) = false := by simp; omega
  go_enter Tryz.func37, Tryz.ntmps37
  go_wp2_with (go_at_call 62; refine Stop.mk ?_)
  refine Stop.out (cG.mono ?_)
  rintro e W1 ⟨g, rfl, cells, hb1⟩
  have HC : Hid (∀ i (h : i < l.length), W1.cell? ⟨g, i, none⟩ = some (.string l[i])) := cells
  have HB1 : Hid (Below w.heap.size w W1) := hb1
  rw [hn]
  clear cells cG hb1 hn hg
  go_wp2
  have hb2 : Below W1.heap.size W1 (W1.alloc (.cells #[.slice (some ⟨g, 0, none⟩) n n] 48)) := (Below.refl _ _).alloc (Nat.le_refl _) _
  go_ret
  exact ⟨_, _, rfl, ⟨by rw [HN.out]; simp, fun i hi => (hb2.cell (cell_lt (HC.out i hi))).trans (HC.out i hi)⟩, HB1.out.trans (hb2.mono HB1.out.size)⟩
def nmM (key u : ByteArray) : Bool := if (grp key).length = 1 then decide (((grp key).headD ⟨#[]⟩).size = 0) || (grp u).any (fits ((grp key).headD ⟨#[]⟩)) else arG (grp u) (grp key) 0
theorem matcher_names (w : World) (vr : Int) (hv : rB vr = 2) (key : ByteArray) (hs : key.size ≤ 2097152) (hk0 : key.size ≠ 0) (hg : (grp key).length ≠ 1) (hR : Rt w) : Calls Tryz.prog 17 #[.int .i64 vr, .string key] w fun e w' => ∃ p ga, e = .returned (.tuple #[.func (.func 65) #[] #[ptr p], .nilIface]) ∧ Nks w' p ga (grp key) ∧ Below w.heap.size w w' := by
  obtain ⟨W0, hW0⟩ : ∃ W0, w.alloc (.cells #[.string key] 9) = W0 := ⟨_, rfl⟩
  have hb0 : Below w.heap.size w W0 := hW0 ▸ (Below.refl _ _).alloc (Nat.le_refl _) _
  have c0 : W0.cell? ⟨w.heap.size, 0, none⟩ = some (.string key) := by rw [← hW0]; simp
  have cR := ruleOf_any W0 vr (hR.on hb0)
  rw [hv] at cR
  have cN := fun W => nameM_many W key hs hg
  have HB : Hid (Below w.heap.size w W0) := hb0
  have hke := text_some hk0
  clear hR hb0 hk0 hv hg
  go_enter Tryz.func17, Tryz.ntmps17
  go_wp2_with (go_at_call 18; refine Stop.mk ?_)
  refine Stop.out (cR.mono ?_)
  rintro e W1 ⟨rfl, hb⟩
  have hf := field0 W1 2 (rC vr)
  have c1 : W1.cell? ⟨w.heap.size, 0, none⟩ = some (.string key) := (hb.cell (cell_lt c0)).trans c0
  have HB1 : Hid (Below w.heap.size w W1) := HB.out.trans (hb.mono HB.out.size)
  clear cR hb HB c0 hW0
  go_wp2_with (go_at_call 37; refine Stop.mk ?_)
  refine Stop.out ((cN W1).mono ?_)
  rintro e W2 ⟨p, ga, rfl, hK, hb2⟩
  have HB2 : Hid (Below w.heap.size w W2) := HB1.out.trans (hb2.mono HB1.out.size)
  have HK : Hid (Nks W2 p ga (grp key)) := hK
  clear hb2 HB1 cN hK
  unfold ptr
  go_wp2
  refine bodyPost_ret (v := .tuple #[.func (.func 65) #[] #[ptr p], .nilIface]) (by simp [results, Tryz.results17, go_sem, ptr]) rfl ⟨_, _, rfl, HK.out, HB2.out⟩
theorem matcher_name' (w : World) (vr : Int) (hv : rB vr = 2) (key : ByteArray) (hs : key.size ≤ 2097152) (hk0 : key.size ≠ 0) (hR : Rt w) : Calls Tryz.prog 17 #[.int .i64 vr, .string key] w (MtP w (nmM key) none 2097152) := by
  have hgs := grp_size key
  have hgl := grp_len key
  by_cases h1 : (grp key).length = 1
  · obtain ⟨a, ha⟩ : ∃ a, grp key = [a] := List.length_eq_one_iff.1 h1
    have has : a.size ≤ 2097152 := by have := hgs a (by rw [ha]; simp); omega
    have e : nmM key = fun u => decide (a.size = 0) || (grp u).any (fits a) := by funext u; unfold nmM; rw [if_pos h1, ha]; rfl
    rw [e]
    refine (matcher_name w vr hv key a hs hk0 ha hR).mono fun e w' ⟨p, ga, he, hK, hb⟩ => ⟨hb, _, _, he, rfl, fun _ W' hb' g cap xs hn hx cells => contains63 W' g cap xs hn cells p _ (fun W2 hb2 u hu => clos63 W2 p ga a u ((hK.on (Nat.le_refl _) hb').on (Nat.le_refl _) hb2) has (hx u hu))⟩
  · have e : nmM key = fun u => arG (grp u) (grp key) 0 := by funext u; unfold nmM; rw [if_neg h1]
    rw [e]
    refine (matcher_names w vr hv key hs hk0 h1 hR).mono fun e w' ⟨p, ga, he, hK, hb⟩ => ⟨hb, _, _, he, rfl, fun _ W' hb' g cap xs hn hx cells => contains65 W' g cap xs hn cells p _ (fun W2 hb2 u hu => clos65 W2 p ga (grp key) u ((hK.on (Nat.le_refl _) hb').on (Nat.le_refl _) hb2) (by omega) (fun a ha => by have := hgs a ha; omega) (hx u hu))⟩
end Go.Proofs.YtehgeninocbpeaaGreatDoor.Tm
