import Derived.Test.YtehgeninocbpeaaGreatDoorMl
import Derived.Test.YtehgeninocbpeaaGreatDoorVb
import Derived.Lib.LaidU8
import Derived.OpenShut
namespace Go.Proofs.YtehgeninocbpeaaGreatDoor.Tm
open Go Go.Proofs Go.RowKit
open Go.Proofs.NumLine (Nm Canon cmpN line)
def nz (o : Option (Int × Int)) : Prop := ∀ a c, o = some (a, c) → (c != 0) = true
theorem nz_none : nz none := fun _ _ e => by cases e
theorem nz_some (a c : Int) (h : (c != 0) = true) : nz (some (a, c)) := fun _ _ e => by cases e; exact h
theorem nz_next {o : Option (Int × Int)} (h : nz o) (bad : Bool) (pl : Nat) : nz (nextD o bad pl) := by
  unfold nextD
  split
  · split
    · exact nz_some _ _ rfl
    · exact h
  · exact h
theorem nz_more {s : ByteArray} : ∀ (l : List (Mst → Mst)), (∀ t ∈ l, ∀ S, nz S.o → nz (t S).o) → ∀ S, nz S.o → nz (moreS s l S).o
  | [], _, S, h => h
  | t :: l, ht, S, h => by
    rw [moreS]
    split
    · exact nz_more l (fun t' h' => ht t' (List.mem_cons_of_mem _ h')) _ (ht t (by simp) S h)
    · exact h
theorem nz_frac {s : ByteArray} {S : Mst} (h : nz S.o) : nz (fracS s S).o := by
  unfold fracS
  split
  · exact h
  · split
    · exact h
    · exact h
theorem nz_zone {s : ByteArray} {S : Mst} (h : nz S.o) : nz (zoneS s S).o := by
  unfold zoneS
  split
  · rw [zo_o]; exact nz_next h _ _
  · exact h
theorem nz_year {s : ByteArray} {S : Mst} (h : nz S.o) : nz (yearS s S).o := nz_next h _ _
theorem nz_month {s : ByteArray} {S : Mst} (h : nz S.o) : nz (monthS s S).o := nz_next h _ _
theorem nz_day {s : ByteArray} {S : Mst} (h : nz S.o) : nz (dayS s S).o := nz_next h _ _
theorem nz_hour {s : ByteArray} {S : Mst} (h : nz S.o) : nz (hourS s S).o := nz_next h _ _
theorem nz_minute {s : ByteArray} {S : Mst} (h : nz S.o) : nz (minuteS s S).o := nz_next h _ _
theorem nz_second {s : ByteArray} {S : Mst} (h : nz S.o) : nz (secondS s S).o := nz_next h _ _
theorem nz_oR (vr : Int) (s : ByteArray) (a : Nat) : nz (oR vr s a) := by
  have h0 : nz (stA a).o := fun p c e => by cases e
  have h1 : nz (rdS vr s a).o := by
    unfold rdS
    split
    · exact nz_day (nz_month (nz_year h0))
    · split
      · refine nz_frac (nz_more _ ?_ _ (nz_hour h0))
        intro t ht S hS
        simp at ht
        rcases ht with rfl | rfl
        · exact nz_minute hS
        · exact nz_second hS
      · refine nz_zone (nz_frac (nz_more _ ?_ _ (nz_year h0)))
        intro t ht S hS
        simp at ht
        rcases ht with rfl | rfl | rfl | rfl | rfl
        · exact nz_month hS
        · exact nz_day hS
        · exact nz_hour hS
        · exact nz_minute hS
        · exact nz_second hS
  unfold oR rdO fmO
  split
  · exact nz_some _ _ rfl
  · exact h1
theorem nz_ask (vr : Int) (s : ByteArray) : nz (ask vr s).2 := by
  unfold ask
  split
  · exact nz_oR vr s 0
  · split
    · exact nz_some _ _ rfl
    · unfold bt
      split
      · unfold btO
        split
        · exact nz_none
        · exact nz_oR _ _ _
      · split
        · exact nz_none
        · split
          · exact nz_oR _ _ _
          · split
            · exact nz_some _ _ rfl
            · exact nz_none
theorem nz_WR (s : ByteArray) : nz (Nu.WR s).2 := by
  unfold Nu.WR
  repeat (first | exact nz_none | exact nz_some _ _ rfl | split)
theorem nz_nmR (s : ByteArray) : nz (nmR s).2 := by
  unfold nmR
  split
  · rename_i h
    rcases h.choose_spec with ⟨_, _, e⟩ | ⟨_, _, e⟩
    · rw [e]; exact nz_none
    · rw [e]
      unfold Nu.erN
      split
      · exact nz_some _ _ rfl
      · exact nz_some _ _ rfl
  · exact nz_none
theorem nz_kO (vr : Int) (key : ByteArray) : nz (kO vr key) := by
  unfold kO
  split
  · exact nz_none
  · split
    · exact nz_some _ _ rfl
    · split
      · exact nz_ask vr key
      · split
        · exact nz_WR key
        · split
          · exact nz_nmR key
          · exact nz_none
noncomputable def mtc (vr : Int) (key v : ByteArray) : Bool :=
  if key.size = 0 then true else if kO vr key ≠ none then false else if rB vr = 4 then (Sp.spB key).any (fun x => eqB v x) else if rC vr = true then (Sp.spB v).any (pcM vr key) else pcM vr key v
theorem good35 (W : World) (N : Nat) : Good W (.func (.func 35) #[] #[]) (fun _ => true) N :=
  fun W' _ g cap xs hn _ cells => contains35 W' g cap xs hn cells (fun _ => true) (fun W2 _ u _ => clos35 W2 u)
theorem matcher_any (w : World) (vr : Int) (key : ByteArray) (hk : key.size ≤ 2097152) (hk0 : key.size ≠ 0) (h4 : rB vr ≠ 4) (hT : Mt w) (hO : Ot w) (hR : Rt w) : Calls Tryz.prog 17 #[.int .i64 vr, .string key] w (MtP w (pcM vr key) (kO vr key) 2097152) := by
  unfold kO
  rw [if_neg hk0]
  rcases kinds vr with ⟨h, _⟩ | ⟨_, _, _, h⟩
  · rw [if_pos h]; exact matcher_kind w vr h key hk0 hR _ _
  · rcases h with ⟨h, _, hs⟩ | ⟨h, _, _⟩ | ⟨h, _, _⟩ | ⟨h, _, _⟩ | ⟨h, _, _⟩ | ⟨h, _, _⟩ | ⟨h, _, _⟩ | ⟨h, _, _⟩
    · rw [if_neg (by omega), if_pos h]
      have e : pcM vr key = spM vr (ask vr key).1.1 (ask vr key).1.2 := by funext u; unfold pcM; rw [if_pos h]
      rw [e]; exact matcher_sp' w vr hs key hk hk0 hT hO hR
    · rw [if_neg (by omega), if_neg (by omega), if_neg (by omega), if_neg (by omega)]
      have e : pcM vr key = nmM key := by funext u; unfold pcM; rw [if_neg (by omega), if_pos h]
      rw [e]; exact matcher_name' w vr h key hk hk0 hR
    · rw [if_neg (by omega), if_neg (by omega), if_neg (by omega), if_neg (by omega)]
      have e : pcM vr key = fits key := by funext u; unfold pcM; rw [if_neg (by omega), if_neg (by omega), if_pos h]
      rw [e]; exact matcher_pat' w vr h key hk hk0 hR
    · rw [if_neg (by omega), if_neg (by omega), if_neg (by omega), if_neg (by omega)]
      have e : pcM vr key = fits key := by funext u; unfold pcM; rw [if_neg (by omega), if_neg (by omega), if_pos h]
      rw [e]; exact matcher_pat' w vr h key hk hk0 hR
    · exact absurd h h4
    · rw [if_neg (by omega), if_neg (by omega), if_pos h]
      have e : pcM vr key = whM (Nu.WR key).1 := by funext u; unfold pcM; rw [if_neg (by omega), if_neg (by omega), if_neg (by omega), if_pos h]
      rw [e]; exact matcher_whole w vr h key hk0 hR
    · rw [if_neg (by omega), if_neg (by omega), if_neg (by omega), if_pos h]
      have e : pcM vr key = dcM (nmR key).1 := by funext u; unfold pcM; rw [if_neg (by omega), if_neg (by omega), if_neg (by omega), if_neg (by omega), if_pos h]
      rw [e]; exact matcher_dec w vr h key hk0 hR
    · rw [if_neg (by omega), if_neg (by omega), if_neg (by omega), if_neg (by omega)]
      have e : pcM vr key = fun u => eqB u key := by funext u; unfold pcM; rw [if_neg (by omega), if_neg (by omega), if_neg (by omega), if_neg (by omega), if_neg (by omega)]
      rw [e]; exact matcher_bytes w vr h key hk0 hR
theorem key_any (w : World) (vr : Int) (key : ByteArray) (hk : key.size ≤ 2097152) (hT : Mt w) (hO : Ot w) (hR : Rt w) : Calls Tryz.prog 15 #[.int .i64 vr, .string key] w (PKy w (kO vr key)) := by
  by_cases hk0 : key.size = 0
  · obtain rfl : key = ⟨#[]⟩ := ByteArray.ext (Array.eq_empty_of_size_eq_zero hk0)
    have e : kO vr ⟨#[]⟩ = none := by unfold kO; rw [if_pos hk0]
    rw [e]
    exact key_of w vr ⟨#[]⟩ (fun _ => true) none 0 ((matcher_none w vr).mono fun _ _ ⟨he, hb⟩ => ⟨hb, _, _, he, rfl, fun _ => good35 _ _⟩)
  · by_cases h4 : rB vr = 4
    · have e : kO vr key = none := by unfold kO; rw [if_neg hk0, if_neg (by omega), if_neg (by omega), if_neg (by omega), if_neg (by omega)]
      rw [e]
      exact matcher_list' w vr h4 key hk0 hR
    · exact key_of w vr key _ _ _ (matcher_any w vr key hk hk0 h4 hT hO hR)
theorem match_any (w : World) (vr : Int) (key v : ByteArray) (hk : key.size ≤ 2097152) (hv : v.size ≤ 2097152) (hT : Mt w) (hO : Ot w) (hR : Rt w) : Calls Tryz.prog 6 #[.int .i64 vr, .string key, .string v] w (PostR w (.bool (mtc vr key v)) (kO vr key)) := by
  unfold mtc
  by_cases hk0 : key.size = 0
  · obtain rfl : key = ⟨#[]⟩ := ByteArray.ext (Array.eq_empty_of_size_eq_zero hk0)
    have e : kO vr ⟨#[]⟩ = none := by unfold kO; rw [if_pos hk0]
    rw [if_pos hk0, e]
    exact (match_none w vr v (by omega) hR).mono fun _ _ ⟨he, hb⟩ => ⟨_, he, rfl, hb⟩
  rw [if_neg hk0]
  by_cases h4 : rB vr = 4
  · have e : kO vr key = none := by unfold kO; rw [if_neg hk0, if_neg (by omega), if_neg (by omega), if_neg (by omega), if_neg (by omega)]
    have hC : rC vr = false := by
      rcases kinds vr with ⟨h, _⟩ | ⟨_, _, _, h⟩
      · omega
      · rcases h with h | h | h | h | h | h | h | h
        all_goals first | exact h.2.1 | (exfalso; have := h.1; omega)
    rw [e, if_neg (fun h => h rfl), if_pos h4]
    exact match_list w vr h4 hC key v hk hk0 hR
  · rw [if_neg h4]
    have cM := matcher_any w vr key hk hk0 h4 hT hO hR
    cases ho : kO vr key with
    | some x =>
      rw [ho] at cM
      rw [if_pos (by simp)]
      exact match_bad w vr key v _ x _ cM
    | none =>
      rw [ho] at cM
      rw [if_neg (fun h => h rfl)]
      cases hC : rC vr with
      | true => rw [if_pos rfl]; exact match_good w vr hC key v hv _ hR cM
      | false =>
        rw [if_neg (by decide)]
        have h3 : rB vr = 3 := by
          rcases kinds vr with ⟨h, _⟩ | ⟨_, _, _, h⟩
          · exfalso
            unfold kO at ho
            rw [if_neg hk0, if_pos h] at ho
            cases ho
          · rcases h with h | h | h | h | h | h | h | h
            all_goals first | exact h.1 | (exfalso; exact h4 h.1) | (exfalso; have h2 := h.2.1; rw [hC] at h2; cases h2)
        have e : pcM vr key v = fits key v := by unfold pcM; rw [if_neg (by omega), if_neg (by omega), if_pos h3]
        rw [e]
        exact match_pat0 w vr h3 hC key v hk hk0 hv hR
theorem rmatch_any (w : World) (vr : Int) (key v : ByteArray) (hk : key.size ≤ 2097152) (hv : v.size ≤ 2097152) (hP : Nu.Pow w) : Calls Tryz.prog 14 #[.int .i64 vr, .string key, .string v] w (PostF w (.bool (mtc vr key v)) (kO vr key)) := by
  unfold mtc
  by_cases hk0 : key.size = 0
  · obtain rfl : key = ⟨#[]⟩ := ByteArray.ext (Array.eq_empty_of_size_eq_zero hk0)
    have e : kO vr ⟨#[]⟩ = none := by unfold kO; rw [if_pos hk0]
    rw [if_pos hk0, e]
    exact rmatch_none w vr v
  rw [if_neg hk0]
  have ck := fun W => rkey_any W vr key hk
  cases ho : kO vr key with
  | some x =>
    rw [ho] at ck
    rw [if_pos (by simp)]
    exact rmatch_bad w vr key v hk0 x ck
  | none =>
    rw [ho] at ck
    rw [if_neg (fun h => h rfl)]
    have h0 : rB vr ≠ 0 := fun h => by
      unfold kO at ho
      rw [if_neg hk0, if_pos h] at ho
      cases ho
    rcases kinds vr with ⟨h, _⟩ | ⟨_, _, _, h⟩
    · exact absurd h h0
    · rcases h with ⟨h, hC, hs⟩ | ⟨h, hC, rfl⟩ | ⟨h, hC, hs⟩ | ⟨h, hC, hs⟩ | ⟨h, hC, rfl⟩ | ⟨h, hC, rfl⟩ | ⟨h, hC, rfl⟩ | ⟨h, hC, hs⟩
      · rw [if_neg (by omega), if_pos hC]
        exact rmatch_cut w vr (by unfold isSp at hs; omega) (by unfold isSp at hs; omega) (by unfold isSp at hs; omega) (by unfold isSp at hs; omega) (by unfold isSp at hs; omega) key v hv hk0 hP _ (fun W u hu hP => rpiece_any W vr h0 (by omega) key u hk hu hP) ck
      · rw [if_neg (by omega), if_pos hC]
        exact rmatch_cut w 15 (by omega) (by omega) (by omega) (by omega) (by omega) key v hv hk0 hP _ (fun W u hu hP => rpiece_any W 15 h0 (by omega) key u hk hu hP) ck
      · rw [if_neg (by omega), if_pos hC]
        exact rmatch_cut w vr (by omega) (by omega) (by omega) (by omega) (by omega) key v hv hk0 hP _ (fun W u hu hP => rpiece_any W vr h0 (by omega) key u hk hu hP) ck
      · rw [if_neg (by omega), if_neg (by rw [hC]; decide)]
        have e : pcM vr key v = fits key v := by unfold pcM; rw [if_neg (by omega), if_neg (by omega), if_pos h]
        rw [e]
        rcases hs with rfl | rfl | rfl | rfl
        · exact rmatch_12 w key v hk0 _ (fun W => piece_12 W key v hk hv) ck
        · exact rmatch_20 w key v hk0 _ (fun W => piece_20 W key v hk hv) ck
        · exact rmatch_26 w key v hk0 _ (fun W => piece_26 W key v hk hv) ck
        · exact rmatch_28 w key v hk0 _ (fun W => piece_28 W key v hk hv) ck
      · rw [if_pos h]
        exact rmatch_list w key v hk hk0 ck
      · rw [if_neg (by omega), if_pos hC]
        exact rmatch_cut w 10 (by omega) (by omega) (by omega) (by omega) (by omega) key v hv hk0 hP _ (fun W u hu hP => rpiece_any W 10 h0 (by omega) key u hk hu hP) ck
      · rw [if_neg (by omega), if_pos hC]
        exact rmatch_cut w 6 (by omega) (by omega) (by omega) (by omega) (by omega) key v hv hk0 hP _ (fun W u hu hP => rpiece_any W 6 h0 (by omega) key u hk hu hP) ck
      · rw [if_neg (by omega), if_pos hC]
        exact rmatch_cut w vr (by omega) (by omega) (by omega) (by omega) (by omega) key v hv hk0 hP _ (fun W u hu hP => rpiece_any W vr h0 (by omega) key u hk hu hP) ck
set_option maxRecDepth 100000 in
set_option maxHeartbeats 4000000 in
theorem matches_any (w : World) (vr : Int) (key v : ByteArray) (hk : key.size ≤ 2097152) (hv : v.size ≤ 2097152) (hT : Mt w) (hO : Ot w) (hR : Rt w) (hP : Nu.Pow w) :
    Calls Tryz.prog 5 #[.int .i64 vr, .string key, .string v] w fun e w' => e = .returned (.bool true) ∧ Below w.heap.size w w' := by
  have c6 := match_any w vr key v hk hv hT hO hR
  have c14 := fun W h => rmatch_any W vr key v hk hv h
  have c15 := fun W h1 h2 h3 => key_any W vr key hk h1 h2 h3
  have c16 := fun W => rkey_any W vr key hk
  have N1 : Hid (nz (kO vr key)) := nz_kO vr key
  have HT : Hid (Mt w ∧ Ot w ∧ Rt w ∧ Nu.Pow w) := ⟨hT, hO, hR, hP⟩
  generalize mtc vr key v = M at *
  generalize kO vr key = o at *
  have H14 : Hid _ := c14
  have H15 : Hid _ := c15
  clear hk hv hT hO hR hP c14 c15
  go_enter Tryz.func5, Tryz.ntmps5
  go_wp2_with (go_at_call 6; refine Stop.mk ?_)
  refine Stop.out (c6.mono ?_)
  rintro e W1 ⟨v1, rfl, hv1, hb1⟩
  have K1 : Hid _ := ((Kst.start w).on hb1).addP hv1
  have c14' := H14.out W1 (HT.out.2.2.2.on hb1)
  clear c6 hv1 hb1 H14
  go_wp2_with (go_at_call 14; refine Stop.mk ?_)
  refine Stop.out (c14'.mono ?_)
  rintro e W2 ⟨v2, rfl, hv2, hb2⟩
  have K2 : Hid _ := (K1.out.on hb2).addQ hv2
  obtain ⟨p2, l2, k2, d2, rfl⟩ := RErr.shape hv2
  clear c14' hv2 hb2 K1
  go_upto_region 3 with fail
  obtain ⟨B2, hB2⟩ : ∃ B2, W2.heap.size = B2 := ⟨_, rfl⟩
  obtain ⟨Wb, hWb⟩ : ∃ Wb, W2.alloc (.cells #[.slice p2 l2 k2, .int .i64 d2] 35) = Wb := ⟨_, rfl⟩
  have Kb := K2.out.fault (.slice p2 l2 k2) (.int .i64 d2)
  rw [hWb, hB2] at Kb
  rw [hWb, hB2]
  have Kb' : Hid _ := Kb
  have c15' := H15.out Wb (HT.out.1.on Kb.b) (HT.out.2.1.on Kb.b) (HT.out.2.2.1.on Kb.b)
  clear Kb K2 hWb hB2 H15
  go_wp2_with (go_at_call 15; refine Stop.mk ?_)
  refine Stop.out (c15'.mono ?_)
  rintro e W3 ⟨v3, rfl, hv3, hb3⟩
  have K3 : Hid _ := (Kb'.out.on hb3).addP hv3
  clear c15' hv3 hb3 Kb'
  go_wp2_with (go_at_call 16; refine Stop.mk ?_)
  refine Stop.out ((c16 _).mono ?_)
  rintro e W4 ⟨v4, rfl, hv4, hb4⟩
  have K4 : Hid _ := (K3.out.on hb4).addQ hv4
  obtain ⟨p4, l4, k4, d4, rfl⟩ := RErr.shape hv4
  clear c16 hv4 hb4 K3
  go_upto_region 5 with fail
  obtain ⟨B4, hB4⟩ : ∃ B4, W4.heap.size = B4 := ⟨_, rfl⟩
  obtain ⟨Wd, hWd⟩ : ∃ Wd, W4.alloc (.cells #[.slice p4 l4 k4, .int .i64 d4] 35) = Wd := ⟨_, rfl⟩
  have Kd := K4.out.fault (.slice p4 l4 k4) (.int .i64 d4)
  rw [hWd, hB4] at Kd
  rw [hWd, hB4]
  have Kd' : Hid _ := Kd
  clear K4 hWd hB4
  obtain ⟨g0, g1⟩ := Kd.two (q := B2) (t := 35) (a := .slice p2 l2 k2) (b := .int .i64 d2) (by simp)
  have i1 := is_yes (Kd.p (v1, o) (by simp)) (Kd.q (.agg #[.slice p2 l2 k2, .int .i64 d2], o) (by simp)) N1.out
  clear Kd
  go_wp2_with (go_at_call 12; refine Stop.mk ?_)
  refine Stop.out (i1.mono ?_)
  rintro e W9 ⟨rfl, hb9⟩
  have K9 := Kd'.out.on hb9
  have K9' : Hid _ := K9
  clear i1 hb9 Kd' g0 g1
  obtain ⟨g0, g1⟩ := K9.two (q := B4) (t := 35) (a := .slice p4 l4 k4) (b := .int .i64 d4) (by simp)
  have i2 := is_yes (K9.p (v3, o) (by simp)) (K9.q (.agg #[.slice p4 l4 k4, .int .i64 d4], o) (by simp)) N1.out
  clear K9
  go_wp2_with (go_at_call 12; refine Stop.mk ?_)
  refine Stop.out (i2.mono ?_)
  rintro e W10 ⟨rfl, hb10⟩
  have K10 := (K9'.out.on hb10).b
  clear i2 hb10 K9' g0 g1
  go_wp2
  go_ret
  exact ⟨rfl, K10⟩
end Go.Proofs.YtehgeninocbpeaaGreatDoor.Tm

namespace Go.Proofs.YtehgeninocbpeaaGreatDoor.Rl
open Go Go.Proofs Go.RowKit
open Go.Proofs.YtehgeninocbpeaaGreatDoor.Tm
theorem cells3 : Tryz.prog.cellsOf 3 = 1 := by kernel_rfl
theorem cells4 : Tryz.prog.cellsOf 4 = 1 := by kernel_rfl
theorem cells45 : Tryz.prog.cellsOf 45 = 2 := by kernel_rfl
theorem gRu : Tryz.prog.globalNamed "modality/value.rules" = some 0 := by kernel_rfl
theorem tRu : (Tryz.prog.globals[0]?).map (·.type) = some 84 := by kernel_rfl
theorem two_of {α : Type} : ∀ {l : List α}, l.length = 2 → ∃ a b, l = [a, b]
  | [a, b], _ => ⟨a, b, rfl⟩
  | [], h => by simp at h
  | [_], h => by simp at h
  | _ :: _ :: _ :: _, h => by simp at h
theorem row_rule {w : World} {fuel : Nat} {cs : List Value} {a : Int} {b : Bool} {p : List MemPlace}
    (h : DataW.trod (fun _ => ()) Tryz.prog w 0 (fun _ => true) false fuel 45 cs = some (.agg [.lit (.int .i64 a), .lit (.bool b)], p)) :
    cs = [.int .i64 a, .bool b] := by
  obtain ⟨xs, n, rfl, hx, hl, hxl, hall⟩ := DataW.trod_struct Tryz.underlying45 h
  have hxs : xs.map (·.1) = [.lit (.int .i64 a), .lit (.bool b)] := by
    have := congrArg Prod.fst hx
    simpa using this.symm
  obtain ⟨x0, x1, rfl⟩ : ∃ x0 x1, xs = [x0, x1] := by
    match xs, hxl with
    | [x0, x1], _ => exact ⟨x0, x1, rfl⟩
  simp only [List.map_cons, List.map_nil, List.cons.injEq, and_true] at hxs
  obtain ⟨e0, e1⟩ := hxs
  have h0 := hall 0 _ rfl
  have h1 := hall 1 _ rfl
  have c0 : cs[0]? = some (.int .i64 a) := by
    obtain ⟨t, ht, rfl, _⟩ := DataW.trod_int Tryz.underlying3 h0
    simp only [DataW.lit.injEq, Lit.int.injEq, true_and] at e0
    subst e0
    have := congrArg (·[0]?) ht
    simp only [List.getElem?_cons_zero] at this
    have e3 : Tryz.prog.cellsOf 3 = 1 := cells3
    simpa [List.getElem?_take, e3] using this
  have c1 : cs[1]? = some (.bool b) := by
    obtain ⟨t, ht, rfl⟩ := DataW.trod_bool Tryz.underlying4 h1
    simp only [DataW.lit.injEq, Lit.bool.injEq] at e1
    subst e1
    have := congrArg (·[0]?) ht
    have e3 : Tryz.prog.cellsOf 4 = 1 := cells4
    simpa [List.getElem?_take, List.getElem?_drop, e3] using this
  rw [cells45] at hl
  clear hall h0 h1 h
  obtain ⟨v0, v1, rfl⟩ := two_of hl
  simp at c0 c1
  rw [c0, c1]
def ruD : DataW Unit := .agg ((List.range 29).map fun i => .agg [.lit (.int .i64 (rbL.getD i 0)), .lit (.bool (rcL.getD i false))])
theorem rules_of {W : World} (h : Lib.VarReads Tryz.prog W "modality/value.rules" ruD) : Rt W := by
  obtain ⟨g, t, cs, fuel, p, hg, hty, hvar, hd⟩ := h
  obtain rfl := Option.some.inj (gRu.symm.trans hg)
  obtain rfl := Option.some.inj (tRu.symm.trans hty)
  have hrow : ∀ i, i < 29 → (cs.toList.drop (i * 2)).take 2 = [.int .i64 (rbL.getD i 0), .bool (rcL.getD i false)] := by
    intro i hi
    obtain ⟨fuel', d, q, hdi, he⟩ := Lib.array_elem Tryz.underlying84 hd i hi
    simp only [List.getElem?_map, List.getElem?_range hi, Option.map_some, Option.some.injEq] at hdi
    subst hdi
    rw [cells45] at he
    exact row_rule he
  have hblk : ∃ t fr, W.heap[0]? = some (.cells cs t fr) := by
    unfold World.var? at hvar
    rw [gRu] at hvar
    simp only [Option.bind_some] at hvar
    split at hvar
    · rename_i c t fr hh
      simp at hvar
      subst hvar
      exact ⟨t, fr, hh⟩
    · cases hvar
  obtain ⟨t, fr, hh⟩ := hblk
  have hcell : ∀ k, W.cell? ⟨0, k, none⟩ = cs[k]? := fun k => cell_of_row W 0 k cs t fr hh
  refine ⟨fun i hi => ?_, fun i hi => ?_⟩
  · rw [hcell]
    have := congrArg (·[0]?) (hrow i hi)
    simp only [List.getElem?_take, List.getElem?_drop] at this
    rw [if_pos (by omega), show i * 2 + 0 = 2 * i by omega, Array.getElem?_toList] at this
    exact this
  · rw [hcell]
    have := congrArg (·[1]?) (hrow i hi)
    simp only [List.getElem?_take, List.getElem?_drop] at this
    rw [if_pos (by omega), show i * 2 + 1 = 2 * i + 1 by omega, Array.getElem?_toList] at this
    exact this
end Go.Proofs.YtehgeninocbpeaaGreatDoor.Rl
