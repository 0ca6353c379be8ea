import Derived.Test.YtidcjobokfgeoaaFa
import Derived.Deep.RegionLawGrows
/-
  DERIVED. Keys for all that is known at the top, read.
-/
namespace Go.Proofs.Ytidcjobokfgeoaa
open Go Go.Proofs Go.RowKit

theorem stp_one : ∀ u ∈ stp, u.oneCell' = true := by
  intro u hu
  unfold stp at hu
  rw [List.mem_append] at hu
  rcases hu with h | h
  · exact cl_one _ _ _ _ _ rfl u h
  · exact cl_one _ _ _ _ _ rfl u h
abbrev SB : Obj := .cells #[.int .u32 4194560, .int .i64 18, .int .i64 1, .string { data := #[] }, .nilFunc, .int .u32 4294893568, .int .i64 29, .int .i64 10, .string { data := #[] }, .nilFunc] 47

set_option maxRecDepth 100000 in
set_option maxHeartbeats 4000000 in
theorem read_any (w : World) (gk ck : Nat) (hk : Ky gk ck w) : Calls Try.prog 8 #[.slice (some ⟨gk, 0, none⟩) 11 ck] w fun e w' => ∃ g cap, e = .returned (.slice (some ⟨g, 0, none⟩) 22 cap) ∧ w'.ownsRow w.heap.size 47 5 (.slice (some ⟨g, 0, none⟩) 22 cap) 22 (qc 11) ∧ Below w.heap.size w w' := by
  have HA : Hid _ := attrs_any w
  have HK : Hid (Ky gk ck w) := hk
  clear hk
  go_enter Try.func8, Try.ntmps8
  go_wp2
  go_step3
  go_wp2_with (go_at_call 14; refine Calls.mono HA.out ?_; rintro e W ⟨rfl, hW⟩; have HI0 : Hid (RdI w w.heap.size 0 [] (.slice none 0 0) W) := RdI.start hW; clear hW HA)
  go_step3
  go_wp2
  go_loopw [4, 5] (fun s4 s5 wx => ∃ i : Nat, s5 = .int .i64 (i : Int) ∧ i ≤ 11 ∧ Hid (RdI w w.heap.size (qn i) (qc i) s4 wx)) (fun _ s5 _ => 11 - (intOf s5).toNat)
  case atStart => exact ⟨0, rfl, by omega, HI0⟩
  case round =>
    obtain ⟨i, rfl, hi11, HI⟩ := hrel
    clear HI0
    have HKr : Hid (Ky gk ck wr) := HK.out.on HI.out.b
    by_cases hin : i < 11
    · have hI : (i : Int) < 11 := by omega
      obtain ⟨c0, c1, c2, c3⟩ := HKr.out.cells hin
      have cN : Hid _ := next_one wr gk i 11 ck hin (by omega) c2
      by_cases h9 : i = 9
      · subst h9
        replace c0 : wr.cell? ⟨gk, 36, none⟩ = some (.int .u32 4194560) := c0
        replace c1 : wr.cell? ⟨gk, 37, none⟩ = some (.int .i64 18) := c1
        replace c2 : wr.cell? ⟨gk, 38, none⟩ = some (.int .i64 0) := c2
        replace c3 : wr.cell? ⟨gk, 39, none⟩ = some (.string ⟨#[]⟩) := c3
        have hck : 11 ≤ ck := own_cap HKr.out
        have hgl := HKr.out.lt
        have HIn : Hid (RdI w w.heap.size 9 (qc 9) u4 wr) := HI.out
        clear HI
        go_upto_region 9 with (go_at_call 15; refine Calls.mono cN.out ?_; rintro e W5 ⟨rfl, rfl⟩)
        go_cut [7, 8] from 11 to 75 (fun s7 s8 wx => ∃ gs gi ci, s7 = .pointer (some ⟨gs, 0, none⟩) ∧ s8 = .slice (some ⟨gi, 0, none⟩) 11 ci ∧ Hid (Mid wr gs gi ci 0 wx))
        case first =>
          have hgk : gk ≠ wr.heap.size := by omega
          go_region_with (go_at_call 17; refine Calls.mono (named_any _ _ _) ?_; rintro e W ⟨gi, ci, rfl, ho, hb⟩; (first | (have ha := Arm.of hb; have hb' := ha.b; have d0 := (hb'.cell (p := ⟨gk, 36, none⟩) hgl).trans c0; have d1 := (hb'.cell (p := ⟨gk, 37, none⟩) hgl).trans c1; have d2 := (hb'.cell (p := ⟨gk, 38, none⟩) hgl).trans c2; have d3 := (hb'.cell (p := ⟨gk, 39, none⟩) hgl).trans c3; have HB : Hid (Below wr.heap.size wr W) := hb'; have HO : Hid (It gi ci (wr.heap.size + 1) W) := Arm.it ho; have HA : Hid (Arm wr W) := ha; obtain ⟨-, z0, z1, z2, z3, zf, zl, -⟩ := ha; have hgW : gk < W.heap.size := Nat.lt_trans hgl zl; clear ho hb hb') | (have hb' : Below wr.heap.size wr W := ⟨hb.os, hb.tape, hb.output, hb.size, hb.block⟩; have d0 := (hb'.cell (p := ⟨gk, 36, none⟩) hgl).trans c0; have d1 := (hb'.cell (p := ⟨gk, 37, none⟩) hgl).trans c1; have d2 := (hb'.cell (p := ⟨gk, 38, none⟩) hgl).trans c2; have d3 := (hb'.cell (p := ⟨gk, 39, none⟩) hgl).trans c3; have HB : Hid (Below wr.heap.size wr W) := hb'; have HO : Hid (It gi ci wr.heap.size W) := ho; have hWs := hb'.size; have hgW : gk < W.heap.size := Nat.lt_of_lt_of_le hgl hWs; have hgN : gk ≠ W.heap.size := Nat.ne_of_lt hgW; clear ho hb hb')))
          all_goals go_wp2_with fail
          all_goals go_meet
          all_goals first | exact ⟨_, gi, ci, rfl, rfl, Mid.a HO.out HB.out⟩ | exact ⟨_, gi, ci, rfl, rfl, Mid.b' HO.out HA.out⟩
        case rest =>
          obtain ⟨gs, gi, ci, rfl, rfl, HM⟩ := hcut
          have HX : Hid (Mid wr gs gi ci 1 (wc.setCell ⟨gs, 2, none⟩ (.int .i64 1))) := HM.out.one
          have k2 := HM.out.k2
          have kf := HM.out.kf
          go_upto_region 11 with fail
          obtain ⟨X, hX⟩ : ∃ X, X = wc.setCell ⟨gs, 2, none⟩ (.int .i64 1) := ⟨_, rfl⟩
          rw [← hX] at HX ⊢
          clear hX k2 kf HM
          have HIX : Hid (RdI w w.heap.size 9 (qc 9) u4 X) := HIn.out.on HX.out.b
          have k0 := HX.out.k0
          have k1 := HX.out.k1
          have k2 := HX.out.k2
          have k3 := HX.out.k3
          obtain ⟨i0, i1, i2, i3⟩ := HX.out.it.head
          have hsz := HIX.out.sz
          have hown' : (X.alloc SB).drew.ownsRow (w.heap.size + 1) 47 5 u4 9 (qc 9) := World.ownsRow.alloc (w := X) HIX.out.own SB
          have hnews' : ∀ j u, stp[j]? = some u → (X.alloc SB).drew.cell? ((⟨X.heap.size, 0, none⟩ : Addr).add j) = some u := news_new (w := X) rfl _ _
          have hbase' : w.heap.size + 1 ≤ (X.alloc SB).drew.heap.size := by show _ ≤ (X.alloc SB).heap.size; rw [size_alloc]; omega
          have HS : Hid _ := And.intro hown' (And.intro hnews' hbase')
          clear hown' hnews' hbase'
          go_cut [4] from 11 to 75 (fun s4 wx => Hid (RdI w w.heap.size 11 (qc 9 ++ stp) s4 wx) ∧ Hid (It gi ci wr.heap.size wx))
          case first =>
            go_region_law ((refine step31 rfl (.tmp 45) (.tmp 52) rfl (w.heap.size + 1) u4 9 (qc 9) (by simp [Act.eval]) HS.out.1 ⟨X.heap.size, 0, none⟩ 2 2 stp (by simp [Act.eval]) rfl HS.out.2.1 stp_one (by decide) (by decide) HS.out.2.2 ?_; intro g9 c9 W9 ho9 hg9 _ _; have HI9 : Hid (RdI w w.heap.size 11 (qc 9 ++ stp) (.slice (some ⟨g9, 0, none⟩) (9 + 2) c9) W9) := (HIX.out.on ((Below.refl _ _).alloc (Nat.le_refl _) _).drew).app rfl ho9 hg9; have HT9 : Hid (It gi ci wr.heap.size W9) := own_grown (w := (X.alloc SB).drew) (World.ownsRow.alloc (w := X) HX.out.it SB) hg9 (fun k hk => own_apart HX.out.it HIX.out.own (by decide) k hk); clear ho9 hg9))
            all_goals go_wp2_with fail
            all_goals go_meet
            all_goals exact ⟨HI9, HT9⟩
          case rest =>
            obtain ⟨HI9, HT9⟩ := hcut
            clear HS k0 k1 k2 k3 i0 i1 i2 i3 HIX hsz
            go_wp2
            go_loopw [4, 9] (fun s4 s9 wx => ∃ j k : Nat, s9 = .int .i64 (k : Int) ∧ Hid (k = j + 1) ∧ k ≤ 11 ∧ Hid (RdI w w.heap.size (11 + j) (qc 9 ++ stp ++ ics j) s4 wx) ∧ Hid (It gi ci 0 wx)) (fun _ s9 _ => 11 - (intOf s9).toNat)
            case atStart => exact ⟨0, 1, rfl, rfl, by omega, by rw [show ics 0 = [] from rfl, List.append_nil]; exact HI9, own_base HT9.out (Nat.zero_le _)⟩
            case round =>
              obtain ⟨j, k, rfl, hkj, hk11, HJ, HT⟩ := hrel
              clear HI9 HT9 HIn
              by_cases hkn : k < 11
              · have hK : (k : Int) < 11 := by omega
                have hj10 : j < 10 := by have := hkj.out; omega
                obtain ⟨e0, e1, e2, e3⟩ := HT.out.cells hj10
                rw [← hkj.out] at e0 e1 e2 e3
                have hv := ivr j hj10
                have cC : Hid _ := cell_any wr w.heap.size (tg (10 + j)) (vr (10 + j)) 0 1 ⟨#[]⟩ HJ.out.tb
                go_wp2_with (first | (go_at_call 16; refine Calls.mono cC.out ?_; rintro e W ⟨rfl, hb⟩; have HJW : Hid (RdI w w.heap.size (11 + j) (qc 9 ++ stp ++ ics j) u4 W) := HJ.out.on hb; have HTW : Hid (It gi ci 0 W) := ownsRow_below HT.out hb (Nat.le_refl _); clear hb) | (at_builtin; refine Stop.mk ?_))
                have hsz := HJW.out.sz
                refine Stop.out (app31 rfl (.tmp 67) (.tmp 74) rfl (w.heap.size + 1) u4 _ _ rfl (World.ownsRow.alloc HJW.out.own _) ⟨W.heap.size, 0, none⟩ 1 1 (ic j) rfl rfl (news_new rfl _ _) (cl_one _ _ _ _ _ (fnK_one _ _)) (by decide) (by omega) (by rw [size_alloc]; omega) ?_)
                intro g9 c9 W9 ho9 hg9 _ _
                have HJ9 : Hid (RdI w w.heap.size (11 + (j + 1)) (qc 9 ++ stp ++ ics (j + 1)) (.slice (some ⟨g9, 0, none⟩) (11 + j + 1) c9) W9) := by
                  rw [ics_next, ← List.append_assoc (qc 9 ++ stp)]
                  exact (HJW.out.on ((Below.refl _ _).alloc (Nat.le_refl _) _)).app rfl ho9 hg9
                have HT9 : Hid (It gi ci 0 W9) := own_grown (World.ownsRow.alloc HTW.out _) hg9 (fun q hq => own_apart HTW.out HJW.out.own (by decide) q hq)
                clear ho9 hg9
                have f2 := (HT9.out.cells hj10).2.2.1
                rw [← hkj.out] at f2
                have cM : Hid _ := next_one W9 gi k 11 ci hkn (by omega) f2
                go_wp2_with (go_at_call 15; refine Calls.mono cM.out ?_; rintro e W5 ⟨rfl, rfl⟩)
                go_roundw
                case rel => exact ⟨j + 1, k + 1, by go_num, by show _ = _; rw [hkj.out], by omega, HJ9, HT9⟩
                case measure => simp [intOf]; omega
              · obtain rfl : k = 11 := by omega
                obtain rfl : j = 10 := by have := hkj.out; omega
                have HJ9 : Hid (RdI w w.heap.size (qn 10) (qc 10) u4 wr) := HJ.out
                go_wp2
                go_roundw
                case rel => exact ⟨10, by go_num, by omega, HJ9⟩
                case measure => simp [intOf]
      · have ht := ktag i hin h9
        have hqn : qn i ≤ 100 := by unfold qn; split <;> omega
        have HQ : Hid (qc (i + 1) = qc i ++ kc i ∧ qn (i + 1) = qn i + 1) := qc_next hin h9
        have cC : Hid _ := cell_any wr w.heap.size (tg (kx i)) (vr (kx i)) 0 0 ⟨#[]⟩ HI.out.tb
        go_wp2_with (first | (go_at_call 15; refine Calls.mono cN.out ?_; rintro e W5 ⟨rfl, rfl⟩) | (go_at_call 16; refine Calls.mono cC.out ?_; rintro e W ⟨rfl, hb⟩; have HIW : Hid (RdI w w.heap.size (qn i) (qc i) u4 W) := HI.out.on hb; clear hb) | (at_builtin; refine Stop.mk ?_))
        have hsz := HIW.out.sz
        refine Stop.out (app31 rfl (.tmp 25) (.tmp 32) rfl (w.heap.size + 1) u4 _ _ rfl (World.ownsRow.alloc HIW.out.own _) ⟨W.heap.size, 0, none⟩ 1 1 (kc i) rfl rfl (news_new rfl _ _) (cl_one _ _ _ _ _ (fnK_one _ _)) (by decide) (by omega) (by rw [size_alloc]; omega) ?_)
        intro g9 c9 W9 ho9 hg9 _ _
        have HI9 : Hid (RdI w w.heap.size (qn (i + 1)) (qc (i + 1)) (.slice (some ⟨g9, 0, none⟩) (qn i + 1) c9) W9) := by
          rw [HQ.out.1, HQ.out.2]
          exact (HIW.out.on ((Below.refl _ _).alloc (Nat.le_refl _) _)).app rfl ho9 hg9
        clear ho9 hg9 HQ
        go_wp2
        go_roundw
        case rel => exact ⟨i + 1, by go_num, by omega, HI9⟩
        case measure => simp [intOf]; omega
    · obtain rfl : i = 11 := by omega
      go_wp2
      rw [Exit.noGoto_ret]
      have ho : wr.ownsRow (w.heap.size + 1) 47 5 u4 22 (qc 11) := HI.out.own
      obtain ⟨g, cap, hv⟩ := owns_succ ho
      have HB := HI.out.b
      subst hv
      go_ret
      exact ⟨g, cap, rfl, own_base ho (by omega), HB⟩
end Go.Proofs.Ytidcjobokfgeoaa
