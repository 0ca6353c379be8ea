import Derived.Test.YtehgeninocbpeaaGreatDoorGB
import Derived.Deep.LoopGhost
import Derived.WalkMore
import Derived.Test.YtehgeninocbpeaaGreatDoorVb
namespace Go.Proofs.YtehgeninocbpeaaGreatDoor.Gl
open Go Go.Proofs Go.RowKit
def Rd (w : World) (a : Option Addr) (l : List Int) : Prop := ∀ k x, l[k]? = some x → ∃ g o, a = some ⟨g, o, none⟩ ∧ w.cell? ⟨g, o + k, none⟩ = some (.int .i32 x)
set_option maxRecDepth 100000 in
set_option maxHeartbeats 1000000 in
theorem isStars_any (w : World) (a : Option Addr) (l : List Int) (n cap : Nat) (hn : l.length = n) (hl : n ≤ 2097152) (h : Rd w a l) :
    Calls Tryz.prog 22 #[.slice a n cap] w fun e w' => e = .returned (.bool (l.all (fun c => decide (c = 42)))) ∧ w = w' := by
  have HR : Hid (Rd w a l) := h
  have HN : Hid (l.length = n) := hn
  generalize hA : l.all (fun c => decide (c = 42)) = A
  have HA : Hid ((l.drop 0).all (fun c => decide (c = 42)) = A) := by show _ = _; rw [List.drop_zero]; exact hA
  clear h hn hA
  go_enter Tryz.func22, Tryz.ntmps22
  go_wp2
  go_loopw [7] (fun y wr => ∃ k : Nat, y = .int .i64 (k : Int) ∧ k ≤ n ∧ Hid ((l.drop k).all (fun c => decide (c = 42)) = A) ∧ w = wr) (fun y _ => n - (intOf y).toNat)
  case atStart => exact ⟨0, rfl, by omega, HA, rfl⟩
  case round =>
    obtain ⟨k, rfl, hk, HK, rfl⟩ := hrel
    by_cases hkn : k < n
    · have hkl : k < l.length := by rw [HN.out]; exact hkn
      obtain ⟨x, hx⟩ : ∃ x, l[k]? = some x := ⟨l[k], List.getElem?_eq_getElem hkl⟩
      obtain ⟨g, o, rfl, hc⟩ := HR.out k x hx
      have h1 := HK.out
      rw [drop_cons hx, List.all_cons] at h1
      by_cases h42 : x = 42
      · subst h42
        have HK2 : Hid ((l.drop (k + 1)).all (fun c => decide (c = 42)) = A) := by show _ = _; rw [← h1]; simp
        clear h1 hx
        have hki : (k : Int) < (n : Int) := by omega
        go_wp2
        go_roundw
        case rel => exact ⟨k + 1, by simp, by omega, HK2, trivial⟩
        case measure => simp [intOf]; omega
      · have hAf : A = false := by rw [← h1]; simp [h42]
        subst hAf
        have h42' : (x == 42) = false := by simpa using h42
        clear h1 hx h42 HA HK
        have hki : (k : Int) < (n : Int) := by omega
        go_wp2
        go_ret
        exact ⟨rfl, rfl⟩
    · obtain rfl : k = n := by omega
      have h1 := HK.out
      rw [List.drop_eq_nil_of_le (by rw [HN.out]; exact Nat.le_refl _)] at h1
      have hAt : A = true := by rw [← h1]; rfl
      subst hAt
      clear h1 HK HA
      go_wp2
      go_ret
      exact ⟨rfl, rfl⟩
theorem own_rd {w : World} {B : Nat} {v : Value} {l : List Int} (h : w.ownsRow B 21 1 v l.length (i32C l)) : ∃ a cap, v = .slice a l.length cap ∧ l.length ≤ cap ∧ (∀ k x, l[k]? = some x → ∃ g, a = some ⟨g, 0, none⟩ ∧ w.cell? ⟨g, k, none⟩ = some (.int .i32 x)) ∧ (l = [] → a = none ∧ cap = 0 ∨ ∃ g, a = some ⟨g, 0, none⟩) := by
  rcases h.2 with ⟨rfl, h0⟩ | ⟨g, cap, cur, rfl, hb, hg, hn, hm, hc, hx⟩
  · refine ⟨none, 0, by rw [h0], by omega, ?_, fun _ => .inl ⟨rfl, rfl⟩⟩
    intro k x hk
    have := (List.getElem?_eq_some_iff.1 hk).1
    omega
  · refine ⟨some ⟨g, 0, none⟩, cap, rfl, hn, ?_, fun _ => .inr ⟨g, rfl⟩⟩
    intro k x hk
    refine ⟨g, rfl, ?_⟩
    have := h.cells (g := g) rfl k (.int .i32 x) (by unfold i32C; rw [List.getElem?_map, hk]; rfl)
    have hadd : (⟨g, 0, none⟩ : Addr).add k = ⟨g, k, none⟩ := by unfold Addr.add; split <;> simp_all
    rw [hadd] at this
    exact this
theorem elements_rd (w : World) (s : ByteArray) (hs : s.size ≤ 2097152) :
    Calls Tryz.prog 21 #[.string s] w fun e w' => ∃ v, e = .returned v ∧ w'.ownsRow w.heap.size 21 1 v (elems s).length (i32C (elems s)) ∧ Below w.heap.size w w' := elements_any w s hs
theorem els_len (s : ByteArray) : ∀ fuel pos, (els s fuel pos).length ≤ fuel
  | 0, _ => by simp [els]
  | f + 1, pos => by
    rw [els]
    split
    · have := els_len s f (pos + (Utf8.decode s pos).2)
      simp; omega
    · simp
theorem elems_len (s : ByteArray) : (elems s).length ≤ s.size := els_len s _ _
set_option maxRecDepth 100000 in
set_option maxHeartbeats 1000000 in
theorem glob_any (w : World) (p t : ByteArray) (hp : p.size ≤ 2097152) (ht : t.size ≤ 2097152) :
    Calls Tryz.prog 10 #[.string p, .string t] w fun e w' => e = .returned (.bool (gm (elems p) (elems t))) ∧ Below w.heap.size w w' := by
  have c1 := elements_rd w p hp
  have c2 := fun W => elements_rd W t ht
  have HP : Hid ((elems p).length ≤ 2097152) := Nat.le_trans (elems_len p) hp
  have HT : Hid ((elems t).length ≤ 2097152) := Nat.le_trans (elems_len t) ht
  generalize elems p = P at *
  generalize elems t = T at *
  clear hp ht
  have HI0 : Hid (Inv P T (gm P T) 0 (-1) 0 0) := inv_start P T
  generalize gm P T = R at HI0 ⊢
  go_enter Tryz.func10, Tryz.ntmps10
  go_wp2
  go_step3
  go_wp2_with (go_at_call 21; refine Stop.mk ?_)
  refine Stop.out (c1.mono ?_)
  rintro e W1 ⟨v1, rfl, ho1, hb1⟩
  go_wp2_with (go_at_call 21; refine Stop.mk ?_)
  refine Stop.out ((c2 W1).mono ?_)
  rintro e W2 ⟨v2, rfl, ho2, hb2⟩
  obtain ⟨a1, cap1, rfl, hcp1, hr1, hz1⟩ := own_rd ho1
  obtain ⟨a2, cap2, rfl, hcp2, hr2, hz2⟩ := own_rd ho2
  have hB : Below w.heap.size w W2 := hb1.trans (hb2.mono hb1.size)
  have hr1' : ∀ k x, P[k]? = some x → ∃ g, a1 = some ⟨g, 0, none⟩ ∧ W2.cell? ⟨g, k, none⟩ = some (.int .i32 x) := fun k x hk => by
    obtain ⟨g, hg, hc⟩ := hr1 k x hk
    exact ⟨g, hg, (hb2.cell (p := ⟨g, k, none⟩) (World.block_lt_of_cell? W1 ⟨g, k, none⟩ hc)).trans hc⟩
  have HR1 : Hid (∀ k x, P[k]? = some x → ∃ g, a1 = some ⟨g, 0, none⟩ ∧ W2.cell? ⟨g, k, none⟩ = some (.int .i32 x)) := hr1'
  have HR2 : Hid (∀ k x, T[k]? = some x → ∃ g, a2 = some ⟨g, 0, none⟩ ∧ W2.cell? ⟨g, k, none⟩ = some (.int .i32 x)) := hr2
  have HZ1 : Hid ((a1 = none ∧ P = [] ∧ cap1 = 0) ∨ ∃ g, a1 = some ⟨g, 0, none⟩) := by
    cases hP : P with
    | nil =>
      rcases hz1 hP with ⟨h1, h2⟩ | h
      · exact .inl ⟨h1, rfl, h2⟩
      · exact .inr h
    | cons c P' =>
      obtain ⟨g, hg, _⟩ := hr1' 0 c (by rw [hP]; rfl)
      exact .inr ⟨g, hg⟩
  have HBw : Hid (Below w.heap.size w W2) := hB
  obtain ⟨n, hn⟩ : ∃ n, P.length = n := ⟨_, rfl⟩
  obtain ⟨m, hm⟩ : ∃ m, T.length = m := ⟨_, rfl⟩
  have HN : Hid (P.length = n) := hn
  have HM : Hid (T.length = m) := hm
  rw [hn] at hcp1
  rw [hm] at hcp2
  have hn2 : n ≤ 2097152 := hn ▸ HP.out
  have hm2 : m ≤ 2097152 := hm ▸ HT.out
  rw [hn, hm]
  clear hr1 hr1' hr2 hz1 hz2 ho1 ho2 hb1 hb2 hB c1 c2 HP HT hn hm
  go_wp2
  go_step3
  go_wp2
  go_loopg [7, 8, 9] m (fun g s7 s8 s9 wx => ∃ (i fr : Nat) (star : Int), s7 = .int .i64 (i : Int) ∧ s8 = .int .i64 star ∧ s9 = .int .i64 (fr : Int) ∧ g + fr = m ∧ Hid (Inv P T R i star fr fr) ∧ Hid (Below W2.heap.size W2 wx))
  case atStart => exact ⟨0, 0, -1, rfl, rfl, rfl, by omega, HI0, Below.refl _ _⟩
  case round =>
    obtain ⟨i0, fr0, st0, rfl, rfl, rfl, hg, HI, HBx⟩ := hrel
    go_wp2
    go_loopg [7, 8, 9, 10] (m - fr0) (fun g s7 s8 s9 s10 wx => ∃ (i fr j : Nat) (star : Int), s7 = .int .i64 (i : Int) ∧ s8 = .int .i64 star ∧ s9 = .int .i64 (fr : Int) ∧ s10 = .int .i64 (j : Int) ∧ g + j = m ∧ fr0 ≤ fr ∧ Hid (Inv P T R i star fr j) ∧ Hid (Below W2.heap.size W2 wx))
    case atStart => exact ⟨i0, fr0, fr0, st0, rfl, rfl, rfl, rfl, by omega, by omega, HI, HBx⟩
    case round =>
      clear HI HBx
      obtain ⟨i, fr, j, st, rfl, rfl, rfl, rfl, hg2, hfr, HI, HBx⟩ := hrel
      have hin : i ≤ n := by have := HI.out.1; rw [HN.out] at this; exact this
      by_cases hjm : j < m
      · have hjI : (j : Int) < (m : Int) := by omega
        go_wp2
        go_loopg [7, 8, 9] (n - i) (fun g s7 s8 s9 wx => ∃ (i fr : Nat) (star : Int), s7 = .int .i64 (i : Int) ∧ s8 = .int .i64 star ∧ s9 = .int .i64 (fr : Int) ∧ g + i = n ∧ fr0 ≤ fr ∧ Hid (Inv P T R i star fr j) ∧ Hid (Below W2.heap.size W2 wx))
        case atStart => exact ⟨i, fr, st, rfl, rfl, rfl, by omega, hfr, HI, HBx⟩
        case round =>
          clear HI HBx hin hfr
          obtain ⟨i', fr', st', rfl, rfl, rfl, hg3, hfr', HI, HBx⟩ := hrel
          by_cases h42 : P[i']? = some 42
          · obtain ⟨g1, rfl, hc⟩ := HR1.out i' 42 h42
            have hc' := (HBx.out.cell (p := ⟨g1, i', none⟩) (World.block_lt_of_cell? W2 ⟨g1, i', none⟩ hc)).trans hc
            have hil : i' < n := by rw [← HN.out]; exact (List.getElem?_eq_some_iff.1 h42).1
            have hiI : (i' : Int) < (n : Int) := by omega
            have HI2 : Hid (Inv P T R (i' + 1) (i' : Nat) j j) := inv_star HI.out h42
            have hfj : fr' ≤ j := HI.out.2.1
            clear hc h42
            go_wp2
            go_roundg (n - (i' + 1))
            case measure => omega
            case rel => exact ⟨i' + 1, j, (i' : Nat), by first | rfl | simp, rfl, rfl, by omega, by omega, HI2, HBx⟩
          · obtain ⟨x, hx⟩ : ∃ x, T[j]? = some x := ⟨T[j]'(by rw [HM.out]; exact hjm), List.getElem?_eq_getElem (by rw [HM.out]; exact hjm)⟩
            have hil : i' ≤ n := by have := HI.out.1; rw [HN.out] at this; exact this
            by_cases hie : i' = n
            · have hmiss := miss (P := P) (i := i') hx (.inl (hie.trans HN.out.symm))
              have hniI : ¬ ((i' : Int) < (n : Int)) := by omega
              clear hx h42
              rcases HI.out.2.2.2 with ⟨hst, _⟩ | ⟨st2, hst, _⟩
              · subst hst
                obtain rfl : R = false := inv_lost HI.out hmiss
                clear hmiss HI HI0
                go_wp2
                go_quiet (fail)
                go_wp2
                rw [Exit.noGoto_ret]
                go_ret
                exact ⟨rfl, HBw.out.trans (below_drewN (HBx.out.mono HBw.out.size) _)⟩
              · subst hst
                have HI2 : Hid (Inv P T R (st2 + 1) (st2 : Nat) (fr' + 1) (fr' + 1)) := inv_back HI.out (by rw [HM.out]; exact hjm) hmiss
                have hf2 : fr' ≤ j := HI.out.2.1
                have hst0 : decide ((st2 : Int) < 0) = false := by simp
                clear hmiss HI HI0
                go_wp2
                go_quiet (fail)
                go_wp2
                go_roundg (m - (fr' + 1))
                case measure => omega
                case rel => exact ⟨st2 + 1, fr' + 1, (st2 : Nat), by first | rfl | simp, rfl, by first | rfl | simp, by omega, HI2, below_drewN HBx.out _⟩
            · have hil2 : i' < P.length := by rw [HN.out]; omega
              obtain ⟨c, hc⟩ : ∃ c, P[i']? = some c := ⟨P[i'], List.getElem?_eq_getElem hil2⟩
              obtain ⟨g1, rfl, hcc⟩ := HR1.out i' c hc
              obtain ⟨g2, rfl, hcx⟩ := HR2.out j x hx
              have hc1 := (HBx.out.cell (p := ⟨g1, i', none⟩) (World.block_lt_of_cell? W2 ⟨g1, i', none⟩ hcc)).trans hcc
              have hc2 := (HBx.out.cell (p := ⟨g2, j, none⟩) (World.block_lt_of_cell? W2 ⟨g2, j, none⟩ hcx)).trans hcx
              have hiI : (i' : Int) < (n : Int) := by omega
              have n42 : c ≠ 42 := fun h => h42 (h ▸ hc)
              have h42' : (c == 42) = false := by simpa using n42
              clear hcc hcx h42
              by_cases h63 : c = 63
              · have HI2 : Hid (Inv P T R (i' + 1) st' fr' (j + 1)) := inv_step HI.out hc n42 hx (.inl h63)
                subst h63
                clear hc hx n42
                go_wp2
                go_quiet (fail)
                go_wp2
                go_roundg (m - (j + 1))
                case measure => omega
                case rel => exact ⟨i' + 1, fr', j + 1, st', by first | rfl | simp, rfl, rfl, by first | rfl | simp, by omega, hfr', HI2, below_drewN HBx.out _⟩
              · have h63' : (c == 63) = false := by simpa using h63
                by_cases hcx : c = x
                · have HI2 : Hid (Inv P T R (i' + 1) st' fr' (j + 1)) := inv_step HI.out hc n42 hx (.inr hcx)
                  subst hcx
                  clear hc hx n42 h63
                  go_wp2
                  go_quiet (fail)
                  go_wp2
                  go_roundg (m - (j + 1))
                  case measure => omega
                  case rel => exact ⟨i' + 1, fr', j + 1, st', by first | rfl | simp, rfl, rfl, by first | rfl | simp, by omega, hfr', HI2, below_drewN HBx.out _⟩
                · have hmiss := miss (P := P) (i := i') hx (.inr ⟨c, hc, n42, h63, hcx⟩)
                  have hcx' : (c == x) = false := by simpa using hcx
                  clear hc hx n42 h63 hcx
                  rcases HI.out.2.2.2 with ⟨hst, _⟩ | ⟨st2, hst, _⟩
                  · subst hst
                    obtain rfl : R = false := inv_lost HI.out hmiss
                    clear hmiss HI HI0
                    go_wp2
                    go_quiet (fail)
                    go_wp2
                    rw [Exit.noGoto_ret]
                    go_ret
                    exact ⟨rfl, HBw.out.trans (below_drewN (HBx.out.mono HBw.out.size) _)⟩
                  · subst hst
                    have HI2 : Hid (Inv P T R (st2 + 1) (st2 : Nat) (fr' + 1) (fr' + 1)) := inv_back HI.out (by rw [HM.out]; exact hjm) hmiss
                    have hf2 : fr' ≤ j := HI.out.2.1
                    have hst0 : decide ((st2 : Int) < 0) = false := by simp
                    clear hmiss HI HI0
                    go_wp2
                    go_quiet (fail)
                    go_wp2
                    go_roundg (m - (fr' + 1))
                    case measure => omega
                    case rel => exact ⟨st2 + 1, fr' + 1, (st2 : Nat), by first | rfl | simp, rfl, by first | rfl | simp, by omega, HI2, below_drewN HBx.out _⟩
      · obtain rfl : j = m := by omega
        have hR := inv_end HI.out HM.out.symm
        have hiI : (i : Int) ≤ (n : Int) := by omega
        rcases HZ1.out with ⟨rfl, hP, rfl⟩ | ⟨g1, rfl⟩
        · obtain rfl : n = 0 := by have := HN.out; rw [hP] at this; simpa using this.symm
          obtain rfl : i = 0 := by omega
          have c := isStars_any wr none (P.drop 0) 0 0 (by rw [hP]; rfl) (by omega) (fun k x hk => by rw [hP] at hk; simp at hk)
          rw [← hR] at c
          clear HI HI0 hR
          go_wp2_with (go_at_call 22; refine c.mono ?_; rintro e w' ⟨rfl, rfl⟩)
          rw [Exit.noGoto_ret]
          go_ret
          exact ⟨rfl, HBw.out.trans (HBx.out.mono HBw.out.size)⟩
        · have c := isStars_any wr (some ⟨g1, i, none⟩) (P.drop i) (n - i) (cap1 - i) (by rw [List.length_drop, HN.out]) (by omega) (fun k x hk => by
            rw [List.getElem?_drop] at hk
            obtain ⟨g, hg, hc⟩ := HR1.out (i + k) x hk
            obtain rfl : g1 = g := by simpa using hg
            exact ⟨g1, i, rfl, (HBx.out.cell (p := ⟨g1, i + k, none⟩) (World.block_lt_of_cell? W2 ⟨g1, i + k, none⟩ hc)).trans hc⟩)
          have c' : cap1 - i = 0 → Calls Tryz.prog 22 #[.slice (some ⟨g1, 0, none⟩) (n - i : Nat) 0] wr fun e w' => e = .returned (.bool ((P.drop i).all (fun c => decide (c = 42)))) ∧ wr = w' := fun h0 =>
            isStars_any wr (some ⟨g1, 0, none⟩) (P.drop i) (n - i) 0 (by rw [List.length_drop, HN.out]) (by omega) (fun k x hk => by
              have := (List.getElem?_eq_some_iff.1 hk).1
              rw [List.length_drop, HN.out] at this
              omega)
          rw [← hR] at c c'
          clear HI HI0 hR
          go_wp2_with (go_at_call 22; refine Stop.mk ?_)
          · refine Stop.out ((c' (by omega)).mono ?_)
            rintro e w' ⟨rfl, rfl⟩
            go_wp2
            rw [Exit.noGoto_ret]
            go_ret
            exact ⟨rfl, HBw.out.trans (HBx.out.mono HBw.out.size)⟩
          · refine Stop.out (c.mono ?_)
            rintro e w' ⟨rfl, rfl⟩
            go_wp2
            rw [Exit.noGoto_ret]
            go_ret
            exact ⟨rfl, HBw.out.trans (HBx.out.mono HBw.out.size)⟩
end Go.Proofs.YtehgeninocbpeaaGreatDoor.Gl

namespace Go.Proofs.YtehgeninocbpeaaGreatDoor.Tm
open Go Go.Proofs Go.RowKit
set_option maxRecDepth 100000 in
set_option maxHeartbeats 2000000 in
theorem indexFunc35 (W : World) (g cap : Nat) (xs : List ByteArray) (hn : xs.length ≤ 1000000000000) (cells : ∀ i (h : i < xs.length), W.cell? ⟨g, i, none⟩ = some (.string xs[i])) (m : ByteArray → Bool)
    (hc : ∀ W', Below W.heap.size W W' → ∀ u ∈ xs, Calls Tryz.prog 35 #[.string u] W' (BoolP W' (m u))) :
    Calls Tryz.prog 47 #[.slice (some ⟨g, 0, none⟩) xs.length cap, .func (.func 35) #[] #[]] W fun e w' => e = .returned (.int .i64 (fdx m xs 0)) ∧ Below W.heap.size W w' := by
  obtain ⟨R, hR⟩ : ∃ R, fdx m xs 0 = R := ⟨_, rfl⟩
  have HR : Hid (fdx m (xs.drop 0) 0 = R) := hR
  rw [hR]
  obtain ⟨n, hl⟩ : ∃ n, xs.length = n := ⟨_, rfl⟩
  have HL : Hid (xs.length = n) := hl
  have HCe : Hid (∀ i (h : i < xs.length), W.cell? ⟨g, i, none⟩ = some (.string xs[i])) := cells
  have HC : Hid _ := hc
  rw [hl] at hn ⊢
  clear hR cells hc hl
  go_enter Tryz.func47, Tryz.ntmps47
  go_wp2
  go_loopg [8] n (fun k s8 wx => ∃ i : Nat, s8 = .int .i64 (i : Int) ∧ i ≤ n ∧ k + i = n ∧ Hid (fdx m (xs.drop i) i = R) ∧ Hid (Below W.heap.size W wx))
  case atStart => exact ⟨0, rfl, by omega, by omega, HR, Below.refl _ _⟩
  case round =>
    obtain ⟨i, rfl, hi, hg, HI, HB⟩ := hrel
    by_cases hlt : i < n
    · have hlx : i < xs.length := by have := HL.out; omega
      obtain ⟨u, hu⟩ : ∃ u, xs[i] = u := ⟨_, rfl⟩
      have cl : wr.cell? ⟨g, i, none⟩ = some (.string u) := by
        have h0 := HCe.out i hlx
        rw [hu] at h0
        exact (HB.out.cell (cell_lt h0)).trans h0
      have c := HC.out wr HB.out u (by rw [← hu]; exact List.getElem_mem hlx)
      have HI2 : Hid ((if m u = true then (i : Int) else fdx m (xs.drop (i + 1)) (i + 1)) = R) := by
        have := HI.out
        rw [List.drop_eq_getElem_cons hlx, fdx, hu] at this
        exact this
      clear HI hlx hu
      cases hm : m u with
      | true =>
        rw [hm] at c
        have e : Hid ((i : Int) = R) := by have := HI2.out; rw [if_pos hm] at this; exact this
        clear HI2 hm
        go_wp2_with (go_at_call 35; refine Stop.mk ?_)
        refine Stop.out (c.mono ?_)
        rintro e2 W2 ⟨rfl, hb2⟩
        have HB2 : Hid (Below W.heap.size W W2) := HB.out.trans (hb2.mono HB.out.size)
        clear hb2 c
        go_wp2
        go_ret
        exact ⟨by rw [← e.out]; rfl, HB2.out⟩
      | false =>
        rw [hm] at c
        have HI3 : Hid (fdx m (xs.drop (i + 1)) (i + 1) = R) := by have := HI2.out; rw [if_neg (by rw [hm]; simp)] at this; exact this
        clear HI2 hm
        go_wp2_with (go_at_call 35; refine Stop.mk ?_)
        refine Stop.out (c.mono ?_)
        rintro e2 W2 ⟨rfl, hb2⟩
        have HB2 : Hid (Below W.heap.size W W2) := HB.out.trans (hb2.mono HB.out.size)
        clear hb2 c
        go_wp2
        go_roundg (n - (i + 1))
        case measure => omega
        case rel => exact ⟨i + 1, by simp, by omega, by omega, HI3, HB2⟩
    · have e : Hid ((-1 : Int) = R) := by
        have := HI.out
        rw [List.drop_eq_nil_of_le (by have := HL.out; omega), fdx] at this
        exact this
      clear HI
      go_wp2
      go_ret
      exact ⟨by rw [← e.out]; rfl, HB.out⟩
set_option maxRecDepth 100000 in
theorem contains35 (W : World) (g cap : Nat) (xs : List ByteArray) (hn : xs.length ≤ 1000000000000) (cells : ∀ i (h : i < xs.length), W.cell? ⟨g, i, none⟩ = some (.string xs[i])) (m : ByteArray → Bool)
    (hc : ∀ W', Below W.heap.size W W' → ∀ u ∈ xs, Calls Tryz.prog 35 #[.string u] W' (BoolP W' (m u))) :
    Calls Tryz.prog 19 #[.slice (some ⟨g, 0, none⟩) xs.length cap, .func (.func 35) #[] #[]] W (BoolP W (xs.any m)) := by
  have c := indexFunc35 W g cap xs hn cells m hc
  have e := fdx_any m xs 0
  have b := fdx_le m xs 0
  rw [← e]
  generalize fdx m xs 0 = R at *
  clear hc cells e
  generalize xs.length = n at *
  go_enter Tryz.func19, Tryz.ntmps19
  go_wp2_with (go_at_call 47; refine Stop.mk ?_)
  refine Stop.out (c.mono ?_)
  rintro e W1 ⟨rfl, hb⟩
  go_wp2
  go_ret
  exact ⟨rfl, hb⟩
set_option maxRecDepth 100000 in
set_option maxHeartbeats 2000000 in
theorem indexFunc38 (W : World) (g cap : Nat) (xs : List ByteArray) (hn : xs.length ≤ 1000000000000) (cells : ∀ i (h : i < xs.length), W.cell? ⟨g, i, none⟩ = some (.string xs[i])) (p0 : Nat) (m : ByteArray → Bool)
    (hc : ∀ W', Below W.heap.size W W' → ∀ u ∈ xs, Calls Tryz.prog 38 #[.string u, ptr p0] W' (BoolP W' (m u))) :
    Calls Tryz.prog 47 #[.slice (some ⟨g, 0, none⟩) xs.length cap, .func (.func 38) #[] #[ptr p0]] W fun e w' => e = .returned (.int .i64 (fdx m xs 0)) ∧ Below W.heap.size W w' := by
  unfold ptr at hc ⊢
  obtain ⟨R, hR⟩ : ∃ R, fdx m xs 0 = R := ⟨_, rfl⟩
  have HR : Hid (fdx m (xs.drop 0) 0 = R) := hR
  rw [hR]
  obtain ⟨n, hl⟩ : ∃ n, xs.length = n := ⟨_, rfl⟩
  have HL : Hid (xs.length = n) := hl
  have HCe : Hid (∀ i (h : i < xs.length), W.cell? ⟨g, i, none⟩ = some (.string xs[i])) := cells
  have HC : Hid _ := hc
  rw [hl] at hn ⊢
  clear hR cells hc hl
  go_enter Tryz.func47, Tryz.ntmps47
  go_wp2
  go_loopg [8] n (fun k s8 wx => ∃ i : Nat, s8 = .int .i64 (i : Int) ∧ i ≤ n ∧ k + i = n ∧ Hid (fdx m (xs.drop i) i = R) ∧ Hid (Below W.heap.size W wx))
  case atStart => exact ⟨0, rfl, by omega, by omega, HR, Below.refl _ _⟩
  case round =>
    obtain ⟨i, rfl, hi, hg, HI, HB⟩ := hrel
    by_cases hlt : i < n
    · have hlx : i < xs.length := by have := HL.out; omega
      obtain ⟨u, hu⟩ : ∃ u, xs[i] = u := ⟨_, rfl⟩
      have cl : wr.cell? ⟨g, i, none⟩ = some (.string u) := by
        have h0 := HCe.out i hlx
        rw [hu] at h0
        exact (HB.out.cell (cell_lt h0)).trans h0
      have c := HC.out wr HB.out u (by rw [← hu]; exact List.getElem_mem hlx)
      have HI2 : Hid ((if m u = true then (i : Int) else fdx m (xs.drop (i + 1)) (i + 1)) = R) := by
        have := HI.out
        rw [List.drop_eq_getElem_cons hlx, fdx, hu] at this
        exact this
      clear HI hlx hu
      cases hm : m u with
      | true =>
        rw [hm] at c
        have e : Hid ((i : Int) = R) := by have := HI2.out; rw [if_pos hm] at this; exact this
        clear HI2 hm
        go_wp2_with (go_at_call 38; refine Stop.mk ?_)
        refine Stop.out (c.mono ?_)
        rintro e2 W2 ⟨rfl, hb2⟩
        have HB2 : Hid (Below W.heap.size W W2) := HB.out.trans (hb2.mono HB.out.size)
        clear hb2 c
        go_wp2
        go_ret
        exact ⟨by rw [← e.out]; rfl, HB2.out⟩
      | false =>
        rw [hm] at c
        have HI3 : Hid (fdx m (xs.drop (i + 1)) (i + 1) = R) := by have := HI2.out; rw [if_neg (by rw [hm]; simp)] at this; exact this
        clear HI2 hm
        go_wp2_with (go_at_call 38; refine Stop.mk ?_)
        refine Stop.out (c.mono ?_)
        rintro e2 W2 ⟨rfl, hb2⟩
        have HB2 : Hid (Below W.heap.size W W2) := HB.out.trans (hb2.mono HB.out.size)
        clear hb2 c
        go_wp2
        go_roundg (n - (i + 1))
        case measure => omega
        case rel => exact ⟨i + 1, by simp, by omega, by omega, HI3, HB2⟩
    · have e : Hid ((-1 : Int) = R) := by
        have := HI.out
        rw [List.drop_eq_nil_of_le (by have := HL.out; omega), fdx] at this
        exact this
      clear HI
      go_wp2
      go_ret
      exact ⟨by rw [← e.out]; rfl, HB.out⟩
set_option maxRecDepth 100000 in
theorem contains38 (W : World) (g cap : Nat) (xs : List ByteArray) (hn : xs.length ≤ 1000000000000) (cells : ∀ i (h : i < xs.length), W.cell? ⟨g, i, none⟩ = some (.string xs[i])) (p0 : Nat) (m : ByteArray → Bool)
    (hc : ∀ W', Below W.heap.size W W' → ∀ u ∈ xs, Calls Tryz.prog 38 #[.string u, ptr p0] W' (BoolP W' (m u))) :
    Calls Tryz.prog 19 #[.slice (some ⟨g, 0, none⟩) xs.length cap, .func (.func 38) #[] #[ptr p0]] W (BoolP W (xs.any m)) := by
  have c := indexFunc38 W g cap xs hn cells p0 m hc
  have e := fdx_any m xs 0
  have b := fdx_le m xs 0
  rw [← e]
  generalize fdx m xs 0 = R at *
  clear hc cells e
  generalize xs.length = n at *
  unfold ptr at c ⊢
  go_enter Tryz.func19, Tryz.ntmps19
  go_wp2_with (go_at_call 47; refine Stop.mk ?_)
  refine Stop.out (c.mono ?_)
  rintro e W1 ⟨rfl, hb⟩
  go_wp2
  go_ret
  exact ⟨rfl, hb⟩
set_option maxRecDepth 100000 in
set_option maxHeartbeats 2000000 in
theorem indexFunc99 (W : World) (g cap : Nat) (xs : List ByteArray) (hn : xs.length ≤ 1000000000000) (cells : ∀ i (h : i < xs.length), W.cell? ⟨g, i, none⟩ = some (.string xs[i])) (p0 : Nat) (m : ByteArray → Bool)
    (hc : ∀ W', Below W.heap.size W W' → ∀ u ∈ xs, Calls Tryz.prog 99 #[.string u, ptr p0] W' (BoolP W' (m u))) :
    Calls Tryz.prog 47 #[.slice (some ⟨g, 0, none⟩) xs.length cap, .func (.func 99) #[] #[ptr p0]] W fun e w' => e = .returned (.int .i64 (fdx m xs 0)) ∧ Below W.heap.size W w' := by
  unfold ptr at hc ⊢
  obtain ⟨R, hR⟩ : ∃ R, fdx m xs 0 = R := ⟨_, rfl⟩
  have HR : Hid (fdx m (xs.drop 0) 0 = R) := hR
  rw [hR]
  obtain ⟨n, hl⟩ : ∃ n, xs.length = n := ⟨_, rfl⟩
  have HL : Hid (xs.length = n) := hl
  have HCe : Hid (∀ i (h : i < xs.length), W.cell? ⟨g, i, none⟩ = some (.string xs[i])) := cells
  have HC : Hid _ := hc
  rw [hl] at hn ⊢
  clear hR cells hc hl
  go_enter Tryz.func47, Tryz.ntmps47
  go_wp2
  go_loopg [8] n (fun k s8 wx => ∃ i : Nat, s8 = .int .i64 (i : Int) ∧ i ≤ n ∧ k + i = n ∧ Hid (fdx m (xs.drop i) i = R) ∧ Hid (Below W.heap.size W wx))
  case atStart => exact ⟨0, rfl, by omega, by omega, HR, Below.refl _ _⟩
  case round =>
    obtain ⟨i, rfl, hi, hg, HI, HB⟩ := hrel
    by_cases hlt : i < n
    · have hlx : i < xs.length := by have := HL.out; omega
      obtain ⟨u, hu⟩ : ∃ u, xs[i] = u := ⟨_, rfl⟩
      have cl : wr.cell? ⟨g, i, none⟩ = some (.string u) := by
        have h0 := HCe.out i hlx
        rw [hu] at h0
        exact (HB.out.cell (cell_lt h0)).trans h0
      have c := HC.out wr HB.out u (by rw [← hu]; exact List.getElem_mem hlx)
      have HI2 : Hid ((if m u = true then (i : Int) else fdx m (xs.drop (i + 1)) (i + 1)) = R) := by
        have := HI.out
        rw [List.drop_eq_getElem_cons hlx, fdx, hu] at this
        exact this
      clear HI hlx hu
      cases hm : m u with
      | true =>
        rw [hm] at c
        have e : Hid ((i : Int) = R) := by have := HI2.out; rw [if_pos hm] at this; exact this
        clear HI2 hm
        go_wp2_with (go_at_call 99; refine Stop.mk ?_)
        refine Stop.out (c.mono ?_)
        rintro e2 W2 ⟨rfl, hb2⟩
        have HB2 : Hid (Below W.heap.size W W2) := HB.out.trans (hb2.mono HB.out.size)
        clear hb2 c
        go_wp2
        go_ret
        exact ⟨by rw [← e.out]; rfl, HB2.out⟩
      | false =>
        rw [hm] at c
        have HI3 : Hid (fdx m (xs.drop (i + 1)) (i + 1) = R) := by have := HI2.out; rw [if_neg (by rw [hm]; simp)] at this; exact this
        clear HI2 hm
        go_wp2_with (go_at_call 99; refine Stop.mk ?_)
        refine Stop.out (c.mono ?_)
        rintro e2 W2 ⟨rfl, hb2⟩
        have HB2 : Hid (Below W.heap.size W W2) := HB.out.trans (hb2.mono HB.out.size)
        clear hb2 c
        go_wp2
        go_roundg (n - (i + 1))
        case measure => omega
        case rel => exact ⟨i + 1, by simp, by omega, by omega, HI3, HB2⟩
    · have e : Hid ((-1 : Int) = R) := by
        have := HI.out
        rw [List.drop_eq_nil_of_le (by have := HL.out; omega), fdx] at this
        exact this
      clear HI
      go_wp2
      go_ret
      exact ⟨by rw [← e.out]; rfl, HB.out⟩
set_option maxRecDepth 100000 in
theorem contains99 (W : World) (g cap : Nat) (xs : List ByteArray) (hn : xs.length ≤ 1000000000000) (cells : ∀ i (h : i < xs.length), W.cell? ⟨g, i, none⟩ = some (.string xs[i])) (p0 : Nat) (m : ByteArray → Bool)
    (hc : ∀ W', Below W.heap.size W W' → ∀ u ∈ xs, Calls Tryz.prog 99 #[.string u, ptr p0] W' (BoolP W' (m u))) :
    Calls Tryz.prog 19 #[.slice (some ⟨g, 0, none⟩) xs.length cap, .func (.func 99) #[] #[ptr p0]] W (BoolP W (xs.any m)) := by
  have c := indexFunc99 W g cap xs hn cells p0 m hc
  have e := fdx_any m xs 0
  have b := fdx_le m xs 0
  rw [← e]
  generalize fdx m xs 0 = R at *
  clear hc cells e
  generalize xs.length = n at *
  unfold ptr at c ⊢
  go_enter Tryz.func19, Tryz.ntmps19
  go_wp2_with (go_at_call 47; refine Stop.mk ?_)
  refine Stop.out (c.mono ?_)
  rintro e W1 ⟨rfl, hb⟩
  go_wp2
  go_ret
  exact ⟨rfl, hb⟩
theorem clos35 (W : World) (u : ByteArray) : Calls Tryz.prog 35 #[.string u] W (BoolP W true) := by
  go_enter Tryz.func35, Tryz.ntmps35
  go_wp2
  go_ret
  exact ⟨rfl, Below.refl _ _⟩
def fits (p u : ByteArray) : Bool := Gl.gm (Gl.elems p) (Gl.elems u)
theorem clos38 (W : World) (p : Nat) (key u : ByteArray) (hp : W.cell? ⟨p, 0, none⟩ = some (.string key)) (hk : key.size ≤ 2097152) (hu : u.size ≤ 2097152) : Calls Tryz.prog 38 #[.string u, ptr p] W (BoolP W (fits key u)) := by
  have c := Gl.glob_any W key u hk hu
  unfold fits ptr
  generalize Gl.gm (Gl.elems key) (Gl.elems u) = Z at *
  go_enter Tryz.func38, Tryz.ntmps38
  go_wp2_with (go_at_call 10; refine Stop.mk ?_)
  refine Stop.out (c.mono ?_)
  rintro e W1 ⟨rfl, hb⟩
  go_wp2
  go_ret
  exact ⟨rfl, hb⟩
theorem clos99 (W : World) (p : Nat) (key u : ByteArray) (hp : W.cell? ⟨p, 0, none⟩ = some (.string key)) (hk : key.size ≤ 2097152) (hu : u.size ≤ 2097152) : Calls Tryz.prog 99 #[.string u, ptr p] W (BoolP W (fits key u)) := by
  have c := Gl.glob_any W key u hk hu
  unfold fits ptr
  generalize Gl.gm (Gl.elems key) (Gl.elems u) = Z at *
  go_enter Tryz.func99, Tryz.ntmps99
  go_wp2_with (go_at_call 10; refine Stop.mk ?_)
  refine Stop.out (c.mono ?_)
  rintro e W1 ⟨rfl, hb⟩
  go_wp2
  go_ret
  exact ⟨rfl, hb⟩
theorem cells_of {W W' : World} {xs : List ByteArray} (h : W.alloc (.cells (xs.map Value.string).toArray 9) = W') : ∀ i (hi : i < xs.length), W'.cell? ⟨W.heap.size, i, none⟩ = some (.string xs[i]) := fun i hi => by
  rw [← h]
  have := (World.rowIs_alloc W (xs.map Value.string).toArray 9 (fun k => (xs.map Value.string).toArray.getD k undef) (row_lit _)).cell (i := i) (by simp; exact hi)
  rw [this]
  simp [Array.getD, hi]
theorem matcher_none (w : World) (vr : Int) : Calls Tryz.prog 17 #[.int .i64 vr, .string ⟨#[]⟩] w fun e w' => e = .returned (.tuple #[.func (.func 35) #[] #[], .nilIface]) ∧ Below w.heap.size w w' := by
  go_enter Tryz.func17, Tryz.ntmps17
  go_wp2
  refine bodyPost_ret (v := .tuple #[.func (.func 35) #[] #[], .nilIface]) (by simp [results, Tryz.results17, go_sem]) rfl ⟨rfl, (Below.refl _ _).alloc (Nat.le_refl _) _⟩
set_option maxRecDepth 100000 in
set_option maxHeartbeats 2000000 in
theorem match_none (w : World) (vr : Int) (v : ByteArray) (hvs : v.size ≤ 8000000) (hR : Rt w) : Calls Tryz.prog 6 #[.int .i64 vr, .string ⟨#[]⟩, .string v] w fun e w' => e = .returned (.tuple #[.bool true, .nilIface]) ∧ Below w.heap.size w w' := by
  have cM := matcher_none w vr
  have cS := fun W => Sp.str_split v W hvs
  have hlen := Sp.spB_len v
  have hne := Sp.spB_ne v
  generalize Sp.spB v = xs at *
  have hany : Hid (xs.any (fun _ => true) = true) := by
    cases xs with
    | nil => exact absurd rfl hne
    | cons a l => rfl
  have HR : Hid (Rt w) := hR
  clear hR hne
  go_enter Tryz.func6, Tryz.ntmps6
  go_wp2_with (go_at_call 17; refine Stop.mk ?_)
  refine Stop.out (cM.mono ?_)
  rintro e W1 ⟨rfl, hb1⟩
  have HB1 : Hid (Below w.heap.size w W1) := hb1
  have cr := ruleOf_any W1 vr (HR.out.on hb1)
  generalize rB vr = B at *
  cases hc : rC vr with
  | true =>
    rw [hc] at cr
    clear cM hb1 HR hc
    go_wp2_with (go_at_call 18; refine Stop.mk ?_)
    refine Stop.out (cr.mono ?_)
    rintro e W2 ⟨rfl, hb2⟩
    have hf := field1 W2 B true
    have HB2 : Hid (Below w.heap.size w W2) := HB1.out.trans (hb2.mono HB1.out.size)
    clear hb2 HB1 cr
    go_wp2_with (go_at_call 20; refine Stop.mk ?_)
    refine Stop.out ((cS W2).mono ?_)
    rintro e W3 ⟨rfl, hw3⟩
    have hb3 : Below W2.heap.size W2 W3 := hw3 ▸ (Below.refl _ _).alloc (Nat.le_refl _) _
    have HB3 : Hid (Below w.heap.size w W3) := HB2.out.trans (hb3.mono HB2.out.size)
    have cc := contains35 W3 W2.heap.size xs.length xs (by omega) (cells_of hw3) (fun _ => true) (fun W' _ u _ => clos35 W' u)
    rw [hany.out] at cc
    clear hb3 cS hw3 HB2
    generalize xs.length = n at *
    go_wp2_with (go_at_call 19; refine Stop.mk ?_)
    refine Stop.out (cc.mono ?_)
    rintro e W4 ⟨rfl, hb4⟩
    have HB4 : Hid (Below w.heap.size w W4) := HB3.out.trans (hb4.mono HB3.out.size)
    clear hb4 cc HB3
    go_wp2
    refine bodyPost_ret (v := .tuple #[.bool true, .nilIface]) (by simp [results, Tryz.results6, go_sem]) rfl ⟨rfl, HB4.out⟩
  | false =>
    rw [hc] at cr
    clear cM hb1 HR hc cS hany
    go_wp2_with (go_at_call 18; refine Stop.mk ?_)
    refine Stop.out (cr.mono ?_)
    rintro e W2 ⟨rfl, hb2⟩
    have hf := field1 W2 B false
    have HB2 : Hid (Below w.heap.size w W2) := HB1.out.trans (hb2.mono HB1.out.size)
    have c35 := clos35 W2 v
    clear hb2 HB1 cr
    go_wp2_with (go_at_call 35; refine Stop.mk ?_)
    refine Stop.out (c35.mono ?_)
    rintro e W3 ⟨rfl, hb3⟩
    have HB3 : Hid (Below w.heap.size w W3) := HB2.out.trans (hb3.mono HB2.out.size)
    clear hb3 c35 HB2
    go_wp2
    refine bodyPost_ret (v := .tuple #[.bool true, .nilIface]) (by simp [results, Tryz.results6, go_sem]) rfl ⟨rfl, HB3.out⟩
theorem matcher_pat (w : World) (vr : Int) (hv : rB vr = 3) (key : ByteArray) (hk0 : key.size ≠ 0) (hR : Rt w) : Calls Tryz.prog 17 #[.int .i64 vr, .string key] w fun e w' => ∃ p, e = .returned (.tuple #[.func (.func 38) #[] #[ptr p], .nilIface]) ∧ w'.cell? ⟨p, 0, none⟩ = some (.string key) ∧ Below w.heap.size w w' := by
  obtain ⟨W0, hW0⟩ : ∃ W0, w.alloc (.cells #[.string key] 9) = W0 := ⟨_, rfl⟩
  have hb0 : Below w.heap.size w W0 := hW0 ▸ (Below.refl _ _).alloc (Nat.le_refl _) _
  have c0 : W0.cell? ⟨w.heap.size, 0, none⟩ = some (.string key) := by rw [← hW0]; simp
  have cR := ruleOf_any W0 vr (hR.on hb0)
  rw [hv] at cR
  have HB : Hid (Below w.heap.size w W0) := hb0
  have hke := text_some hk0
  clear hR hb0 hk0 hv
  go_enter Tryz.func17, Tryz.ntmps17
  go_wp2_with (go_at_call 18; refine Stop.mk ?_)
  refine Stop.out (cR.mono ?_)
  rintro e W1 ⟨rfl, hb⟩
  have hf := field0 W1 3 (rC vr)
  have c1 : Hid (W1.cell? ⟨w.heap.size, 0, none⟩ = some (.string key)) := (hb.cell (cell_lt c0)).trans c0
  have HB1 : Hid (Below w.heap.size w W1) := HB.out.trans (hb.mono HB.out.size)
  clear cR hb HB c0 hW0
  go_wp2
  refine bodyPost_ret (v := .tuple #[.func (.func 38) #[] #[ptr w.heap.size], .nilIface]) (by simp [results, Tryz.results17, go_sem, ptr]) rfl ⟨_, rfl, c1.out, HB1.out⟩
end Go.Proofs.YtehgeninocbpeaaGreatDoor.Tm
