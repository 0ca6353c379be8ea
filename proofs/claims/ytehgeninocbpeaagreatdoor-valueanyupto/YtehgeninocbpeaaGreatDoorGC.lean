import Derived.Test.YtehgeninocbpeaaGreatDoorGB
import Derived.Deep.LoopGhost
import Derived.WalkMore
/-
  DERIVED. The program's matching of a pattern.
-/
namespace Go.Proofs.YtehgeninocbpeaaGreatDoor.Gl
open Go Go.Proofs Go.RowKit

/-- A row of runes that can be read. -/
def Rd (w : World) (a : Option Addr) (l : List Int) : Prop := ∀ k x, l[k]? = some x → ∃ g o, a = some ⟨g, o, none⟩ ∧ w.cell? ⟨g, o + k, none⟩ = some (.int .i32 x)

set_option maxRecDepth 100000 in
set_option maxHeartbeats 1000000 in
theorem isStars_any (w : World) (a : Option Addr) (l : List Int) (n cap : Nat) (hn : l.length = n) (hl : n ≤ 2097152) (h : Rd w a l) :
    Calls Tryz.prog 22 #[.slice a n cap] w fun e w' => e = .returned (.bool (l.all (fun c => decide (c = 42)))) ∧ w = w' := by
  have HR : Hid (Rd w a l) := h
  have HN : Hid (l.length = n) := hn
  generalize hA : l.all (fun c => decide (c = 42)) = A
  have HA : Hid ((l.drop 0).all (fun c => decide (c = 42)) = A) := by show _ = _; rw [List.drop_zero]; exact hA
  clear h hn hA
  go_enter Tryz.func22, Tryz.ntmps22
  go_wp2
  go_loopw [7] (fun y wr => ∃ k : Nat, y = .int .i64 (k : Int) ∧ k ≤ n ∧ Hid ((l.drop k).all (fun c => decide (c = 42)) = A) ∧ w = wr) (fun y _ => n - (intOf y).toNat)
  case atStart => exact ⟨0, rfl, by omega, HA, rfl⟩
  case round =>
    obtain ⟨k, rfl, hk, HK, rfl⟩ := hrel
    by_cases hkn : k < n
    · have hkl : k < l.length := by rw [HN.out]; exact hkn
      obtain ⟨x, hx⟩ : ∃ x, l[k]? = some x := ⟨l[k], List.getElem?_eq_getElem hkl⟩
      obtain ⟨g, o, rfl, hc⟩ := HR.out k x hx
      have h1 := HK.out
      rw [drop_cons hx, List.all_cons] at h1
      by_cases h42 : x = 42
      · subst h42
        have HK2 : Hid ((l.drop (k + 1)).all (fun c => decide (c = 42)) = A) := by show _ = _; rw [← h1]; simp
        clear h1 hx
        have hki : (k : Int) < (n : Int) := by omega
        go_wp2
        go_roundw
        case rel => exact ⟨k + 1, by simp, by omega, HK2, trivial⟩
        case measure => simp [intOf]; omega
      · have hAf : A = false := by rw [← h1]; simp [h42]
        subst hAf
        have h42' : (x == 42) = false := by simpa using h42
        clear h1 hx h42 HA HK
        have hki : (k : Int) < (n : Int) := by omega
        go_wp2
        go_ret
        exact ⟨rfl, rfl⟩
    · obtain rfl : k = n := by omega
      have h1 := HK.out
      rw [List.drop_eq_nil_of_le (by rw [HN.out]; exact Nat.le_refl _)] at h1
      have hAt : A = true := by rw [← h1]; rfl
      subst hAt
      clear h1 HK HA
      go_wp2
      go_ret
      exact ⟨rfl, rfl⟩


theorem own_rd {w : World} {B : Nat} {v : Value} {l : List Int} (h : w.ownsRow B 21 1 v l.length (i32C l)) : ∃ a cap, v = .slice a l.length cap ∧ l.length ≤ cap ∧ (∀ k x, l[k]? = some x → ∃ g, a = some ⟨g, 0, none⟩ ∧ w.cell? ⟨g, k, none⟩ = some (.int .i32 x)) ∧ (l = [] → a = none ∧ cap = 0 ∨ ∃ g, a = some ⟨g, 0, none⟩) := by
  rcases h.2 with ⟨rfl, h0⟩ | ⟨g, cap, cur, rfl, hb, hg, hn, hm, hc, hx⟩
  · refine ⟨none, 0, by rw [h0], by omega, ?_, fun _ => .inl ⟨rfl, rfl⟩⟩
    intro k x hk
    have := (List.getElem?_eq_some_iff.1 hk).1
    omega
  · refine ⟨some ⟨g, 0, none⟩, cap, rfl, hn, ?_, fun _ => .inr ⟨g, rfl⟩⟩
    intro k x hk
    refine ⟨g, rfl, ?_⟩
    have := h.cells (g := g) rfl k (.int .i32 x) (by unfold i32C; rw [List.getElem?_map, hk]; rfl)
    have hadd : (⟨g, 0, none⟩ : Addr).add k = ⟨g, k, none⟩ := by unfold Addr.add; split <;> simp_all
    rw [hadd] at this
    exact this

theorem elements_rd (w : World) (s : ByteArray) (hs : s.size ≤ 2097152) :
    Calls Tryz.prog 21 #[.string s] w fun e w' => ∃ v, e = .returned v ∧ w'.ownsRow w.heap.size 21 1 v (elems s).length (i32C (elems s)) ∧ Below w.heap.size w w' := elements_any w s hs

theorem els_len (s : ByteArray) : ∀ fuel pos, (els s fuel pos).length ≤ fuel
  | 0, _ => by simp [els]
  | f + 1, pos => by
    rw [els]
    split
    · have := els_len s f (pos + (Utf8.decode s pos).2)
      simp; omega
    · simp
theorem elems_len (s : ByteArray) : (elems s).length ≤ s.size := els_len s _ _

set_option maxRecDepth 100000 in
set_option maxHeartbeats 1000000 in
theorem glob_any (w : World) (p t : ByteArray) (hp : p.size ≤ 2097152) (ht : t.size ≤ 2097152) :
    Calls Tryz.prog 10 #[.string p, .string t] w fun e w' => e = .returned (.bool (gm (elems p) (elems t))) ∧ Below w.heap.size w w' := by
  have c1 := elements_rd w p hp
  have c2 := fun W => elements_rd W t ht
  have HP : Hid ((elems p).length ≤ 2097152) := Nat.le_trans (elems_len p) hp
  have HT : Hid ((elems t).length ≤ 2097152) := Nat.le_trans (elems_len t) ht
  generalize elems p = P at *
  generalize elems t = T at *
  clear hp ht
  have HI0 : Hid (Inv P T (gm P T) 0 (-1) 0 0) := inv_start P T
  generalize gm P T = R at HI0 ⊢
  go_enter Tryz.func10, Tryz.ntmps10
  go_wp2
  go_step3
  go_wp2_with (go_at_call 21; refine Stop.mk ?_)
  refine Stop.out (c1.mono ?_)
  rintro e W1 ⟨v1, rfl, ho1, hb1⟩
  go_wp2_with (go_at_call 21; refine Stop.mk ?_)
  refine Stop.out ((c2 W1).mono ?_)
  rintro e W2 ⟨v2, rfl, ho2, hb2⟩
  obtain ⟨a1, cap1, rfl, hcp1, hr1, hz1⟩ := own_rd ho1
  obtain ⟨a2, cap2, rfl, hcp2, hr2, hz2⟩ := own_rd ho2
  have hB : Below w.heap.size w W2 := hb1.trans (hb2.mono hb1.size)
  have hr1' : ∀ k x, P[k]? = some x → ∃ g, a1 = some ⟨g, 0, none⟩ ∧ W2.cell? ⟨g, k, none⟩ = some (.int .i32 x) := fun k x hk => by
    obtain ⟨g, hg, hc⟩ := hr1 k x hk
    exact ⟨g, hg, (hb2.cell (p := ⟨g, k, none⟩) (World.block_lt_of_cell? W1 ⟨g, k, none⟩ hc)).trans hc⟩
  have HR1 : Hid (∀ k x, P[k]? = some x → ∃ g, a1 = some ⟨g, 0, none⟩ ∧ W2.cell? ⟨g, k, none⟩ = some (.int .i32 x)) := hr1'
  have HR2 : Hid (∀ k x, T[k]? = some x → ∃ g, a2 = some ⟨g, 0, none⟩ ∧ W2.cell? ⟨g, k, none⟩ = some (.int .i32 x)) := hr2
  have HZ1 : Hid ((a1 = none ∧ P = [] ∧ cap1 = 0) ∨ ∃ g, a1 = some ⟨g, 0, none⟩) := by
    cases hP : P with
    | nil =>
      rcases hz1 hP with ⟨h1, h2⟩ | h
      · exact .inl ⟨h1, rfl, h2⟩
      · exact .inr h
    | cons c P' =>
      obtain ⟨g, hg, _⟩ := hr1' 0 c (by rw [hP]; rfl)
      exact .inr ⟨g, hg⟩
  have HBw : Hid (Below w.heap.size w W2) := hB
  obtain ⟨n, hn⟩ : ∃ n, P.length = n := ⟨_, rfl⟩
  obtain ⟨m, hm⟩ : ∃ m, T.length = m := ⟨_, rfl⟩
  have HN : Hid (P.length = n) := hn
  have HM : Hid (T.length = m) := hm
  rw [hn] at hcp1
  rw [hm] at hcp2
  have hn2 : n ≤ 2097152 := hn ▸ HP.out
  have hm2 : m ≤ 2097152 := hm ▸ HT.out
  rw [hn, hm]
  clear hr1 hr1' hr2 hz1 hz2 ho1 ho2 hb1 hb2 hB c1 c2 HP HT hn hm
  go_wp2
  go_step3
  go_wp2
  go_loopg [7, 8, 9] m (fun g s7 s8 s9 wx => ∃ (i fr : Nat) (star : Int), s7 = .int .i64 (i : Int) ∧ s8 = .int .i64 star ∧ s9 = .int .i64 (fr : Int) ∧ g + fr = m ∧ Hid (Inv P T R i star fr fr) ∧ Hid (Below W2.heap.size W2 wx))
  case atStart => exact ⟨0, 0, -1, rfl, rfl, rfl, by omega, HI0, Below.refl _ _⟩
  case round =>
    obtain ⟨i0, fr0, st0, rfl, rfl, rfl, hg, HI, HBx⟩ := hrel
    go_wp2
    go_loopg [7, 8, 9, 10] (m - fr0) (fun g s7 s8 s9 s10 wx => ∃ (i fr j : Nat) (star : Int), s7 = .int .i64 (i : Int) ∧ s8 = .int .i64 star ∧ s9 = .int .i64 (fr : Int) ∧ s10 = .int .i64 (j : Int) ∧ g + j = m ∧ fr0 ≤ fr ∧ Hid (Inv P T R i star fr j) ∧ Hid (Below W2.heap.size W2 wx))
    case atStart => exact ⟨i0, fr0, fr0, st0, rfl, rfl, rfl, rfl, by omega, by omega, HI, HBx⟩
    case round =>
      clear HI HBx
      obtain ⟨i, fr, j, st, rfl, rfl, rfl, rfl, hg2, hfr, HI, HBx⟩ := hrel
      have hin : i ≤ n := by have := HI.out.1; rw [HN.out] at this; exact this
      by_cases hjm : j < m
      · have hjI : (j : Int) < (m : Int) := by omega
        go_wp2
        go_loopg [7, 8, 9] (n - i) (fun g s7 s8 s9 wx => ∃ (i fr : Nat) (star : Int), s7 = .int .i64 (i : Int) ∧ s8 = .int .i64 star ∧ s9 = .int .i64 (fr : Int) ∧ g + i = n ∧ fr0 ≤ fr ∧ Hid (Inv P T R i star fr j) ∧ Hid (Below W2.heap.size W2 wx))
        case atStart => exact ⟨i, fr, st, rfl, rfl, rfl, by omega, hfr, HI, HBx⟩
        case round =>
          clear HI HBx hin hfr
          obtain ⟨i', fr', st', rfl, rfl, rfl, hg3, hfr', HI, HBx⟩ := hrel
          by_cases h42 : P[i']? = some 42
          · obtain ⟨g1, rfl, hc⟩ := HR1.out i' 42 h42
            have hc' := (HBx.out.cell (p := ⟨g1, i', none⟩) (World.block_lt_of_cell? W2 ⟨g1, i', none⟩ hc)).trans hc
            have hil : i' < n := by rw [← HN.out]; exact (List.getElem?_eq_some_iff.1 h42).1
            have hiI : (i' : Int) < (n : Int) := by omega
            have HI2 : Hid (Inv P T R (i' + 1) (i' : Nat) j j) := inv_star HI.out h42
            have hfj : fr' ≤ j := HI.out.2.1
            clear hc h42
            go_wp2
            go_roundg (n - (i' + 1))
            case measure => omega
            case rel => exact ⟨i' + 1, j, (i' : Nat), by first | rfl | simp, rfl, rfl, by omega, by omega, HI2, HBx⟩
          · obtain ⟨x, hx⟩ : ∃ x, T[j]? = some x := ⟨T[j]'(by rw [HM.out]; exact hjm), List.getElem?_eq_getElem (by rw [HM.out]; exact hjm)⟩
            have hil : i' ≤ n := by have := HI.out.1; rw [HN.out] at this; exact this
            by_cases hie : i' = n
            · have hmiss := miss (P := P) (i := i') hx (.inl (hie.trans HN.out.symm))
              have hniI : ¬ ((i' : Int) < (n : Int)) := by omega
              clear hx h42
              rcases HI.out.2.2.2 with ⟨hst, _⟩ | ⟨st2, hst, _⟩
              · subst hst
                obtain rfl : R = false := inv_lost HI.out hmiss
                clear hmiss HI HI0
                go_wp2
                go_quiet (fail)
                go_wp2
                rw [Exit.noGoto_ret]
                go_ret
                exact ⟨rfl, HBw.out.trans (below_drewN (HBx.out.mono HBw.out.size) _)⟩
              · subst hst
                have HI2 : Hid (Inv P T R (st2 + 1) (st2 : Nat) (fr' + 1) (fr' + 1)) := inv_back HI.out (by rw [HM.out]; exact hjm) hmiss
                have hf2 : fr' ≤ j := HI.out.2.1
                have hst0 : decide ((st2 : Int) < 0) = false := by simp
                clear hmiss HI HI0
                go_wp2
                go_quiet (fail)
                go_wp2
                go_roundg (m - (fr' + 1))
                case measure => omega
                case rel => exact ⟨st2 + 1, fr' + 1, (st2 : Nat), by first | rfl | simp, rfl, by first | rfl | simp, by omega, HI2, below_drewN HBx.out _⟩
            · have hil2 : i' < P.length := by rw [HN.out]; omega
              obtain ⟨c, hc⟩ : ∃ c, P[i']? = some c := ⟨P[i'], List.getElem?_eq_getElem hil2⟩
              obtain ⟨g1, rfl, hcc⟩ := HR1.out i' c hc
              obtain ⟨g2, rfl, hcx⟩ := HR2.out j x hx
              have hc1 := (HBx.out.cell (p := ⟨g1, i', none⟩) (World.block_lt_of_cell? W2 ⟨g1, i', none⟩ hcc)).trans hcc
              have hc2 := (HBx.out.cell (p := ⟨g2, j, none⟩) (World.block_lt_of_cell? W2 ⟨g2, j, none⟩ hcx)).trans hcx
              have hiI : (i' : Int) < (n : Int) := by omega
              have n42 : c ≠ 42 := fun h => h42 (h ▸ hc)
              have h42' : (c == 42) = false := by simpa using n42
              clear hcc hcx h42
              by_cases h63 : c = 63
              · have HI2 : Hid (Inv P T R (i' + 1) st' fr' (j + 1)) := inv_step HI.out hc n42 hx (.inl h63)
                subst h63
                clear hc hx n42
                go_wp2
                go_quiet (fail)
                go_wp2
                go_roundg (m - (j + 1))
                case measure => omega
                case rel => exact ⟨i' + 1, fr', j + 1, st', by first | rfl | simp, rfl, rfl, by first | rfl | simp, by omega, hfr', HI2, below_drewN HBx.out _⟩
              · have h63' : (c == 63) = false := by simpa using h63
                by_cases hcx : c = x
                · have HI2 : Hid (Inv P T R (i' + 1) st' fr' (j + 1)) := inv_step HI.out hc n42 hx (.inr hcx)
                  subst hcx
                  clear hc hx n42 h63
                  go_wp2
                  go_quiet (fail)
                  go_wp2
                  go_roundg (m - (j + 1))
                  case measure => omega
                  case rel => exact ⟨i' + 1, fr', j + 1, st', by first | rfl | simp, rfl, rfl, by first | rfl | simp, by omega, hfr', HI2, below_drewN HBx.out _⟩
                · have hmiss := miss (P := P) (i := i') hx (.inr ⟨c, hc, n42, h63, hcx⟩)
                  have hcx' : (c == x) = false := by simpa using hcx
                  clear hc hx n42 h63 hcx
                  rcases HI.out.2.2.2 with ⟨hst, _⟩ | ⟨st2, hst, _⟩
                  · subst hst
                    obtain rfl : R = false := inv_lost HI.out hmiss
                    clear hmiss HI HI0
                    go_wp2
                    go_quiet (fail)
                    go_wp2
                    rw [Exit.noGoto_ret]
                    go_ret
                    exact ⟨rfl, HBw.out.trans (below_drewN (HBx.out.mono HBw.out.size) _)⟩
                  · subst hst
                    have HI2 : Hid (Inv P T R (st2 + 1) (st2 : Nat) (fr' + 1) (fr' + 1)) := inv_back HI.out (by rw [HM.out]; exact hjm) hmiss
                    have hf2 : fr' ≤ j := HI.out.2.1
                    have hst0 : decide ((st2 : Int) < 0) = false := by simp
                    clear hmiss HI HI0
                    go_wp2
                    go_quiet (fail)
                    go_wp2
                    go_roundg (m - (fr' + 1))
                    case measure => omega
                    case rel => exact ⟨st2 + 1, fr' + 1, (st2 : Nat), by first | rfl | simp, rfl, by first | rfl | simp, by omega, HI2, below_drewN HBx.out _⟩
      · obtain rfl : j = m := by omega
        have hR := inv_end HI.out HM.out.symm
        have hiI : (i : Int) ≤ (n : Int) := by omega
        rcases HZ1.out with ⟨rfl, hP, rfl⟩ | ⟨g1, rfl⟩
        · obtain rfl : n = 0 := by have := HN.out; rw [hP] at this; simpa using this.symm
          obtain rfl : i = 0 := by omega
          have c := isStars_any wr none (P.drop 0) 0 0 (by rw [hP]; rfl) (by omega) (fun k x hk => by rw [hP] at hk; simp at hk)
          rw [← hR] at c
          clear HI HI0 hR
          go_wp2_with (go_at_call 22; refine c.mono ?_; rintro e w' ⟨rfl, rfl⟩)
          rw [Exit.noGoto_ret]
          go_ret
          exact ⟨rfl, HBw.out.trans (HBx.out.mono HBw.out.size)⟩
        · have c := isStars_any wr (some ⟨g1, i, none⟩) (P.drop i) (n - i) (cap1 - i) (by rw [List.length_drop, HN.out]) (by omega) (fun k x hk => by
            rw [List.getElem?_drop] at hk
            obtain ⟨g, hg, hc⟩ := HR1.out (i + k) x hk
            obtain rfl : g1 = g := by simpa using hg
            exact ⟨g1, i, rfl, (HBx.out.cell (p := ⟨g1, i + k, none⟩) (World.block_lt_of_cell? W2 ⟨g1, i + k, none⟩ hc)).trans hc⟩)
          have c' : cap1 - i = 0 → Calls Tryz.prog 22 #[.slice (some ⟨g1, 0, none⟩) (n - i : Nat) 0] wr fun e w' => e = .returned (.bool ((P.drop i).all (fun c => decide (c = 42)))) ∧ wr = w' := fun h0 =>
            isStars_any wr (some ⟨g1, 0, none⟩) (P.drop i) (n - i) 0 (by rw [List.length_drop, HN.out]) (by omega) (fun k x hk => by
              have := (List.getElem?_eq_some_iff.1 hk).1
              rw [List.length_drop, HN.out] at this
              omega)
          rw [← hR] at c c'
          clear HI HI0 hR
          go_wp2_with (go_at_call 22; refine Stop.mk ?_)
          · refine Stop.out ((c' (by omega)).mono ?_)
            rintro e w' ⟨rfl, rfl⟩
            go_wp2
            rw [Exit.noGoto_ret]
            go_ret
            exact ⟨rfl, HBw.out.trans (HBx.out.mono HBw.out.size)⟩
          · refine Stop.out (c.mono ?_)
            rintro e w' ⟨rfl, rfl⟩
            go_wp2
            rw [Exit.noGoto_ret]
            go_ret
            exact ⟨rfl, HBw.out.trans (HBx.out.mono HBw.out.size)⟩
end Go.Proofs.YtehgeninocbpeaaGreatDoor.Gl
