import Derived.Test.YtdggplhkeekdjaaGreatDoorKb
import Derived.Deep.Cut
/-
  DERIVED. The document's moment.
-/
namespace Go.Proofs.YtdggplhkeekdjaaGreatDoor.Ck
open Go Go.Proofs Go.RowKit

/-- Month and day, two digits each, as far as they go. -/
def mdP (s : ByteArray) : Nat → Nat → Nat
  | 0, i => i
  | f + 1, i => if cnt s 2 i = 2 then mdP s f (i + 2) else i
def momE (s : ByteArray) (i : Nat) : Bool := if isS s i = true then decide (cnt s 4 (i + 1) = 4) && decide (i + 5 = s.size) else decide (i = s.size)
def momI (s : ByteArray) : Nat := if mdP s 2 4 = 8 then (if clk s 8 > 0 then (clk s 8).toNat else 8) else mdP s 2 4
/-- A moment's form. -/
def momF (s : ByteArray) : Bool := if cnt s 4 0 = 4 then momE s (momI s) else false
theorem ckP_le (s : ByteArray) : ∀ f p i, i ≤ s.size → (ckP s f p i).2 ≤ s.size ∧ i ≤ (ckP s f p i).2
  | 0, p, i, h => ⟨h, Nat.le_refl _⟩
  | f + 1, p, i, h => by
    rw [ckP]
    split
    · rename_i hc
      have := cnt_size s 2 i h
      rw [hc] at this
      have := ckP_le s f (p + 1) (i + 2) this
      omega
    · exact ⟨h, Nat.le_refl _⟩
theorem clk_le (s : ByteArray) (i : Nat) (h : i ≤ s.size) : -1 ≤ clk s i ∧ clk s i ≤ (s.size : Int) := by
  have h1 := ckP_le s 3 0 i h
  unfold clk fin0 fin1
  split
  · omega
  · split
    · rename_i hh
      have := cnt_size s 6 ((ckP s 3 0 i).2 + 1) (by omega)
      split
      · omega
      · omega
    · omega
theorem mdP_le (s : ByteArray) : ∀ f i, i ≤ s.size → mdP s f i ≤ s.size ∧ mdP s f i ≤ i + 2 * f
  | 0, i, h => ⟨h, by simp [mdP]⟩
  | f + 1, i, h => by
    rw [mdP]
    split
    · rename_i hc
      have := cnt_size s 2 i h
      rw [hc] at this
      have := mdP_le s f (i + 2) this
      omega
    · omega

set_option maxRecDepth 100000 in
set_option maxHeartbeats 2000000 in
theorem moment_any (w : World) (s : ByteArray) (hs : s.size ≤ 140737488351232) : Calls Tryz.prog 60 #[.string s] w fun e w' => e = .returned (.bool (momF s)) ∧ w = w' := by
  have c4 := upTo_any w s 0 4 hs (Nat.zero_le _) (by omega)
  have hc4 := cnt_size s 4 0 (Nat.zero_le _)
  have HU : Hid (∀ a, a ≤ s.size → Calls Tryz.prog 57 #[.string s, .int .i64 (a : Int), .int .i64 2] w fun e w' => e = .returned (.int .i64 ((a + cnt s 2 a : Nat) : Int)) ∧ w = w') := fun a h => upTo_any w s a 2 hs h (by omega)
  have HZ : Hid (∀ a, a ≤ s.size → Calls Tryz.prog 57 #[.string s, .int .i64 (a : Int), .int .i64 4] w fun e w' => e = .returned (.int .i64 ((a + cnt s 4 a : Nat) : Int)) ∧ w = w') := fun a h => upTo_any w s a 4 hs h (by omega)
  have HC : Hid (8 ≤ s.size → Calls Tryz.prog 61 #[.string s, .int .i64 8] w fun e w' => e = .returned (.int .i64 (clk s 8)) ∧ w = w') := fun h => clock_any w s 8 hs h
  have HS : Hid (∀ a, a ≤ s.size → Calls Tryz.prog 89 #[.string s, .int .i64 (a : Int)] w fun e w' => e = .returned (.int .i64 ((sgP s a : Nat) : Int)) ∧ w = w') := fun a h => sign_any w s a hs h
  obtain ⟨R, hR⟩ : ∃ R, momF s = R := ⟨_, rfl⟩
  have HR : Hid (momF s = R) := hR
  rw [hR]
  clear hR
  simp only [Nat.zero_add] at c4 hc4
  by_cases h4 : cnt s 4 0 = 4
  · rw [h4] at c4 hc4
    have HR2 : Hid (momE s (momI s) = R) := by have := HR.out; unfold momF at this; rw [if_pos h4] at this; exact this
    clear HR
    have hz4 : 4 ≤ s.size := hc4
    go_enter Tryz.func60, Tryz.ntmps60
    go_wp2_with (go_at_call 57; refine Stop.mk ?_)
    refine Stop.out (c4.mono ?_)
    rintro e W1 ⟨rfl, rfl⟩
    clear c4
    go_wp2
    go_loopg [3] 2 (fun g s3 wx => ∃ a q : Nat, s3 = .int .i64 (a : Int) ∧ a ≤ s.size ∧ q = g ∧ a + 2 * q = 8 ∧ Hid (mdP s 2 4 = mdP s q a) ∧ w = wx)
    case atStart => exact ⟨4, 2, rfl, hz4, rfl, by omega, rfl, rfl⟩
    case round =>
      obtain ⟨a, q, rfl, ha, hq, hg, HI, hw⟩ := hrel
      subst hw
      by_cases hgo : a < 8 ∧ cnt s 2 a = 2
      · have haI : (a : Int) < 8 := by omega
        have c := HU.out a ha
        rw [hgo.2] at c
        have hsz := cnt_size s 2 a ha
        rw [hgo.2] at hsz
        have he : (((a + 2 : Nat) : Int) == (a : Int) + 2) = true := by simp
        obtain ⟨g', hg'⟩ : ∃ g', q = g' + 1 := ⟨q - 1, by omega⟩
        have HI2 : Hid (mdP s 2 4 = mdP s g' (a + 2)) := HI.out.trans (by rw [hg', mdP, if_pos hgo.2])
        clear HI
        go_wp2_with (go_at_call 57; refine Stop.mk ?_)
        refine Stop.out (c.mono ?_)
        rintro e W1 ⟨rfl, rfl⟩
        clear c
        go_wp2
        go_roundg g'
        case measure => omega
        case rel => exact ⟨a + 2, g', by simp, by omega, rfl, by omega, HI2, rfl⟩
      · have hmd : mdP s 2 4 = a := HI.out.trans (by
          cases q with
          | zero => rfl
          | succ q => rw [mdP, if_neg (fun h => hgo ⟨by omega, h⟩)])
        have HR3 : Hid (momE s (momI s) = R) := HR2
        clear HI HR2
        by_cases ha8 : a = 8
        · have e8 : ((a : Int) == 8) = true := by simp; omega
          have l8 : ¬ ((a : Int) < 8) := by omega
          have cC := HC.out (by omega)
          have hcl := clk_le s 8 (by omega)
          have hi : momI s = if clk s 8 > 0 then (clk s 8).toNat else 8 := by unfold momI; rw [if_pos (hmd.trans ha8)]
          rw [hi] at HR3
          clear hi hmd hgo
          generalize clk s 8 = C at *
          go_upto_if 21 with fail
          go_cut [3] from 4 (fun s3 wx => ∃ j : Nat, s3 = .int .i64 (j : Int) ∧ j ≤ s.size ∧ Hid (momE s j = R) ∧ wx = w)
          case first =>
            by_cases hC : C > 0
            · rw [if_pos hC] at HR3
              obtain ⟨j, rfl⟩ : ∃ j : Nat, C = (j : Int) := ⟨C.toNat, by omega⟩
              rw [Int.toNat_natCast] at HR3
              go_wp2_with (go_at_call 61; refine Stop.mk ?_)
              refine Stop.out (cC.mono ?_)
              rintro e W1 ⟨rfl, rfl⟩
              clear cC
              go_wp2
              go_meet
              case rel => exact ⟨j, rfl, by omega, HR3, rfl⟩
            · rw [if_neg hC, ← ha8] at HR3
              go_wp2_with (go_at_call 61; refine Stop.mk ?_)
              refine Stop.out (cC.mono ?_)
              rintro e W1 ⟨rfl, rfl⟩
              clear cC
              go_wp2
              go_meet
              case rel => exact ⟨a, by rw [ha8]; rfl, by omega, HR3, rfl⟩
          case rest =>
            obtain ⟨j, rfl, hj, HR4, hw⟩ := hcut
            subst hw
            have HR3 : Hid (momE s j = R) := HR4
            clear HR4 e8 l8 ha8 ha
            unfold momE at HR3
            by_cases hlt : j < s.size
            · have jI : (j : Int) < (s.size : Int) := by omega
              have cs := HS.out j (by omega)
              by_cases hS : isS s j = true
              · rw [if_pos hS] at HR3
                have hsg : sgP s j = j + 1 := by unfold sgP; rw [if_pos hS]
                rw [hsg] at cs
                have es : (((j + 1 : Nat) : Int) == (j : Int) + 1) = true := by simp
                have cz := HZ.out (j + 1) (by omega)
                have hz := cnt_le s 4 (j + 1)
                generalize cnt s 4 (j + 1) = k at *
                go_wp2_with (go_at_call 89; refine Stop.mk ?_)
                refine Stop.out (cs.mono ?_)
                rintro e W1 ⟨rfl, rfl⟩
                clear cs
                go_wp2_with (go_at_call 57; refine Stop.mk ?_)
                refine Stop.out (cz.mono ?_)
                rintro e W1 ⟨rfl, rfl⟩
                clear cz
                by_cases hk : k = 4
                · have ek : (((j + 1 + k : Nat) : Int) == (j : Int) + 5) = true := by simp; omega
                  obtain rfl : R = ((j : Int) + 5 == (s.size : Int)) := by
                    rw [← HR3.out, decide_eq_true hk, Bool.true_and, Bool.eq_iff_iff, decide_eq_true_eq, beq_iff_eq]
                    omega
                  clear HR3
                  go_wp2
                  go_ret
                  exact ⟨rfl, rfl⟩
                · have ek : (((j + 1 + k : Nat) : Int) == (j : Int) + 5) = false := by simp; omega
                  obtain rfl : R = false := by rw [← HR3.out, decide_eq_false hk, Bool.false_and]
                  clear HR3
                  go_wp2
                  go_ret
                  exact ⟨rfl, rfl⟩
              · rw [if_neg hS] at HR3
                have hsg : sgP s j = j := by unfold sgP; rw [if_neg hS]
                rw [hsg] at cs
                have es : ((j : Int) == (j : Int) + 1) = false := beq_eq_false_iff_ne.2 (by omega)
                have ej : ((j : Int) == (s.size : Int)) = false := by simp; omega
                obtain rfl : R = false := by rw [← HR3.out]; exact decide_eq_false (by omega)
                clear HR3
                go_wp2_with (go_at_call 89; refine Stop.mk ?_)
                refine Stop.out (cs.mono ?_)
                rintro e W1 ⟨rfl, rfl⟩
                clear cs
                go_wp2
                go_ret
                exact ⟨rfl, rfl⟩
            · have jI : ¬ ((j : Int) < (s.size : Int)) := by omega
              have hS : ¬ isS s j = true := by unfold isS; rw [decide_eq_false hlt]; simp
              rw [if_neg hS] at HR3
              have ej : ((j : Int) == (s.size : Int)) = true := by simp; omega
              obtain rfl : R = true := by rw [← HR3.out]; exact decide_eq_true (by omega)
              clear HR3
              go_wp2
              go_ret
              exact ⟨rfl, rfl⟩
        · have e8 : ((a : Int) == 8) = false := by simp; omega
          have l8 : (a : Int) < 8 := by omega
          have hi : momI s = a := by unfold momI; rw [if_neg (fun h => ha8 (hmd.symm.trans h)), hmd]
          rw [hi] at HR3
          have cU := HU.out a ha
          have hc2 : cnt s 2 a ≠ 2 := fun h => hgo ⟨by omega, h⟩
          have hcs := cnt_size s 2 a ha
          clear hi hmd hgo
          generalize cnt s 2 a = k2 at *
          have he2 : (((a + k2 : Nat) : Int) == (a : Int) + 2) = false := by simp; omega
          unfold momE at HR3
          by_cases hlt : a < s.size
          · have jI : (a : Int) < (s.size : Int) := by omega
            have cs := HS.out a (by omega)
            by_cases hS : isS s a = true
            · rw [if_pos hS] at HR3
              have hsg : sgP s a = a + 1 := by unfold sgP; rw [if_pos hS]
              rw [hsg] at cs
              have es : (((a + 1 : Nat) : Int) == (a : Int) + 1) = true := by simp
              have cz := HZ.out (a + 1) (by omega)
              have hz := cnt_le s 4 (a + 1)
              generalize cnt s 4 (a + 1) = k at *
              go_wp2_with (go_at_call 57; refine Stop.mk ?_)
              refine Stop.out (cU.mono ?_)
              rintro e W1 ⟨rfl, rfl⟩
              clear cU
              go_wp2_with (go_at_call 89; refine Stop.mk ?_)
              refine Stop.out (cs.mono ?_)
              rintro e W1 ⟨rfl, rfl⟩
              clear cs
              go_wp2_with (go_at_call 57; refine Stop.mk ?_)
              refine Stop.out (cz.mono ?_)
              rintro e W1 ⟨rfl, rfl⟩
              clear cz
              by_cases hk : k = 4
              · have ek : (((a + 1 + k : Nat) : Int) == (a : Int) + 5) = true := by simp; omega
                obtain rfl : R = ((a : Int) + 5 == (s.size : Int)) := by
                  rw [← HR3.out, decide_eq_true hk, Bool.true_and, Bool.eq_iff_iff, decide_eq_true_eq, beq_iff_eq]
                  omega
                clear HR3
                go_wp2
                go_ret
                exact ⟨rfl, rfl⟩
              · have ek : (((a + 1 + k : Nat) : Int) == (a : Int) + 5) = false := by simp; omega
                obtain rfl : R = false := by rw [← HR3.out, decide_eq_false hk, Bool.false_and]
                clear HR3
                go_wp2
                go_ret
                exact ⟨rfl, rfl⟩
            · rw [if_neg hS] at HR3
              have hsg : sgP s a = a := by unfold sgP; rw [if_neg hS]
              rw [hsg] at cs
              have es : ((a : Int) == (a : Int) + 1) = false := beq_eq_false_iff_ne.2 (by omega)
              have ej : ((a : Int) == (s.size : Int)) = false := by simp; omega
              obtain rfl : R = false := by rw [← HR3.out]; exact decide_eq_false (by omega)
              clear HR3
              go_wp2_with (go_at_call 57; refine Stop.mk ?_)
              refine Stop.out (cU.mono ?_)
              rintro e W1 ⟨rfl, rfl⟩
              clear cU
              go_wp2_with (go_at_call 89; refine Stop.mk ?_)
              refine Stop.out (cs.mono ?_)
              rintro e W1 ⟨rfl, rfl⟩
              clear cs
              go_wp2
              go_ret
              exact ⟨rfl, rfl⟩
          · have jI : ¬ ((a : Int) < (s.size : Int)) := by omega
            have hS : ¬ isS s a = true := by unfold isS; rw [decide_eq_false hlt]; simp
            rw [if_neg hS] at HR3
            have ej : ((a : Int) == (s.size : Int)) = true := by simp; omega
            obtain rfl : R = true := by rw [← HR3.out]; exact decide_eq_true (by omega)
            clear HR3
            go_wp2_with (go_at_call 57; refine Stop.mk ?_)
            refine Stop.out (cU.mono ?_)
            rintro e W1 ⟨rfl, rfl⟩
            clear cU
            go_wp2
            go_ret
            exact ⟨rfl, rfl⟩
  · obtain rfl : R = false := by have := HR.out; unfold momF at this; rw [if_neg h4] at this; exact this.symm
    generalize cnt s 4 0 = k at *
    have he : ((k : Int) != 4) = true := by simp; omega
    go_enter Tryz.func60, Tryz.ntmps60
    go_wp2_with (go_at_call 57; refine Stop.mk ?_)
    refine Stop.out (c4.mono ?_)
    rintro e W1 ⟨rfl, rfl⟩
    clear c4
    go_wp2
    go_ret
    exact ⟨rfl, rfl⟩
end Go.Proofs.YtdggplhkeekdjaaGreatDoor.Ck
