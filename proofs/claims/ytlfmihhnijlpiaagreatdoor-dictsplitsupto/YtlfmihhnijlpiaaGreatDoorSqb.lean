import Derived.Test.YtlfmihhnijlpiaaGreatDoorSo
import Derived.Lib.QuietBelow
/-
  DERIVED. The document's Join, its loops.
-/
namespace Go.Proofs.YtlfmihhnijlpiaaGreatDoor.Sp
open Go Go.Proofs Go.RowKit Go.Sort
open Wk (cell_lt own_keep Stop)

set_option maxRecDepth 100000 in
set_option maxHeartbeats 8000000 in
theorem rj_mu (W : World) (v : Int) (y : Value) (xs : List ByteArray) (hz : Jz xs) (ha : TxAt W y xs) (n : ByteArray) (p m : Int) (c l : Bool) (k : Nat) (hk : k ≤ 1000) (h18 : (v == 18) = false)
    (c15 : ∀ w, Calls Tryz.prog 15 #[.int .i64 v] w fun e w' => e = .returned (.tuple #[.agg #[.string n, .int .u8 p, .int .i64 (k : Int), .int .i64 m, .bool false, .bool c, .bool true, .bool l], .bool true]) ∧ Below w.heap.size w w')
    (J : ByteArray) (C P : Int) (HO : Hid ((∀ (j : Nat) x, xs[j]? = some x → (offU k) x = false) → J = jnB xs mty ∧ C = 0)) (HE : Hid (∀ (i : Nat) x, xs[i]? = some x → (offU k) x = true → (∀ (j : Nat) z, j < i → xs[j]? = some z → (offU k) z = false) → J = mty ∧ C = 63 ∧ P = (i : Int))) :
    Calls Tryz.prog 9 #[.int .i64 v, y] W fun e w' => ∃ f, e = .returned (.tuple #[.string J, f]) ∧ Hid (RErr w' f C P ∧ Below W.heap.size W w') := by
  obtain ⟨aa, ca, rfl, hca, h3⟩ := ha.form
  have HA : Hid _ := h3
  have hnx := hz.n
  have HJL : Hid (∀ i, (jnB (xs.take i) mty).size ≤ 90000000) := fun i => by rw [jnB_size]; exact Nat.le_trans (jnL_take _ _ _) hz.m
  have HXS : Hid _ := hz.x
  obtain ⟨N, hN⟩ : ∃ N, xs.length = N := ⟨_, rfl⟩
  rw [hN] at hca hnx ⊢
  have HN : Hid _ := hN
  clear h3 ha hN hz
  have RF0 : Hid _ := RF.start W
  go_enter Tryz.func9, Tryz.ntmps9
  go_wp2_with (go_at_call 15; refine (c15 _).mono ?_; rintro e w1 ⟨rfl, hb1⟩; have RF1 : Hid (RF W W.heap.size w1) := RF0.out.on hb1; clear hb1)
  obtain ⟨G, hG⟩ : ∃ G, w1.heap.size = G := ⟨_, rfl⟩
  have hRG : W.heap.size < G := by rw [← hG]; exact cell_lt RF1.out.r0
  obtain ⟨W1, hW1⟩ : ∃ W1, w1.alloc (.cells #[.string n, .int .u8 p, .int .i64 (k : Int), .int .i64 m, .bool false, .bool c, .bool true, .bool l] 41) = W1 := ⟨_, rfl⟩
  have hs1 : W1.heap.size = G + 1 := by rw [← hW1, Wk.size_alloc, hG]
  have RFL : Hid (∀ w, Below (G + 1) W1 w → RF W W.heap.size w) := fun w hb => (RF1.out.on (by rw [← hW1]; exact (Below.refl _ _).alloc (Nat.le_refl _) _ : Below w1.heap.size w1 W1)).on (by rw [hs1]; exact hb)
  have d2 : W1.cell? ⟨G, 2, none⟩ = some (.int .i64 (k : Int)) := by rw [← hW1, ← hG]; simp
  have d4 : W1.cell? ⟨G, 4, none⟩ = some (.bool false) := by rw [← hW1, ← hG]; simp
  have d6 : W1.cell? ⟨G, 6, none⟩ = some (.bool true) := by rw [← hW1, ← hG]; simp
  have HX : Hid (∀ i, i < N → ∃ ba oa x, aa = some ⟨ba, oa, none⟩ ∧ xs[i]? = some x ∧ x.size ≤ 90000000 ∧ ∀ w, Below (G + 1) W1 w → w.cell? ⟨ba, oa + i, none⟩ = some (.string x)) := fun i hi => by
    obtain ⟨ba, oa, h1, h2⟩ := HA.out (by rw [HN.out]; omega)
    have hil : i < xs.length := by rw [HN.out]; exact hi
    have h4 := h2 i hil
    have hlt : ba < W.heap.size := cell_lt h4
    refine ⟨ba, oa, xs[i], h1, List.getElem?_eq_getElem hil, HXS.out _ (List.getElem_mem hil), fun w hb => ?_⟩
    rw [← h4]
    exact World.cell?_of_block ((RFL.out w hb).b.block ba hlt)
  rw [hG, hW1]
  clear hW1 hG c15
  go_loopg [8, 9] N (fun g s8 s9 wx => ∃ (i : Nat) (acc : ByteArray), s9 = .int .i64 (i : Int) ∧ s8 = .string acc ∧ g + i = N ∧ Hid (Below (G + 1) W1 wx ∧ jnB (xs.take i) mty = acc ∧ (∀ (j : Nat) x, j < i → xs[j]? = some x → (offU k) x = false)))
  case atStart => exact ⟨0, _, rfl, rfl, by omega, Below.refl _ _, rfl, fun j x hj => by omega⟩
  case round =>
    obtain ⟨i, acc, rfl, rfl, hgi, HR⟩ := hrel
    have hacc : acc.size ≤ 90000000 := by rw [← HR.out.2.1]; exact HJL.out i
    by_cases hin : i < N
    · have hI : (i : Int) < (N : Int) := by omega
      obtain ⟨ba, oa, x, rfl, hxi, hxz, HC⟩ := HX.out i hin
      replace HC : Hid _ := HC
      have HXI : Hid _ := hxi
      clear hxi
      obtain ⟨z, hzx⟩ : ∃ z, x.size = z := ⟨_, rfl⟩
      rw [hzx] at hxz
      have HB0 : Hid (Below (G + 1) W1 wr) := HR.out.1
      have HR2 : Hid (jnB (xs.take i) mty = acc ∧ (∀ (j : Nat) x, j < i → xs[j]? = some x → (offU k) x = false)) := HR.out.2
      obtain ⟨wo, hwo⟩ : ∃ wo, wo = wr := ⟨_, rfl⟩
      rw [← hwo] at HB0 ⊢
      clear hwo HR
      go_wp2
      go_loopg [10] z (fun g s10 wx => ∃ q : Nat, s10 = .int .i64 (q : Int) ∧ g + q = z ∧ Hid (Below (G + 1) W1 wx ∧ True))
      case atStart => exact ⟨0, rfl, by omega, HB0.out, trivial⟩
      case round =>
        obtain ⟨q, rfl, hgq, HQ⟩ := hrel
        have HB : Hid (Below (G + 1) W1 wr) := HQ.out.1
        have hc6 : wr.cell? ⟨G, 6, none⟩ = some (.bool true) := (World.cell?_of_block (HB.out.block G (by omega))).trans d6
        have hc4 : wr.cell? ⟨G, 4, none⟩ = some (.bool false) := (World.cell?_of_block (HB.out.block G (by omega))).trans d4
        have hc2 : wr.cell? ⟨G, 2, none⟩ = some (.int .i64 (k : Int)) := (World.cell?_of_block (HB.out.block G (by omega))).trans d2
        have hcx := HC.out wr HB.out
        by_cases hqz : q < z
        · have hqI : (q : Int) < (z : Int) := by omega
          go_wp2
          go_roundg (z - (q + 1))
          case measure => omega
          case rel => exact ⟨q + 1, by simp, by omega, HB.out, trivial⟩
        · obtain rfl : q = z := by omega
          have hqI : ¬ (q : Int) < (q : Int) := by omega
          by_cases hoff : q = k
          · have hoI : (q : Int) = (k : Int) := by omega
            have hoB : ((q : Int) != (k : Int)) = false := by simpa using hoI
            have HF1 : Hid (∀ (j : Nat) z', j < i + 1 → xs[j]? = some z' → (offU k) z' = false) := fun j z' hj hz' => by
              by_cases e : j = i
              · subst e; rw [HXI.out] at hz'; cases hz'; exact decide_eq_false (by simp; omega)
              · exact HR2.out.2 j z' (by omega) hz'
            go_wp2
            have khc6 := fun d os => cell_regrown hc6 d os
            have khc4 := fun d os => cell_regrown hc4 d os
            have khc2 := fun d os => cell_regrown hc2 d os
            have khcx := fun d os => cell_regrown hcx d os
            refine wp_region_quiet_below hmix (by kernel_rfl) ?_
            repeat (quiet_step (fail))
            refine wpQuiet_nil ?_
            intro _ hw'
            obtain ⟨⟨dq, osq⟩, hw''⟩ := hw'
            subst hw''
            have hBW := below_regrown wr dq osq
            have HB5 : Hid (Below (G + 1) W1 (grow (redrawn wr dq) osq)) := HB.out.trans (hBW.mono (by rw [← hs1]; exact HB.out.size))
            clear HB hBW hc6 hc4 hc2 hcx khc6 khc4 khc2 khcx
            generalize grow (redrawn wr dq) osq = W5 at *
            have HB : Hid (Below (G + 1) W1 W5) := HB5.out
            have hc4 : W5.cell? ⟨G, 4, none⟩ = some (.bool false) := (World.cell?_of_block (HB.out.block G (by omega))).trans d4
            have hcx := HC.out W5 HB.out
            try go_simp
            have HNX : Hid (jnB (xs.take (i + 1)) mty = acc ++ x) := by rw [← HR2.out.1]; exact jnB_plain xs x i HXI.out
            by_cases hi0 : i = 0
            · have hiI : ¬ (0 : Int) < (i : Int) := by omega
              clear hi0
              go_wp2
              go_roundg (N - (i + 1))
              case measure => omega
              case rel => exact ⟨i + 1, _, by simp, rfl, by omega, HB.out, HNX.out, HF1.out⟩
            · have hiI : (0 : Int) < (i : Int) := by omega
              go_wp2
              go_roundg (N - (i + 1))
              case measure => omega
              case rel => exact ⟨i + 1, _, by simp, rfl, by omega, HB.out, HNX.out, HF1.out⟩
          · have hoI : ¬ (q : Int) = (k : Int) := by omega
            have hoB : ((q : Int) != (k : Int)) = true := by simpa using hoI
            go_wp2
            have khc6 := fun d os => cell_regrown hc6 d os
            have khc4 := fun d os => cell_regrown hc4 d os
            have khc2 := fun d os => cell_regrown hc2 d os
            have khcx := fun d os => cell_regrown hcx d os
            refine wp_region_quiet_below hmix (by kernel_rfl) ?_
            repeat (quiet_step (fail))
            refine wpQuiet_nil ?_
            intro _ hw'
            obtain ⟨⟨dq, osq⟩, hw''⟩ := hw'
            subst hw''
            have hBW := below_regrown wr dq osq
            have HB5 : Hid (Below (G + 1) W1 (grow (redrawn wr dq) osq)) := HB.out.trans (hBW.mono (by rw [← hs1]; exact HB.out.size))
            clear HB hBW hc6 hc4 hc2 hcx khc6 khc4 khc2 khcx
            generalize grow (redrawn wr dq) osq = W5 at *
            have HB : Hid (Below (G + 1) W1 W5) := HB5.out
            have hc4 : W5.cell? ⟨G, 4, none⟩ = some (.bool false) := (World.cell?_of_block (HB.out.block G (by omega))).trans d4
            have hcx := HC.out W5 HB.out
            try go_simp
            have hE := HE.out i x HXI.out (decide_eq_true (by omega)) HR2.out.2
            obtain ⟨hJ, hC, hP⟩ := hE
            subst hJ hC hP
            clear HO HE
            go_wp2_with (go_at_call 21; refine (new_any _ _ _).mono ?_; rintro e w2 ⟨gq, rfl, h2⟩; have RF2 : Hid (RF W W.heap.size w2) := (RFL.out _ HB.out).on h2.out.1; have hgn : W.heap.size ≠ gq := (by have := h2.out.2.2.2; have := cell_lt (RFL.out _ HB.out).r0; simp at this; omega); have r0 := RF2.out.r0; have r1 := RF2.out.r1; have f0 := RF2.out.f0; have f1 := RF2.out.f1)
            obtain ⟨k1, k2⟩ := RF2.out.fin (c := 63) hgn (by decide) h2.out.2.1 h2.out.2.2.1 (.slice (some ⟨gq, 0, none⟩) 1 1) (.int .i64 63)
            exact bodyPost_ret (v := .tuple #[.string mty, .agg #[.slice (some ⟨gq, 0, none⟩) 1 1, .int .i64 63]]) (by simp only [results, Tryz.results9]; simp [go_sem, mty, *]) rfl ⟨_, rfl, k1, k2⟩
    · obtain rfl : i = N := by omega
      have hI : ¬ (i : Int) < (i : Int) := by omega
      have hfin := HO.out (fun j x hx => HR.out.2.2 j x (by have := (List.getElem?_eq_some_iff.1 hx).1; rw [HN.out] at this; exact this) hx)
      have hall : jnB xs mty = acc := by rw [← HR.out.2.1, List.take_of_length_le (by rw [HN.out]; exact Nat.le_refl _)]
      obtain ⟨hJ, hC⟩ := hfin
      rw [hall] at hJ
      subst hJ hC
      have HB : Hid (Below (G + 1) W1 wr) := HR.out.1
      clear HO HE
      go_wp2_with (go_at_call 22; refine (none_any _).mono ?_; rintro e w2 ⟨rfl, h2⟩; have RF2 : Hid (RF W W.heap.size w2) := (RFL.out _ HB.out).on h2.out; have r0 := RF2.out.r0; have r1 := RF2.out.r1; have f0 := RF2.out.f0; have f1 := RF2.out.f1)
      exact bodyPost_ret (v := .tuple #[.string J, .agg #[.slice none 0 0, .int .i64 0]]) (by simp only [results, Tryz.results9]; simp [go_sem, *]) rfl ⟨_, rfl, ⟨fun _ => rfl, fun q => absurd rfl q⟩, RF2.out.put _ _⟩
end Go.Proofs.YtlfmihhnijlpiaaGreatDoor.Sp
