import Derived.Test.YtnamkcfmbefkfaaDoorSa
import Derived.Deep.Cut
namespace Go.Proofs.YtnamkcfmbefkfaaDoor
open Go Go.Proofs Go.RowKit
theorem drewN2 {w w' : World} {k : Nat} (h : ∃ m, w' = (w.drewN k).drewN m) : ∃ n, w' = w.drewN n := by
  obtain ⟨m, rfl⟩ := h
  exact ⟨k + m, by simp [World.drewN, Nat.add_assoc]⟩
def Us (c : Fin 18 → Value) : Array Value := #[c 5, c 6, c 7, c 8, c 9, c 10, c 11, c 12, c 13]
set_option maxRecDepth 100000 in
set_option maxHeartbeats 4000000 in
theorem user_same (W : World) (c c' : Fin 18 → Value) (D : PdD) (hs : SameC c c') (ht : TyC c) (h1 : RX W c D) (h2 : RX W c' D) :
    Calls Tryd.prog 19 #[.agg (Us c), .agg (Us c')] W fun e w' => e = .returned (.bool true) ∧ Below W.heap.size W w' := by
  obtain ⟨x5, e5⟩ := ht.t5
  obtain ⟨x6, e6⟩ := ht.t6
  obtain ⟨x7, e7⟩ := ht.t7
  obtain ⟨x8, e8⟩ := ht.t8
  obtain ⟨x9, e9⟩ := ht.t9
  obtain ⟨x10, e10⟩ := ht.t10
  obtain ⟨x11, e11⟩ := ht.t11
  have f5 := (hs 5 (by decide) (by decide) (by decide) (by decide)).trans e5
  have f6 := (hs 6 (by decide) (by decide) (by decide) (by decide)).trans e6
  have f7 := (hs 7 (by decide) (by decide) (by decide) (by decide)).trans e7
  have f8 := (hs 8 (by decide) (by decide) (by decide) (by decide)).trans e8
  have f9 := (hs 9 (by decide) (by decide) (by decide) (by decide)).trans e9
  have f10 := (hs 10 (by decide) (by decide) (by decide) (by decide)).trans e10
  have f11 := (hs 11 (by decide) (by decide) (by decide) (by decide)).trans e11
  obtain ⟨⟨_, aR, cR, eR, hshR, hR⟩, hfR⟩ := h1.role
  obtain ⟨⟨_, aR', cR', eR', _, hR'⟩, _⟩ := h2.role
  obtain ⟨⟨_, aO, cO, eO, hshO, hO⟩, hfO⟩ := h1.oth
  obtain ⟨⟨_, aO', cO', eO', _, hO'⟩, _⟩ := h2.oth
  have hU : Us c = #[.bool x5, .int .u32 x6, .string x7, .string x8, .bool x9, .int .u16 x10, .int .u16 x11, .slice aR D.rl.length cR, .slice aO D.ot.length cO] := by
    unfold Us; rw [e5, e6, e7, e8, e9, e10, e11, eR, eO]
  have hU' : Us c' = #[.bool x5, .int .u32 x6, .string x7, .string x8, .bool x9, .int .u16 x10, .int .u16 x11, .slice aR' D.rl.length cR', .slice aO' D.ot.length cO'] := by
    unfold Us; rw [f5, f6, f7, f8, f9, f10, f11, eR', eO']
  rw [hU, hU']
  obtain ⟨nR, hnR⟩ : ∃ n, D.rl.length = n := ⟨_, rfl⟩
  obtain ⟨nO, hnO⟩ : ∃ n, D.ot.length = n := ⟨_, rfl⟩
  have HR : Hid ((∀ p ∈ D.rl, ShR p) ∧ D.rl.length = nR) := ⟨hshR, hnR⟩
  have HO : Hid ((∀ p ∈ D.ot, ShO p) ∧ D.ot.length = nO) := ⟨hshO, hnO⟩
  have HRa : Hid _ := hR
  have HRb : Hid _ := hR'
  have HOa : Hid _ := hO
  have HOb : Hid _ := hO'
  have bR : nR ≤ 140737488351232 := by rw [← hnR]; have := hfR; unfold Fits at this; omega
  have bO : nO ≤ 140737488351232 := by rw [← hnO]; have := hfO; unfold Fits at this; omega
  rw [hnR, hnO]
  clear e5 e6 e7 e8 e9 e10 e11 f5 f6 f7 f8 f9 f10 f11 hR hR' hO hO' eR eR' eO eO' hU hU' hnR hnO h1 h2 hs ht hshR hshO hfR hfO
  obtain ⟨W2, hW2⟩ : ∃ W2, (W.alloc (.cells #[.bool x5, .int .u32 x6, .string x7, .string x8, .bool x9, .int .u16 x10, .int .u16 x11, .slice aR nR cR, .slice aO nO cO] 28)).alloc (.cells #[.bool x5, .int .u32 x6, .string x7, .string x8, .bool x9, .int .u16 x10, .int .u16 x11, .slice aR' nR cR', .slice aO' nO cO'] 28) = W2 := ⟨_, rfl⟩
  have hg1 : W2.heap[W.heap.size]? = some (.cells #[.bool x5, .int .u32 x6, .string x7, .string x8, .bool x9, .int .u16 x10, .int .u16 x11, .slice aR nR cR, .slice aO nO cO] 28) := by rw [← hW2]; exact (Below.heap_alloc _ _ _ (by simp)).trans (alloc_new W _)
  have hg2 : W2.heap[W.heap.size + 1]? = some (.cells #[.bool x5, .int .u32 x6, .string x7, .string x8, .bool x9, .int .u16 x10, .int .u16 x11, .slice aR' nR cR', .slice aO' nO cO'] 28) := by
    have := alloc_new (W.alloc (.cells #[.bool x5, .int .u32 x6, .string x7, .string x8, .bool x9, .int .u16 x10, .int .u16 x11, .slice aR nR cR, .slice aO nO cO] 28)) (.cells #[.bool x5, .int .u32 x6, .string x7, .string x8, .bool x9, .int .u16 x10, .int .u16 x11, .slice aR' nR cR', .slice aO' nO cO'] 28)
    rw [← hW2]
    simpa using this
  have hb2 : Below W.heap.size W W2 := by rw [← hW2]; exact ((Below.refl _ _).alloc (Nat.le_refl _) _).alloc (by simp) _
  have HG : Hid (Below W.heap.size W W2 ∧ W2.heap[W.heap.size]? = some (.cells #[.bool x5, .int .u32 x6, .string x7, .string x8, .bool x9, .int .u16 x10, .int .u16 x11, .slice aR nR cR, .slice aO nO cO] 28) ∧ W2.heap[W.heap.size + 1]? = some (.cells #[.bool x5, .int .u32 x6, .string x7, .string x8, .bool x9, .int .u16 x10, .int .u16 x11, .slice aR' nR cR', .slice aO' nO cO'] 28)) := ⟨hb2, hg1, hg2⟩
  have y0 : W2.cell? ⟨W.heap.size, 0, none⟩ = some (.bool x5) := by rw [cell_of_row _ _ _ _ _ _ hg1]; rfl
  have y1 : W2.cell? ⟨W.heap.size, 1, none⟩ = some (.int .u32 x6) := by rw [cell_of_row _ _ _ _ _ _ hg1]; rfl
  have y2 : W2.cell? ⟨W.heap.size, 2, none⟩ = some (.string x7) := by rw [cell_of_row _ _ _ _ _ _ hg1]; rfl
  have y3 : W2.cell? ⟨W.heap.size, 3, none⟩ = some (.string x8) := by rw [cell_of_row _ _ _ _ _ _ hg1]; rfl
  have y4 : W2.cell? ⟨W.heap.size, 4, none⟩ = some (.bool x9) := by rw [cell_of_row _ _ _ _ _ _ hg1]; rfl
  have y5 : W2.cell? ⟨W.heap.size, 5, none⟩ = some (.int .u16 x10) := by rw [cell_of_row _ _ _ _ _ _ hg1]; rfl
  have y6 : W2.cell? ⟨W.heap.size, 6, none⟩ = some (.int .u16 x11) := by rw [cell_of_row _ _ _ _ _ _ hg1]; rfl
  have y7 : W2.cell? ⟨W.heap.size, 7, none⟩ = some (.slice aR nR cR) := by rw [cell_of_row _ _ _ _ _ _ hg1]; rfl
  have y8 : W2.cell? ⟨W.heap.size, 8, none⟩ = some (.slice aO nO cO) := by rw [cell_of_row _ _ _ _ _ _ hg1]; rfl
  have w0 : W2.cell? ⟨W.heap.size + 1, 0, none⟩ = some (.bool x5) := by rw [cell_of_row _ _ _ _ _ _ hg2]; rfl
  have w1 : W2.cell? ⟨W.heap.size + 1, 1, none⟩ = some (.int .u32 x6) := by rw [cell_of_row _ _ _ _ _ _ hg2]; rfl
  have w2 : W2.cell? ⟨W.heap.size + 1, 2, none⟩ = some (.string x7) := by rw [cell_of_row _ _ _ _ _ _ hg2]; rfl
  have w3 : W2.cell? ⟨W.heap.size + 1, 3, none⟩ = some (.string x8) := by rw [cell_of_row _ _ _ _ _ _ hg2]; rfl
  have w4 : W2.cell? ⟨W.heap.size + 1, 4, none⟩ = some (.bool x9) := by rw [cell_of_row _ _ _ _ _ _ hg2]; rfl
  have w5 : W2.cell? ⟨W.heap.size + 1, 5, none⟩ = some (.int .u16 x10) := by rw [cell_of_row _ _ _ _ _ _ hg2]; rfl
  have w6 : W2.cell? ⟨W.heap.size + 1, 6, none⟩ = some (.int .u16 x11) := by rw [cell_of_row _ _ _ _ _ _ hg2]; rfl
  have w7 : W2.cell? ⟨W.heap.size + 1, 7, none⟩ = some (.slice aR' nR cR') := by rw [cell_of_row _ _ _ _ _ _ hg2]; rfl
  have w8 : W2.cell? ⟨W.heap.size + 1, 8, none⟩ = some (.slice aO' nO cO') := by rw [cell_of_row _ _ _ _ _ _ hg2]; rfl
  clear hg1 hg2 hb2
  go_enter Tryd.func19, Tryd.ntmps19
  go_wp2
  clear y0 y1 y2 y3 y4 y5 y6 y7 y8 w0 w1 w2 w3 w4 w5 w6 w7 w8
  go_loopg [5] nR (fun g s5 wx => ∃ i : Nat, s5 = .int .i64 (i : Int) ∧ g + i = nR ∧ Hid (Below W2.heap.size W2 wx))
  case atStart => exact ⟨0, rfl, by omega, Below.refl _ _⟩
  case round =>
    obtain ⟨i, rfl, hgi, HW⟩ := hrel
    have z7 : wr.cell? ⟨W.heap.size, 7, none⟩ = some (.slice aR nR cR) := by
      rw [cell_of_row _ _ _ _ _ _ ((HW.out.block _ (Array.getElem?_eq_some_iff.1 HG.out.2.1).1).trans HG.out.2.1)]; rfl
    have z7' : wr.cell? ⟨W.heap.size + 1, 7, none⟩ = some (.slice aR' nR cR') := by
      rw [cell_of_row _ _ _ _ _ _ ((HW.out.block _ (Array.getElem?_eq_some_iff.1 HG.out.2.2).1).trans HG.out.2.2)]; rfl
    by_cases hin : i < nR
    · have hI : (i : Int) < (nR : Int) := by omega
      have hil : i < D.rl.length := by rw [HR.out.2]; exact hin
      obtain ⟨ba, oa, rfl, ka⟩ := HRa.out (by omega)
      obtain ⟨bb, ob, rfl, kb⟩ := HRb.out (by omega)
      obtain ⟨va, ka, ka2⟩ := ka i hil
      obtain ⟨vb, kb, kb2⟩ := kb i hil
      obtain ⟨s, x, y, hp⟩ := HR.out.1 _ (List.getElem_mem hil)
      rw [hp] at ka ka2 kb kb2
      obtain rfl : va = [] := ka2
      obtain rfl : vb = [] := kb2
      have a0 := ka 0 _ rfl
      have a1 := ka 1 _ rfl
      have a2 := ka 2 _ rfl
      have b0 := kb 0 _ rfl
      have b1 := kb 1 _ rfl
      have b2 := kb 2 _ rfl
      rw [Nat.add_zero] at a0 b0
      have up : ∀ {g : Nat} {o : Nat} {v : Value}, W.cell? ⟨g, o, none⟩ = some v → wr.cell? ⟨g, o, none⟩ = some v := fun h => (World.cell?_of_block ((HW.out.block _ (Nat.lt_of_lt_of_le (cell_lt h) HG.out.1.size)).trans (HG.out.1.block _ (cell_lt h)))).trans h
      replace a0 := up a0
      replace a1 := up a1
      replace a2 := up a2
      replace b0 := up b0
      replace b1 := up b1
      replace b2 := up b2
      clear up ka kb hp hil
      go_wp2
      go_region_held3 (fun w' => w'.cell? ⟨W.heap.size, 7, none⟩ = some (.slice (some ⟨ba, oa, none⟩) nR cR) ∧ w'.cell? ⟨W.heap.size + 1, 7, none⟩ = some (.slice (some ⟨bb, ob, none⟩) nR cR') ∧ w'.cell? ⟨ba, oa + i * 3, none⟩ = some (.string s) ∧ w'.cell? ⟨ba, oa + i * 3 + 1, none⟩ = some (.int .u8 x) ∧ w'.cell? ⟨ba, oa + i * 3 + 2, none⟩ = some (.int .u8 y) ∧ w'.cell? ⟨bb, ob + i * 3, none⟩ = some (.string s) ∧ w'.cell? ⟨bb, ob + i * 3 + 1, none⟩ = some (.int .u8 x) ∧ w'.cell? ⟨bb, ob + i * 3 + 2, none⟩ = some (.int .u8 y)) (go_keep) (fail)
      go_wp2
      go_roundg (nR - (i + 1))
      case rel => exact ⟨i + 1, by go_num, by omega, HW.out.trans ((Below.refl _ _).drew.mono HW.out.size)⟩
      case measure => omega
    · have hI : ¬ (i : Int) < (nR : Int) := by omega
      obtain ⟨wo, hwo⟩ : ∃ wo : World, wo = wr := ⟨_, rfl⟩
      rw [← hwo] at HW z7 z7' ⊢
      have HWo : Hid (Below W2.heap.size W2 wo) := HW
      clear HW hwo hgi hin
      go_wp2
      clear z7 z7'
      go_loopg [6] nO (fun g s6 wx => ∃ i : Nat, s6 = .int .i64 (i : Int) ∧ g + i = nO ∧ Hid (Below W2.heap.size W2 wx))
      case atStart => exact ⟨0, rfl, by omega, HWo.out⟩
      case round =>
        clear HWo
        obtain ⟨i, rfl, hgi, HW⟩ := hrel
        have z7 : wr.cell? ⟨W.heap.size, 8, none⟩ = some (.slice aO nO cO) := by
          rw [cell_of_row _ _ _ _ _ _ ((HW.out.block _ (Array.getElem?_eq_some_iff.1 HG.out.2.1).1).trans HG.out.2.1)]; rfl
        have z7' : wr.cell? ⟨W.heap.size + 1, 8, none⟩ = some (.slice aO' nO cO') := by
          rw [cell_of_row _ _ _ _ _ _ ((HW.out.block _ (Array.getElem?_eq_some_iff.1 HG.out.2.2).1).trans HG.out.2.2)]; rfl
        by_cases hin : i < nO
        · have hI : (i : Int) < (nO : Int) := by omega
          have hil : i < D.ot.length := by rw [HO.out.2]; exact hin
          obtain ⟨ba, oa, rfl, ka⟩ := HOa.out (by omega)
          obtain ⟨bb, ob, rfl, kb⟩ := HOb.out (by omega)
          obtain ⟨va, ka, ka2⟩ := ka i hil
          obtain ⟨vb, kb, kb2⟩ := kb i hil
          obtain ⟨x, bs, hp⟩ := HO.out.1 _ (List.getElem_mem hil)
          rw [hp] at ka ka2 kb kb2
          obtain ⟨ua, rfl, hVa, hla, _⟩ := ka2
          obtain ⟨ub, rfl, hVb, hlb, _⟩ := kb2
          have a0 := ka 0 _ rfl
          have a1 := ka 1 _ rfl
          have b0 := kb 0 _ rfl
          have b1 := kb 1 _ rfl
          rw [Nat.add_zero] at a0 b0
          have hbw : Below W.heap.size W wr := HG.out.1.trans (HW.out.mono HG.out.1.size)
          replace a0 := (hbw.cell (cell_lt a0)).trans a0
          replace a1 := (hbw.cell (cell_lt a1)).trans a1
          replace b0 := (hbw.cell (cell_lt b0)).trans b0
          replace b1 := (hbw.cell (cell_lt b1)).trans b1
          have hq := fun m => bytes_same (wr.drewN m) ua ub bs hla ((hVa.next hbw).next ⟨rfl, rfl, rfl, Nat.le_refl _, fun _ _ => rfl⟩) ((hVb.next hbw).next ⟨rfl, rfl, rfl, Nat.le_refl _, fun _ _ => rfl⟩)
          clear hbw hVa hVb ka kb hp hil
          go_wp2
          go_quiet ((go_at_call 21; exact (hq _).mono fun _ _ h => ⟨h.1, drewN2 h.2⟩))
          go_wp2
          go_roundg (nO - (i + 1))
          case rel => exact ⟨i + 1, by go_num, by omega, HW.out.trans ⟨rfl, rfl, rfl, Nat.le_refl _, fun _ _ => rfl⟩⟩
          case measure => omega
        · have hI : ¬ (i : Int) < (nO : Int) := by omega
          go_wp2
          go_ret
          exact ⟨rfl, HG.out.1.trans (HW.out.mono HG.out.1.size)⟩
end Go.Proofs.YtnamkcfmbefkfaaDoor
