import Derived.Test.YtiieikdbhpflgabDoorM
/-
  DERIVED. The copy of a PDU.
-/
namespace Go.Proofs.YtiieikdbhpflgabDoor
open Go Go.Proofs Go.RowKit

theorem hu40 : ∃ fs, Tryd.prog.underlying 46 = some (.struct fs) := ⟨_, Tryd.underlying46⟩
theorem infoStr : (Tryd.prog.info? 9).map (fun i => (i.zero, i.size, i.bytes)) = some (some (.string ⟨#[]⟩), 1, 16) := by kernel_rfl
theorem infoCtx : (Tryd.prog.info? 95).map (fun i => (i.zero, i.size, i.bytes)) = some (some (.agg #[.int .u8 0, .int .u8 0, .string ⟨#[]⟩, .slice none 0 0]), 4, 48) := by kernel_rfl
theorem infoRole : (Tryd.prog.info? 97).map (fun i => (i.zero, i.size, i.bytes)) = some (some (.agg #[.string ⟨#[]⟩, .int .u8 0, .int .u8 0]), 3, 24) := by kernel_rfl
theorem infoPdv : (Tryd.prog.info? 78).map (fun i => (i.zero, i.size, i.bytes)) = some (some (.agg #[.int .u8 0, .bool false, .bool false, .slice none 0 0]), 4, 32) := by kernel_rfl
theorem infoOth : (Tryd.prog.info? 91).map (fun i => (i.zero, i.size, i.bytes)) = some (some (.agg #[.int .u8 0, .slice none 0 0]), 2, 32) := by kernel_rfl

set_option maxRecDepth 100000 in
set_option maxHeartbeats 4000000 in
theorem copy_any (w : World) (k : Int) (c : Fin 18 → Value) (hR : RP w c) : Calls Tryd.prog 20 #[.agg (Pd k c)] w fun e w' => ∃ c2, e = .returned (.agg (Pd k c2)) ∧ RV w.heap.size w' c2 ∧ Below w.heap.size w w' := by
  have hsz : (Tryd.prog.info? 46).map (·.size) = some (Pd k c).size := by unfold Pd; kernel_rfl
  have hoc := pd_one k c hR.one
  obtain ⟨W2, hW2⟩ : ∃ W2, ((w.alloc (.cells (Pd k c) 46)).alloc (.cells #[.int .i64 0, .int .u16 0, .string ⟨#[]⟩, .string ⟨#[]⟩, .string ⟨#[]⟩, .slice none 0 0, .bool false, .int .u32 0, .string ⟨#[]⟩, .string ⟨#[]⟩, .bool false, .int .u16 0, .int .u16 0, .slice none 0 0, .slice none 0 0, .int .u8 0, .int .u8 0, .int .u8 0, .slice none 0 0] 46)).alloc (.cells #[.int .i64 0, .int .u16 0, .string ⟨#[]⟩, .string ⟨#[]⟩, .string ⟨#[]⟩, .slice none 0 0, .bool false, .int .u32 0, .string ⟨#[]⟩, .string ⟨#[]⟩, .bool false, .int .u16 0, .int .u16 0, .slice none 0 0, .slice none 0 0, .int .u8 0, .int .u8 0, .int .u8 0, .slice none 0 0] 46) = W2 := ⟨_, rfl⟩
  obtain ⟨W3, hW3⟩ : ∃ W3, W2.setRow (w.heap.size + 1 + 1) (Pd k c) = W3 := ⟨_, rfl⟩
  have hgP : ((w.alloc (.cells (Pd k c) 46)).alloc (.cells #[.int .i64 0, .int .u16 0, .string ⟨#[]⟩, .string ⟨#[]⟩, .string ⟨#[]⟩, .slice none 0 0, .bool false, .int .u32 0, .string ⟨#[]⟩, .string ⟨#[]⟩, .bool false, .int .u16 0, .int .u16 0, .slice none 0 0, .slice none 0 0, .int .u8 0, .int .u8 0, .int .u8 0, .slice none 0 0] 46)).heap[w.heap.size]? = some (.cells (Pd k c) 46) := (Below.heap_alloc _ _ _ (by simp)).trans (alloc_new w _)
  have hgQ : W2.heap[w.heap.size + 1 + 1]? = some (.cells #[.int .i64 0, .int .u16 0, .string ⟨#[]⟩, .string ⟨#[]⟩, .string ⟨#[]⟩, .slice none 0 0, .bool false, .int .u32 0, .string ⟨#[]⟩, .string ⟨#[]⟩, .bool false, .int .u16 0, .int .u16 0, .slice none 0 0, .slice none 0 0, .int .u8 0, .int .u8 0, .int .u8 0, .slice none 0 0] 46) := by
    rw [← hW2]
    have := alloc_new ((w.alloc (.cells (Pd k c) 46)).alloc (.cells #[.int .i64 0, .int .u16 0, .string ⟨#[]⟩, .string ⟨#[]⟩, .string ⟨#[]⟩, .slice none 0 0, .bool false, .int .u32 0, .string ⟨#[]⟩, .string ⟨#[]⟩, .bool false, .int .u16 0, .int .u16 0, .slice none 0 0, .slice none 0 0, .int .u8 0, .int .u8 0, .int .u8 0, .slice none 0 0] 46)) (.cells #[.int .i64 0, .int .u16 0, .string ⟨#[]⟩, .string ⟨#[]⟩, .string ⟨#[]⟩, .slice none 0 0, .bool false, .int .u32 0, .string ⟨#[]⟩, .string ⟨#[]⟩, .bool false, .int .u16 0, .int .u16 0, .slice none 0 0, .slice none 0 0, .int .u8 0, .int .u8 0, .int .u8 0, .slice none 0 0] 46)
    simpa using this
  have hC3 : CI w k c c #[.int .i64 0, .int .u16 0, .string ⟨#[]⟩, .string ⟨#[]⟩, .string ⟨#[]⟩, .slice none 0 0, .bool false, .int .u32 0, .string ⟨#[]⟩, .string ⟨#[]⟩, .bool false, .int .u16 0, .int .u16 0, .slice none 0 0, .slice none 0 0, .int .u8 0, .int .u8 0, .int .u8 0, .slice none 0 0] W3 := by
    have hb2 : Below w.heap.size w W2 := hW2 ▸ ((((Below.refl _ _).alloc (Nat.le_refl _) _).alloc (by simp) _).alloc (by simp; omega) _)
    have ho : ∀ j, j ≠ w.heap.size + 1 + 1 → W3.heap[j]? = W2.heap[j]? := fun j hj => by
      rw [← hW3]
      unfold World.setRow
      show (W2.heap.modify _ _)[j]? = _
      rw [Array.getElem?_modify, if_neg (Ne.symm hj)]
    refine ⟨hW3 ▸ below_setRow hb2 (by omega) _, (ho _ (by omega)).trans ?_, (ho _ (by omega)).trans ?_, hW3 ▸ setRow_heap W2 _ _ _ _ _ hgQ⟩
    · rw [← hW2]; exact (Below.heap_alloc _ _ _ (by simp; omega)).trans hgP
    · rw [← hW2]
      have := alloc_new (w.alloc (.cells (Pd k c) 46)) (.cells #[.int .i64 0, .int .u16 0, .string ⟨#[]⟩, .string ⟨#[]⟩, .string ⟨#[]⟩, .slice none 0 0, .bool false, .int .u32 0, .string ⟨#[]⟩, .string ⟨#[]⟩, .bool false, .int .u16 0, .int .u16 0, .slice none 0 0, .slice none 0 0, .int .u8 0, .int .u8 0, .int .u8 0, .slice none 0 0] 46)
      exact (Below.heap_alloc _ _ _ (by simp)).trans (by simpa using this)
  have hq5 : W3.cell? ⟨w.heap.size + 1 + 1, 5, none⟩ = some (c 4) := hC3.cellq 4
  have hqf := hC3.froz
  obtain ⟨fs, hu⟩ := hu40
  go_enter Tryd.func20, Tryd.ntmps20
  generalize Pd k c = PP at *
  go_wp2_with (first | (refine wpList_load_row rfl 46 (.tmp 1) rfl w.heap.size rfl 46 PP (0, 0) _ hgP hu rfl hsz ?_) | (refine wpList_store_row rfl 46 (.tmp 3) (.tmp 13) rfl (w.heap.size + 1 + 1) PP rfl rfl 46 _ hgQ hsz (by rw [Option.some.inj (hsz.symm.trans (show (Tryd.prog.info? 46).map (·.size) = some 19 by kernel_rfl))]; rfl) hoc ?_))
  have HC4 : Hid (CI w k c (up c 4 (.slice none 0 0)) #[.int .i64 0, .int .u16 0, .string ⟨#[]⟩, .string ⟨#[]⟩, .string ⟨#[]⟩, .slice none 0 0, .bool false, .int .u32 0, .string ⟨#[]⟩, .string ⟨#[]⟩, .bool false, .int .u16 0, .int .u16 0, .slice none 0 0, .slice none 0 0, .int .u8 0, .int .u8 0, .int .u8 0, .slice none 0 0] (W3.setCell ⟨w.heap.size + 1 + 1, 5, none⟩ (.slice none 0 0))) := hC3.set 5 _ _ (pd_up4 k c _)
  obtain ⟨W4, hW4⟩ : ∃ W4, W3.setCell ⟨w.heap.size + 1 + 1, 5, none⟩ (.slice none 0 0) = W4 := ⟨_, rfl⟩
  rw [hW4] at HC4 ⊢
  clear hW4 hC3 hW3 hW2 hgP hgQ hq5 hqf hoc hsz hu
  have hZs : (#[.int .i64 0, .int .u16 0, .string ⟨#[]⟩, .string ⟨#[]⟩, .string ⟨#[]⟩, .slice none 0 0, .bool false, .int .u32 0, .string ⟨#[]⟩, .string ⟨#[]⟩, .bool false, .int .u16 0, .int .u16 0, .slice none 0 0, .slice none 0 0, .int .u8 0, .int .u8 0, .int .u8 0, .slice none 0 0] : Array Value).size = 19 := rfl
  generalize (#[.int .i64 0, .int .u16 0, .string ⟨#[]⟩, .string ⟨#[]⟩, .string ⟨#[]⟩, .slice none 0 0, .bool false, .int .u32 0, .string ⟨#[]⟩, .string ⟨#[]⟩, .bool false, .int .u16 0, .int .u16 0, .slice none 0 0, .slice none 0 0, .int .u8 0, .int .u8 0, .int .u8 0, .slice none 0 0] : Array Value) = Z at HC4 hZs
  obtain ⟨n, hrd, hfit⟩ := hR.ctx
  obtain ⟨ao, cap, hc4, hel⟩ := hrd
  have HEl : Hid (0 < n → ∃ b off, ao = some ⟨b, off, none⟩ ∧ ∀ k, k < n → ECtx w b (off + k * 4)) := hel
  have hn : n ≤ 2932031007384 := by unfold Fits at hfit; omega
  clear hel hfit
  go_loopw [4] (fun x wr => ∃ (j : Nat) (c' : Fin 18 → Value) (xs : List Value), x = .int .i64 (j : Int) ∧ j ≤ n ∧ Hid (CI w k c c' Z wr) ∧ Hid (∀ i, i ≠ 4 → c' i = c i) ∧ Hid (wr.ownsRow (w.heap.size + 3) 95 4 (c' 4) j xs)) (fun x _ => n - (intOf x).toNat)
  case atStart => exact ⟨0, up c 4 (.slice none 0 0), [], rfl, by omega, HC4, fun i hi => by simp [up, hi], World.ownsRow_nil _ _ _ _⟩
  case round =>
    obtain ⟨j, c', xs, rfl, hj, HC, HS, HO⟩ := hrel
    have y5 : wr.cell? ⟨w.heap.size, 5, none⟩ = some (.slice ao n cap) := by rw [← hc4]; exact HC.out.cellp 4
    clear HC4
    by_cases hjn : j < n
    · have hjn2 : ((j : Int) < (n : Int)) := by omega
      obtain ⟨b, off, hao, hE⟩ := HEl.out (by omega)
      subst hao
      obtain ⟨x0, x1, s2, v3, m, e0, e1, e2, e3, hrs, hfm⟩ := hE j hjn
      have hbw := HC.out.below
      have E0 := (hbw.cell (cell_lt e0)).trans e0
      have E1 := (hbw.cell (cell_lt e1)).trans e1
      have E2 := (hbw.cell (cell_lt e2)).trans e2
      have E3 := (hbw.cell (cell_lt e3)).trans e3
      obtain ⟨ao2, cap2, hv3, hel2⟩ := hrs
      subst hv3
      have HEl2 : Hid (0 < m → ∃ b off, ao2 = some ⟨b, off, none⟩ ∧ ∀ k, k < m → EStr w b (off + k * 1)) := hel2
      have hm : m ≤ 8796093021952 := by unfold Fits at hfm; omega
      clear hel2 hfm hE e0 e1 e2 e3 HEl hbw
      obtain ⟨w0, hw0⟩ : ∃ w0, wr.alloc (.cells #[.int .u8 x0, .int .u8 x1, .string s2, .slice ao2 m cap2] 95) = w0 := ⟨_, rfl⟩
      have hb0 : Below wr.heap.size wr w0 := hw0 ▸ (Below.refl _ _).alloc (Nat.le_refl _) _
      have hs0 : w0.heap.size = wr.heap.size + 1 := by rw [← hw0]; simp
      have t0 : w0.cell? ⟨wr.heap.size, 0, none⟩ = some (.int .u8 x0) := by rw [← hw0]; simp
      have t1 : w0.cell? ⟨wr.heap.size, 1, none⟩ = some (.int .u8 x1) := by rw [← hw0]; simp
      have t2 : w0.cell? ⟨wr.heap.size, 2, none⟩ = some (.string s2) := by rw [← hw0]; simp
      have t3 : w0.cell? ⟨wr.heap.size, 3, none⟩ = some (.slice ao2 m cap2) := by rw [← hw0]; simp
      have tf : ∀ i, w0.frozen? ⟨wr.heap.size, i, none⟩ = false := fun i => by rw [← hw0]; simp
      have HT : Hid (w0.cell? ⟨wr.heap.size, 0, none⟩ = some (.int .u8 x0) ∧ w0.cell? ⟨wr.heap.size, 1, none⟩ = some (.int .u8 x1) ∧ w0.cell? ⟨wr.heap.size, 2, none⟩ = some (.string s2) ∧ w0.cell? ⟨wr.heap.size, 3, none⟩ = some (.slice ao2 m cap2) ∧ ∀ i, w0.frozen? ⟨wr.heap.size, i, none⟩ = false) := ⟨t0, t1, t2, t3, tf⟩
      have HB0 : Hid (Below wr.heap.size wr w0 ∧ w0.heap.size = wr.heap.size + 1) := ⟨hb0, hs0⟩
      obtain ⟨iS, hiS, hS0, hS1, hS2⟩ := info_parts infoStr
      go_wp2
      clear hw0 hb0 hs0 t0 t1 t2 t3 tf E0 E1 E2 E3 y5
      obtain ⟨wo, hwo⟩ : ∃ wo : World, wo = wr := ⟨_, rfl⟩
      subst hwo
      go_loopw [6, 7] (fun u x wi => ∃ (t : Nat) (ys : List Value), x = .int .i64 (t : Int) ∧ t ≤ m ∧ Hid (wi.ownsRow w0.heap.size 9 1 u t ys) ∧ Hid (Below w0.heap.size w0 wi)) (fun _ x _ => m - (intOf x).toNat)
      case atStart => exact ⟨0, [], rfl, by omega, World.ownsRow_nil _ _ _ _, Below.refl _ _⟩
      case round =>
        obtain ⟨t, ys, rfl, ht, HOi, HBi⟩ := hrel
        have hlt0 : wo.heap.size < w0.heap.size := by have := HB0.out.2; omega
        have t3 := (HBi.out.cell (p := ⟨wo.heap.size, 3, none⟩) hlt0).trans HT.out.2.2.2.1
        by_cases htm : t < m
        · obtain ⟨b2, off2, hao2, hE2⟩ := HEl2.out (by omega)
          subst hao2
          obtain ⟨sx, hsx⟩ := hE2 t htm
          rw [Nat.mul_one] at hsx
          have hsx2 : wr.cell? ⟨b2, off2 + t, none⟩ = some (.string sx) := by
            have h1 := (HC.out.below.cell (cell_lt hsx)).trans hsx
            have h2 := (HB0.out.1.cell (cell_lt h1)).trans h1
            exact (HBi.out.cell (cell_lt h2)).trans h2
          have htm2 : ((t : Int) < (m : Int)) := by omega
          have hsw : w0.heap.size ≤ wr.heap.size := HBi.out.size
          clear hE2 hsx
          go_wp2_with (at_builtin; refine wpList_append_own _ rfl (.tmp 37) (.tmp 43) 93 rfl w0.heap.size 9 iS _ 1 16 Tryd.underlying93 hiS hS0 hS1 hS2 rfl (by decide) u6 t ys rfl (HOi.out.alloc _) ⟨wr.heap.size, 0, none⟩ 1 1 [.string sx] rfl rfl ?_ ?_ ?_ ?_ ?_ ?_)
          · exact cell_one_new _ _ _
          · intro u hu; simp at hu; subst hu; rfl
          · unfold maxLen; omega
          · omega
          · simp; omega
          · intro v' w2 hown' hgrow _
            have hbe' : Below w0.heap.size w0 w2 := (HBi.out.alloc hsw _).grown hgrow (by simp; omega) (fun j hj => (HOi.out.lt j hj).1)
            clear hgrow
            go_wp2
            go_roundw
            case rel => exact ⟨t + 1, _, by go_num, by omega, hown', hbe'⟩
            case measure => simp [intOf]; omega
        · have htm2 : ¬ ((t : Int) < (m : Int)) := by omega
          have t0 := (HBi.out.cell (p := ⟨wo.heap.size, 0, none⟩) hlt0).trans HT.out.1
          have t1 := (HBi.out.cell (p := ⟨wo.heap.size, 1, none⟩) hlt0).trans HT.out.2.1
          have t2 := (HBi.out.cell (p := ⟨wo.heap.size, 2, none⟩) hlt0).trans HT.out.2.2.1
          have tf : ∀ i, wr.frozen? ⟨wo.heap.size, i, none⟩ = false := fun i => (HBi.out.frozen (p := ⟨wo.heap.size, i, none⟩) hlt0).trans (HT.out.2.2.2.2 i)
          obtain ⟨a6, p6, hu6⟩ := owns_slice HOi.out
          subst hu6
          obtain ⟨W5, hW5⟩ : ∃ W5, wr.setCell ⟨wo.heap.size, 3, none⟩ (.slice a6 t p6) = W5 := ⟨_, rfl⟩
          have hb5 : Below wo.heap.size wo W5 := by
            rw [← hW5]
            exact (HB0.out.1.trans (HBi.out.mono (by omega))).setCell (p := ⟨wo.heap.size, 3, none⟩) (Nat.le_refl _) _
          have s0 : W5.cell? ⟨wo.heap.size, 0, none⟩ = some (.int .u8 x0) := by rw [← hW5]; exact (cell_set_ne (by omega)).trans t0
          have s1 : W5.cell? ⟨wo.heap.size, 1, none⟩ = some (.int .u8 x1) := by rw [← hW5]; exact (cell_set_ne (by omega)).trans t1
          have s2' : W5.cell? ⟨wo.heap.size, 2, none⟩ = some (.string s2) := by rw [← hW5]; exact (cell_set_ne (by omega)).trans t2
          have s3 : W5.cell? ⟨wo.heap.size, 3, none⟩ = some (.slice a6 t p6) := by rw [← hW5]; exact cell_set_eq t3
          have hsz3 := HC.out.size
          have HC5 : Hid (CI w k c c' Z W5) := HC.out.on (hb5.mono hsz3)
          have q5 : W5.cell? ⟨w.heap.size + 1 + 1, 5, none⟩ = some (c' 4) := HC5.out.cellq 4
          have HO5 : Hid (W5.ownsRow (w.heap.size + 3) 95 4 (c' 4) j xs) := owns_next HO.out hb5
          have hs5 : w.heap.size + 3 ≤ W5.heap.size := HC5.out.size
          obtain ⟨iC, hiC, hC0, hC1, hC2⟩ := info_parts infoCtx
          obtain ⟨cv, hcv⟩ : ∃ cv, c' 4 = cv := ⟨_, rfl⟩
          rw [hcv] at q5 HO5
          obtain ⟨a7, p7, hu7⟩ := owns_slice HO5.out
          subst hu7
          go_wp2_with (at_builtin; refine wpList_append_own _ rfl (.tmp 49) (.tmp 51) 36 rfl (w.heap.size + 3) 95 iC _ 4 48 Tryd.underlying36 hiC hC0 hC1 hC2 rfl (by decide) (.slice a7 j p7) j xs rfl (HO5.out.alloc _) ⟨W5.heap.size, 0, none⟩ 1 1 [.int .u8 x0, .int .u8 x1, .string s2, .slice a6 t p6] rfl rfl ?_ ?_ ?_ ?_ ?_ ?_)
          · exact ⟨rfl, rfl, rfl, rfl⟩
          · unfold maxLen; omega
          · omega
          · omega
          · intro v' w2 hown' hgrow _
            have hb6 : Below (w.heap.size + 3) W5 w2 := ((Below.refl _ _).alloc hs5 _).grown hgrow (by simp; omega) (fun j hj => (HO5.out.lt j hj).1)
            have HC6 : Hid (CI w k c c' Z w2) := HC5.out.on hb6
            have q5b : w2.cell? ⟨w.heap.size + 1 + 1, 5, none⟩ = some (c' 4) := HC6.out.cellq 4
            obtain ⟨a8, p8, hu8⟩ := owns_slice hown'
            subst hu8
            have q5f := HC6.out.froz
            have HO6 : Hid (w2.ownsRow (w.heap.size + 3) 95 4 (.slice a8 (j + 1) p8) (j + 1) (xs ++ [.int .u8 x0, .int .u8 x1, .string s2, .slice a6 t p6])) := hown'
            clear hgrow hown' HO5 s0 s1 s2' s3 q5 hW5
            go_wp2
            go_roundw
            case rel => exact ⟨j + 1, up c' 4 (.slice a8 (j + 1) p8), _, by go_num, by omega, HC6.out.set 5 _ _ (pd_up4 k c' _), fun i hi => by rw [← HS.out i hi]; simp [up, hi], by exact ownsRow_setCell_below HO6.out (a := ⟨w.heap.size + 1 + 1, 5, none⟩) (by show w.heap.size + 1 + 1 < w.heap.size + 3; omega) _⟩
            case measure => simp [intOf]; omega
    · have hjn2 : ¬ ((j : Int) < (n : Int)) := by omega
      have q13 : wr.cell? ⟨w.heap.size + 1 + 1, 13, none⟩ = some (c' 12) := HC.out.cellq 12
      have qf := HC.out.froz
      obtain ⟨W5, hW5⟩ : ∃ W5, wr.setCell ⟨w.heap.size + 1 + 1, 13, none⟩ (.slice none 0 0) = W5 := ⟨_, rfl⟩
      have HC5 : Hid (CI w k c (up c' 12 (.slice none 0 0)) Z W5) := hW5 ▸ HC.out.set 13 _ _ (pd_up12 k c' _)
      have HS5 : Hid (∀ i, i ≠ 4 → i ≠ 12 → up c' 12 (.slice none 0 0) i = c i) := fun i h4 h12 => by rw [← HS.out i h4]; simp [up, h12]
      have H45 : Hid ((up c' 12 (.slice none 0 0) 4).oneCell' = true) := by show _ = _; have := owns_one HO.out; simpa [up] using this
      go_wp2
      clear HEl y5 q13 qf hW5 HC HS HO hjn hjn2 hj hn hc4
      obtain ⟨n2, hrd2, hfit2⟩ := hR.role
      obtain ⟨ao2, cap2, hc12, hel2⟩ := hrd2
      have HEl2 : Hid (0 < n2 → ∃ b off, ao2 = some ⟨b, off, none⟩ ∧ ∀ k, k < n2 → ERole w b (off + k * 3)) := hel2
      have hn2 : n2 ≤ 5864062014768 := by unfold Fits at hfit2; omega
      clear hel2 hfit2
      go_loopw [8] (fun x wr => ∃ (j : Nat) (c' : Fin 18 → Value) (xs : List Value), x = .int .i64 (j : Int) ∧ j ≤ n2 ∧ Hid (CI w k c c' Z wr) ∧ Hid (∀ i, i ≠ 4 → i ≠ 12 → c' i = c i) ∧ Hid ((c' 4).oneCell' = true) ∧ Hid (wr.ownsRow (w.heap.size + 3) 97 3 (c' 12) j xs)) (fun x _ => n2 - (intOf x).toNat)
      case atStart => exact ⟨0, _, [], rfl, by omega, HC5, HS5, H45, World.ownsRow_nil _ _ _ _⟩
      case round =>
        clear HC5 HS5 H45
        obtain ⟨j, c', xs, rfl, hj, HC, HS, H4, HO⟩ := hrel
        have y13 : wr.cell? ⟨w.heap.size, 13, none⟩ = some (.slice ao2 n2 cap2) := by rw [← hc12]; exact HC.out.cellp 12
        by_cases hjn : j < n2
        · have hjn2 : ((j : Int) < (n2 : Int)) := by omega
          obtain ⟨b, off, hao, hE⟩ := HEl2.out (by omega)
          subst hao
          obtain ⟨s0, x1, x2, e0, e1, e2⟩ := hE j hjn
          have hbw := HC.out.below
          have E0 := (hbw.cell (cell_lt e0)).trans e0
          have E1 := (hbw.cell (cell_lt e1)).trans e1
          have E2 := (hbw.cell (cell_lt e2)).trans e2
          obtain ⟨a7, p7, hu7⟩ := owns_slice HO.out
          have q13 : wr.cell? ⟨w.heap.size + 1 + 1, 13, none⟩ = some (.slice a7 j p7) := hu7 ▸ HC.out.cellq 12
          have HO7 : Hid (wr.ownsRow (w.heap.size + 3) 97 3 (.slice a7 j p7) j xs) := hu7 ▸ HO.out
          have hsz3 := HC.out.size
          obtain ⟨iC, hiC, hC0, hC1, hC2⟩ := info_parts infoRole
          clear hE e0 e1 e2 HEl2 hbw
          have H63 : j + 1 ≤ maxLen := by unfold maxLen; omega
          have HBY : (j + 1) * 24 ≤ 140737488355328 := by omega
          have c1 : ∀ u ∈ [Value.string s0, .int .u8 x1, .int .u8 x2], u.oneCell' = true := by intro u hu; simp at hu; rcases hu with rfl | rfl | rfl <;> rfl
          have q13a := fun ob => cell_al (o := ob) q13
          go_wp2
          go_region_law (go_loud (refine step_append_lies _ rfl (.tmp 70) (.tmp 78) 38 rfl (w.heap.size + 3) 97 iC _ 3 24 Tryd.underlying38 hiC hC0 hC1 hC2 rfl (by decide) (.slice a7 j p7) j xs (by simp [Act.eval]) (World.ownsRow.alloc HO7.out _) ⟨wr.heap.size, 0, none⟩ 1 1 [.string s0, .int .u8 x1, .int .u8 x2] (by simp [Act.eval]) rfl (World.news_of_block (alloc_new wr _)) c1 (by decide) H63 HBY (by simp; omega) _ rfl ?_; intro g cap W4 hown4 hgrow4 hat4 hlt4; have hb4 : Below (w.heap.size + 3) wr W4 := (((Below.refl _ wr).alloc hsz3 _).drew).grown hgrow4 (by simp; omega) (fun j hj => (HO7.out.lt j hj).1); have HC4 : Hid (CI w k c c' Z W4) := HC.out.on hb4; have r13 : W4.cell? ⟨w.heap.size + 1 + 1, 13, none⟩ = some (c' 12) := HC4.out.cellq 12; have rf := HC4.out.froz; have HO4 : Hid (W4.ownsRow (w.heap.size + 3) 97 3 (.slice (some ⟨g, 0, none⟩) (j + 1) cap) (j + 1) (xs ++ [.string s0, .int .u8 x1, .int .u8 x2])) := hown4; clear hown4 hgrow4 hat4 hlt4))
          all_goals
            go_wp2
            go_roundw
            case rel => exact ⟨j + 1, up c' 12 (.slice (some ⟨g, 0, none⟩) (j + 1) cap), _, by go_num, by omega, HC4.out.set 13 _ _ (pd_up12 k c' _), fun i h4 h12 => by rw [← HS.out i h4 h12]; simp [up, h12], by exact H4.out, by exact ownsRow_setCell_below HO4.out (a := ⟨w.heap.size + 1 + 1, 13, none⟩) (by show w.heap.size + 1 + 1 < w.heap.size + 3; omega) _⟩
            case measure => simp [intOf]; omega
        · have hjn2 : ¬ ((j : Int) < (n2 : Int)) := by omega
          have q14 : wr.cell? ⟨w.heap.size + 1 + 1, 14, none⟩ = some (c' 13) := HC.out.cellq 13
          have qf := HC.out.froz
          obtain ⟨W5, hW5⟩ : ∃ W5, wr.setCell ⟨w.heap.size + 1 + 1, 14, none⟩ (.slice none 0 0) = W5 := ⟨_, rfl⟩
          have HC5 : Hid (CI w k c (up c' 13 (.slice none 0 0)) Z W5) := hW5 ▸ HC.out.set 14 _ _ (pd_up13 k c' _)
          have HS5 : Hid (∀ i, i ≠ 4 → i ≠ 12 → i ≠ 13 → up c' 13 (.slice none 0 0) i = c i) := fun i h4 h12 h13 => by rw [← HS.out i h4 h12]; simp [up, h13]
          have H45 : Hid ((up c' 13 (.slice none 0 0) 4).oneCell' = true ∧ (up c' 13 (.slice none 0 0) 12).oneCell' = true) := ⟨H4.out, owns_one HO.out⟩
          go_wp2
          clear HEl2 y13 q14 qf hW5 HC HS HO H4 hjn hjn2 hj hn2 hc12
          obtain ⟨n3, hrd3, hfit3⟩ := hR.oth
          obtain ⟨ao3, cap3, hc13, hel3⟩ := hrd3
          have HEl3 : Hid (0 < n3 → ∃ b off, ao3 = some ⟨b, off, none⟩ ∧ ∀ k, k < n3 → EOth w b (off + k * 2)) := hel3
          have hn3 : n3 ≤ 4398046510976 := by unfold Fits at hfit3; omega
          clear hel3 hfit3
          go_loopw [9] (fun x wr => ∃ (j : Nat) (c' : Fin 18 → Value) (xs : List Value), x = .int .i64 (j : Int) ∧ j ≤ n3 ∧ Hid (CI w k c c' Z wr) ∧ Hid (∀ i, i ≠ 4 → i ≠ 12 → i ≠ 13 → c' i = c i) ∧ Hid ((c' 4).oneCell' = true ∧ (c' 12).oneCell' = true) ∧ Hid (wr.ownsRow (w.heap.size + 3) 91 2 (c' 13) j xs)) (fun x _ => n3 - (intOf x).toNat)
          case atStart => exact ⟨0, _, [], rfl, by omega, HC5, HS5, H45, World.ownsRow_nil _ _ _ _⟩
          case round =>
            clear HC5 HS5 H45
            obtain ⟨j, c', xs, rfl, hj, HC, HS, H4, HO⟩ := hrel
            have y14 : wr.cell? ⟨w.heap.size, 14, none⟩ = some (.slice ao3 n3 cap3) := by rw [← hc13]; exact HC.out.cellp 13
            by_cases hjn : j < n3
            · have hjn2 : ((j : Int) < (n3 : Int)) := by omega
              obtain ⟨b, off, hao, hE⟩ := HEl3.out (by omega)
              subst hao
              obtain ⟨x0, v1, bs, e0, e1, hV, hbl⟩ := hE j hjn
              have hbw := HC.out.below
              have E0 := (hbw.cell (cell_lt e0)).trans e0
              have E1 := (hbw.cell (cell_lt e1)).trans e1
              have hVr := hV.next hbw
              obtain ⟨ao4, cap4, hv1, _, _⟩ := hVr.form
              subst hv1
              obtain ⟨w0, hw0⟩ : ∃ w0, wr.alloc (.cells #[.int .u8 x0, .slice ao4 bs.length cap4] 91) = w0 := ⟨_, rfl⟩
              have hb0 : Below wr.heap.size wr w0 := hw0 ▸ (Below.refl _ _).alloc (Nat.le_refl _) _
              have hs0 : w0.heap.size = wr.heap.size + 1 := by rw [← hw0]; simp
              have t0 : w0.cell? ⟨wr.heap.size, 0, none⟩ = some (.int .u8 x0) := by rw [← hw0]; simp
              have t1 : w0.cell? ⟨wr.heap.size, 1, none⟩ = some (.slice ao4 bs.length cap4) := by rw [← hw0]; simp
              have tf : ∀ i, w0.frozen? ⟨wr.heap.size, i, none⟩ = false := fun i => by rw [← hw0]; simp
              have hcp := copyB_any (hVr.next hb0) hbl
              obtain ⟨a7, p7, hu7⟩ := owns_slice HO.out
              have HO7 : Hid (wr.ownsRow (w.heap.size + 3) 91 2 (.slice a7 j p7) j xs) := hu7 ▸ HO.out
              have hsz3 := HC.out.size
              obtain ⟨iC, hiC, hC0, hC1, hC2⟩ := info_parts infoOth
              clear hE e0 e1 HEl3 hbw hV hVr
              go_wp2_with (first | (go_at_call 36; refine hcp.mono ?_; rintro x W1 ⟨u, rfl, hou, hbu⟩; obtain ⟨a8, p8, hu8⟩ := owns_slice hou.1; subst hu8; have t1b := (hbu.cell (p := ⟨wr.heap.size, 1, none⟩) (by show wr.heap.size < _; omega)).trans t1; have tfb : ∀ i, W1.frozen? ⟨wr.heap.size, i, none⟩ = false := fun i => (hbu.frozen (p := ⟨wr.heap.size, i, none⟩) (by show wr.heap.size < _; omega)).trans (tf i); obtain ⟨W5, hW5⟩ : ∃ W5, W1.setCell ⟨wr.heap.size, 1, none⟩ (.slice a8 bs.length p8) = W5 := ⟨_, rfl⟩; have hb5 : Below wr.heap.size wr W5 := hW5 ▸ ((hb0.trans (hbu.mono (by omega))).setCell (p := ⟨wr.heap.size, 1, none⟩) (Nat.le_refl _) _); have s0 : W5.cell? ⟨wr.heap.size, 0, none⟩ = some (.int .u8 x0) := by { rw [← hW5]; exact (cell_set_ne (by omega)).trans ((hbu.cell (p := ⟨wr.heap.size, 0, none⟩) (by show wr.heap.size < _; omega)).trans t0) }; have s1 : W5.cell? ⟨wr.heap.size, 1, none⟩ = some (.slice a8 bs.length p8) := by { rw [← hW5]; exact cell_set_eq t1b }; have HC5 : Hid (CI w k c c' Z W5) := HC.out.on (hb5.mono hsz3); have q14 : W5.cell? ⟨w.heap.size + 1 + 1, 14, none⟩ = some (.slice a7 j p7) := hu7 ▸ HC5.out.cellq 13; have HO5 : Hid (W5.ownsRow (w.heap.size + 3) 91 2 (.slice a7 j p7) j xs) := owns_next HO7.out hb5; have hs5 : w.heap.size + 3 ≤ W5.heap.size := HC5.out.size) | (at_builtin; refine wpList_append_own _ rfl (.tmp 109) (.tmp 111) 39 rfl (w.heap.size + 3) 91 iC _ 2 32 Tryd.underlying39 hiC hC0 hC1 hC2 rfl (by decide) (.slice a7 j p7) j xs rfl (HO5.out.alloc _) ⟨W5.heap.size, 0, none⟩ 1 1 [.int .u8 x0, .slice a8 bs.length p8] rfl rfl ?_ ?_ ?_ ?_ ?_ ?_))
              · exact cell_two
              · intro u hu; simp at hu; rcases hu with rfl | rfl <;> rfl
              · unfold maxLen; omega
              · omega
              · simp; omega
              · intro v' w2 hown' hgrow _
                have hb6 : Below (w.heap.size + 3) W5 w2 := ((Below.refl _ _).alloc hs5 _).grown hgrow (by simp; omega) (fun j hj => (HO5.out.lt j hj).1)
                have HC6 : Hid (CI w k c c' Z w2) := HC5.out.on hb6
                have q14b : w2.cell? ⟨w.heap.size + 1 + 1, 14, none⟩ = some (c' 13) := HC6.out.cellq 13
                have q14f := HC6.out.froz
                obtain ⟨a9, p9, hu9⟩ := owns_slice hown'
                subst hu9
                have HO6 : Hid (w2.ownsRow (w.heap.size + 3) 91 2 (.slice a9 (j + 1) p9) (j + 1) (xs ++ [.int .u8 x0, .slice a8 bs.length p8])) := hown'
                clear hgrow hown' HO5 s0 s1 q14 hW5
                go_wp2
                go_roundw
                case rel => exact ⟨j + 1, up c' 13 (.slice a9 (j + 1) p9), _, by go_num, by omega, HC6.out.set 14 _ _ (pd_up13 k c' _), fun i h4 h12 h13 => by rw [← HS.out i h4 h12 h13]; simp [up, h13], by exact H4.out, by exact ownsRow_setCell_below HO6.out (a := ⟨w.heap.size + 1 + 1, 14, none⟩) (by show w.heap.size + 1 + 1 < w.heap.size + 3; omega) _⟩
                case measure => simp [intOf]; omega
            · have hjn2 : ¬ ((j : Int) < (n3 : Int)) := by omega
              have q18 : wr.cell? ⟨w.heap.size + 1 + 1, 18, none⟩ = some (c' 17) := HC.out.cellq 17
              have qf := HC.out.froz
              obtain ⟨W5, hW5⟩ : ∃ W5, wr.setCell ⟨w.heap.size + 1 + 1, 18, none⟩ (.slice none 0 0) = W5 := ⟨_, rfl⟩
              have HC5 : Hid (CI w k c (up c' 17 (.slice none 0 0)) Z W5) := hW5 ▸ HC.out.set 18 _ _ (pd_up17 k c' _)
              have HS5 : Hid (∀ i, i ≠ 17 → (up c' 17 (.slice none 0 0) i).oneCell' = true) := fun i h17 => by
                have e1 : up c' 17 (.slice none 0 0) i = c' i := by simp [up, h17]
                rw [e1]
                by_cases h4 : i = 4
                · subst h4; exact H4.out.1
                by_cases h12 : i = 12
                · subst h12; exact H4.out.2
                by_cases h13 : i = 13
                · subst h13; exact owns_one HO.out
                rw [HS.out i h4 h12 h13]; exact hR.one i
              go_wp2
              clear HEl3 y14 q18 qf hW5 HC HS HO H4 hjn hjn2 hj hn3 hc13
              obtain ⟨n4, hrd4, hfit4⟩ := hR.val
              obtain ⟨ao4, cap4, hc17, hel4⟩ := hrd4
              have HEl4 : Hid (0 < n4 → ∃ b off, ao4 = some ⟨b, off, none⟩ ∧ ∀ k, k < n4 → EPdv w b (off + k * 4)) := hel4
              have hn4 : n4 ≤ 4398046510976 := by unfold Fits at hfit4; omega
              clear hel4
              go_loopw [11] (fun x wr => ∃ (j : Nat) (c' : Fin 18 → Value) (xs : List Value), x = .int .i64 (j : Int) ∧ j ≤ n4 ∧ Hid (CI w k c c' Z wr) ∧ Hid (∀ i, i ≠ 17 → (c' i).oneCell' = true) ∧ Hid (GV (w.heap.size + 3) wr (c' 17) j xs) ∧ Hid (wr.ownsRow (w.heap.size + 3) 78 4 (c' 17) j xs)) (fun x _ => n4 - (intOf x).toNat)
              case atStart => exact ⟨0, _, [], rfl, by omega, HC5, HS5, fun i hi => by omega, World.ownsRow_nil _ _ _ _⟩
              case round =>
                clear HC5 HS5
                obtain ⟨j, c', xs, rfl, hj, HC, HS, HG, HO⟩ := hrel
                have y18 : wr.cell? ⟨w.heap.size, 18, none⟩ = some (.slice ao4 n4 cap4) := by rw [← hc17]; exact HC.out.cellp 17
                by_cases hjn : j < n4
                · have hjn2 : ((j : Int) < (n4 : Int)) := by omega
                  obtain ⟨b, off, hao, hE⟩ := HEl4.out (by omega)
                  subst hao
                  obtain ⟨x0, x1, x2, v3, bs, e0, e1, e2, e3, hV, hbl⟩ := hE j hjn
                  have hbw := HC.out.below
                  have E0 := (hbw.cell (cell_lt e0)).trans e0
                  have E1 := (hbw.cell (cell_lt e1)).trans e1
                  have E2 := (hbw.cell (cell_lt e2)).trans e2
                  have E3 := (hbw.cell (cell_lt e3)).trans e3
                  have hVr := hV.next hbw
                  obtain ⟨ao5, cap5, hv3, _, _⟩ := hVr.form
                  subst hv3
                  obtain ⟨w0, hw0⟩ : ∃ w0, wr.alloc (.cells #[.int .u8 x0, .bool x1, .bool x2, .slice ao5 bs.length cap5] 78) = w0 := ⟨_, rfl⟩
                  have hb0 : Below wr.heap.size wr w0 := hw0 ▸ (Below.refl _ _).alloc (Nat.le_refl _) _
                  have hs0 : w0.heap.size = wr.heap.size + 1 := by rw [← hw0]; simp
                  have t0 : w0.cell? ⟨wr.heap.size, 0, none⟩ = some (.int .u8 x0) := by rw [← hw0]; simp
                  have t1 : w0.cell? ⟨wr.heap.size, 1, none⟩ = some (.bool x1) := by rw [← hw0]; simp
                  have t2 : w0.cell? ⟨wr.heap.size, 2, none⟩ = some (.bool x2) := by rw [← hw0]; simp
                  have t3 : w0.cell? ⟨wr.heap.size, 3, none⟩ = some (.slice ao5 bs.length cap5) := by rw [← hw0]; simp
                  have tf : ∀ i, w0.frozen? ⟨wr.heap.size, i, none⟩ = false := fun i => by rw [← hw0]; simp
                  have hcp := copyB_any (hVr.next hb0) hbl
                  obtain ⟨a7, p7, hu7⟩ := owns_slice HO.out
                  have HO7 : Hid (wr.ownsRow (w.heap.size + 3) 78 4 (.slice a7 j p7) j xs) := hu7 ▸ HO.out
                  have HG7 : Hid (GV (w.heap.size + 3) wr (.slice a7 j p7) j xs) := hu7 ▸ HG.out
                  have hsz3 := HC.out.size
                  obtain ⟨iC, hiC, hC0, hC1, hC2⟩ := info_parts infoPdv
                  clear hE e0 e1 e2 e3 HEl4 hbw hV hVr
                  go_wp2_with (first | (go_at_call 36; refine hcp.mono ?_; rintro x W1 ⟨u, rfl, hou, hbu⟩; obtain ⟨a8, p8, hu8⟩ := owns_slice hou.1; subst hu8; have HOU : Hid (Own W1 w0.heap.size (.slice a8 bs.length p8) bs) := hou; have t3b := (hbu.cell (p := ⟨wr.heap.size, 3, none⟩) (by show wr.heap.size < _; omega)).trans t3; have tfb : ∀ i, W1.frozen? ⟨wr.heap.size, i, none⟩ = false := fun i => (hbu.frozen (p := ⟨wr.heap.size, i, none⟩) (by show wr.heap.size < _; omega)).trans (tf i); obtain ⟨W5, hW5⟩ : ∃ W5, W1.setCell ⟨wr.heap.size, 3, none⟩ (.slice a8 bs.length p8) = W5 := ⟨_, rfl⟩; have hb5 : Below wr.heap.size wr W5 := hW5 ▸ ((hb0.trans (hbu.mono (by omega))).setCell (p := ⟨wr.heap.size, 3, none⟩) (Nat.le_refl _) _); have s0 : W5.cell? ⟨wr.heap.size, 0, none⟩ = some (.int .u8 x0) := by { rw [← hW5]; exact (cell_set_ne (by omega)).trans ((hbu.cell (p := ⟨wr.heap.size, 0, none⟩) (by show wr.heap.size < _; omega)).trans t0) }; have s1 : W5.cell? ⟨wr.heap.size, 1, none⟩ = some (.bool x1) := by { rw [← hW5]; exact (cell_set_ne (by omega)).trans ((hbu.cell (p := ⟨wr.heap.size, 1, none⟩) (by show wr.heap.size < _; omega)).trans t1) }; have s2 : W5.cell? ⟨wr.heap.size, 2, none⟩ = some (.bool x2) := by { rw [← hW5]; exact (cell_set_ne (by omega)).trans ((hbu.cell (p := ⟨wr.heap.size, 2, none⟩) (by show wr.heap.size < _; omega)).trans t2) }; have s3 : W5.cell? ⟨wr.heap.size, 3, none⟩ = some (.slice a8 bs.length p8) := by { rw [← hW5]; exact cell_set_eq t3b }; have HC5 : Hid (CI w k c c' Z W5) := HC.out.on (hb5.mono hsz3); have q18 : W5.cell? ⟨w.heap.size + 1 + 1, 18, none⟩ = some (.slice a7 j p7) := hu7 ▸ HC5.out.cellq 17; have HO5 : Hid (W5.ownsRow (w.heap.size + 3) 78 4 (.slice a7 j p7) j xs) := owns_next HO7.out hb5; have hs5 : w.heap.size + 3 ≤ W5.heap.size := HC5.out.size; have HW5 : Hid (W1.setCell ⟨wr.heap.size, 3, none⟩ (.slice a8 bs.length p8) = W5) := hW5) | (at_builtin; refine wpList_append_lies _ rfl (.tmp 134) (.tmp 136) 44 rfl (w.heap.size + 3) 78 iC _ 4 32 Tryd.underlying44 hiC hC0 hC1 hC2 rfl (by decide) (.slice a7 j p7) j xs rfl (HO5.out.alloc _) ⟨W5.heap.size, 0, none⟩ 1 1 [.int .u8 x0, .bool x1, .bool x2, .slice a8 bs.length p8] rfl rfl ?_ ?_ (by decide) ?_ ?_ ?_ _ rfl ?_))
                  · exact cell_four
                  · intro u hu; simp at hu; rcases hu with rfl | rfl | rfl | rfl <;> rfl
                  · unfold maxLen; omega
                  · omega
                  · simp; omega
                  · intro g cp w2 hown' hgrow hat hlt
                    have hb6 : Below (w.heap.size + 3) W5 w2 := ((Below.refl _ _).alloc hs5 _).grown hgrow (by simp; omega) (fun j hj => (HO5.out.lt j hj).1)
                    have HC6 : Hid (CI w k c c' Z w2) := HC5.out.on hb6
                    have q18b : w2.cell? ⟨w.heap.size + 1 + 1, 18, none⟩ = some (c' 17) := HC6.out.cellq 17
                    have q18f := HC6.out.froz
                    have HO6 : Hid (w2.ownsRow (w.heap.size + 3) 78 4 (.slice (some ⟨g, 0, none⟩) (j + 1) cp) (j + 1) (xs ++ [.int .u8 x0, .bool x1, .bool x2, .slice a8 bs.length p8])) := hown'
                    have HG6 : Hid (GV (w.heap.size + 3) (w2.setCell ⟨w.heap.size + 1 + 1, 18, none⟩ (.slice (some ⟨g, 0, none⟩) (j + 1) cp)) (.slice (some ⟨g, 0, none⟩) (j + 1) cp) (j + 1) (xs ++ [.int .u8 x0, .bool x1, .bool x2, .slice a8 bs.length p8])) := by
                      have G5 : GV (w.heap.size + 3) W5 (.slice a7 j p7) j xs := HG7.out.move hb5.size (fun b hb1 hb2 hb3 => ⟨hb5.block b hb2, hb3⟩)
                      have hou := HOU.out.v
                      have hV5 : V W5 (.slice a8 bs.length p8) bs := hou.1.same (fun b e => by
                        rw [← HW5.out]
                        exact Below.heap_setCell _ _ _ _ (by have := (hou.2 b e).1; show b ≠ wr.heap.size; omega))
                      have hsW : W1.heap.size = W5.heap.size := by rw [← HW5.out]; simp
                      have G5b := G5.push HO7.out.1 (x := x0) (y := x1) (z := x2) hV5 hbl (fun b e => ⟨by have := (hou.2 b e).1; omega, by have := (hou.2 b e).2; omega, fun e2 => by have := (hou.2 b e).1; have := (HO7.out.lt b e2).2; omega⟩)
                      refine G5b.move ?_ (fun b hb1 hb2 hb3 => ⟨?_, ?_⟩)
                      · have := hgrow.size
                        simp at this ⊢
                        omega
                      · rw [Below.heap_setCell _ _ _ _ (show b ≠ w.heap.size + 1 + 1 by omega)]
                        exact (hgrow.block b (by simp; omega) (by first | exact hb3 | exact Ne.symm hb3)).trans (Below.heap_alloc W5 _ b hb2)
                      · intro e
                        rcases hat with h | h
                        · exact hb3 (h.trans e)
                        · have e2 : g = b := by simpa [Value.ownBlock] using e
                          first | omega | (have h9 := hlt; have h8 : W5.heap.size ≤ g := by (rw [h]; simp); omega)
                    clear hgrow hown' HO5 s0 s1 s2 s3 q18 hW5 hat
                    go_wp2
                    go_roundw
                    case rel => exact ⟨j + 1, up c' 17 (.slice (some ⟨g, 0, none⟩) (j + 1) cp), _, by go_num, by omega, HC6.out.set 18 _ _ (pd_up17 k c' _), fun i h17 => by have := HS.out i h17; simpa [up, h17] using this, by exact HG6.out, by exact ownsRow_setCell_below HO6.out (a := ⟨w.heap.size + 1 + 1, 18, none⟩) (by show w.heap.size + 1 + 1 < w.heap.size + 3; omega) _⟩
                    case measure => simp [intOf]; omega
                · have hjn2 : ¬ ((j : Int) < (n4 : Int)) := by omega
                  obtain rfl : j = n4 := by omega
                  obtain ⟨fs2, hu2⟩ := hu40
                  have hoc : (Pd k c').all (·.oneCell') = true := pd_one k c' (fun i => by
                    by_cases h17 : i = 17
                    · subst h17; exact owns_one HO.out
                    · exact HS.out i h17)
                  have hszQ : (Tryd.prog.info? 46).map (·.size) = some (Pd k c').size := by unfold Pd; kernel_rfl
                  have hgQ := HC.out.q
                  have hgR := HC.out.r
                  have hPs : Z.size = (Pd k c').size := hZs
                  generalize hPQ : Pd k c' = PQ at hgQ hoc hszQ hPs
                  go_wp2_with (first | (refine wpList_load_row rfl 46 (.tmp 3) rfl (w.heap.size + 1 + 1) rfl 46 PQ (0, 0) _ hgQ hu2 rfl hszQ ?_) | (refine wpList_store_row rfl 46 (.tmp 2) (.tmp 139) rfl (w.heap.size + 1) PQ rfl rfl 46 _ hgR hszQ hPs hoc ?_))
                  have hh := setRow_heap wr (w.heap.size + 1) _ PQ 46 _ hgR
                  have hl := run_loadVar_row (P := Tryd.prog) _ _ _ 46 _ _ _ hh hu2 rfl hszQ
                  have ho : ∀ b, b ≠ w.heap.size + 1 → (wr.setRow (w.heap.size + 1) PQ).heap[b]? = wr.heap[b]? := fun b hb => by
                    unfold World.setRow
                    show (wr.heap.modify _ _)[b]? = _
                    rw [Array.getElem?_modify, if_neg (Ne.symm hb)]
                  have hsr : wr.heap.size ≤ (wr.setRow (w.heap.size + 1) PQ).heap.size := by unfold World.setRow; simp
                  refine bodyPost_ret (v := .agg PQ) (res_cell (k := 2) Tryd.results20 (by kernel_rfl) hl) rfl ⟨c', by rw [hPQ], ⟨fun i => ?_, j, xs, ?_, ?_, hfit4⟩, below_setRow HC.out.below (by omega) _⟩
                  · by_cases h17 : i = 17
                    · subst h17; exact owns_one HO.out
                    · exact HS.out i h17
                  · exact own_low (owns_same HO.out (fun b e => ho b (by have := (HO.out.lt b e).1; omega))) (by omega)
                  · exact (HG.out.move hsr (fun b hb1 _ hb3 => ⟨ho b (by omega), hb3⟩)).low (by omega)
end Go.Proofs.YtiieikdbhpflgabDoor
