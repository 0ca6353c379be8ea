import Derived.Test.YtohojghndnfgdaaDoorPh
/-
  DERIVED. The document's ParseName.
-/
namespace Go.Proofs.YtohojghndnfgdaaDoor
open Go Go.Proofs Go.RowKit

theorem own_strs {w : World} {B : Nat} {v : Value} {l : List ByteArray} (h : w.ownsRow B 9 1 v l.length (strC l)) (hl : l ≠ []) : ∃ g cap, v = .slice (some ⟨g, 0, none⟩) l.length cap ∧ B ≤ g ∧ l.length ≤ cap ∧ (∀ k x, l[k]? = some x → w.cell? ⟨g, k, none⟩ = some (.string x)) := by
  rcases h.2 with ⟨rfl, h0⟩ | ⟨g, cap, cur, rfl, hb, hg, hn, hm, hc, hx⟩
  · exact absurd (List.length_eq_zero_iff.1 h0) hl
  · refine ⟨g, cap, rfl, hb, hn, ?_⟩
    intro k x hk
    have := h.cells (g := g) rfl k (.string x) (by unfold strC; rw [List.getElem?_map, hk]; rfl)
    have hadd : (⟨g, 0, none⟩ : Addr).add k = ⟨g, k, none⟩ := by unfold Addr.add; split <;> simp_all
    rw [hadd] at this
    exact this
theorem cx_ne (s : ByteArray) (c p : Nat) : cx s c p ≠ [] := by
  by_cases h : fx s c p < s.size
  · rw [cx_more s c p h]; simp
  · rw [cx_last s c p h]; simp
theorem cx_size (s : ByteArray) (c : Nat) : ∀ (n p : Nat), n = s.size - p → ∀ x ∈ cx s c p, x.size ≤ s.size := fun n => by
  induction n using Nat.strongRecOn with
  | ind n ih =>
    intro p hn x hx
    by_cases h : fx s c p < s.size
    · have hg := fx_ge s c p
      rw [cx_more s c p h] at hx
      rcases List.mem_cons.1 hx with rfl | hx
      · rw [ByteArray.size_extract]; omega
      · exact ih (s.size - (fx s c p + 1)) (by omega) _ rfl x hx
    · rw [cx_last s c p h] at hx
      rcases List.mem_cons.1 hx with rfl | hx
      · rw [ByteArray.size_extract]; omega
      · cases hx

theorem DI.drew {w wx : World} {B gb : Nat} {Gs : List ByteArray} {f : Nat → Value} (h : DI w wx B gb Gs f) : DI w wx.drew B gb Gs f := ⟨h.res, h.flt, h.prt, h.grp, h.gbl, h.bel.drew⟩
theorem DI.cells {w wx : World} {B gb : Nat} {Gs : List ByteArray} {acc : List (List ByteArray)} (h : DI w wx B gb Gs (f15 acc)) : wx.cell? ⟨B + 2, 0, none⟩ = some (.string (t15 acc 0)) ∧ wx.cell? ⟨B + 2, 1, none⟩ = some (.string (t15 acc 1)) ∧ wx.cell? ⟨B + 2, 2, none⟩ = some (.string (t15 acc 2)) ∧ wx.cell? ⟨B + 2, 3, none⟩ = some (.string (t15 acc 3)) ∧ wx.cell? ⟨B + 2, 4, none⟩ = some (.string (t15 acc 4)) ∧ wx.cell? ⟨B + 2, 5, none⟩ = some (.string (t15 acc 5)) ∧ wx.cell? ⟨B + 2, 6, none⟩ = some (.string (t15 acc 6)) ∧ wx.cell? ⟨B + 2, 7, none⟩ = some (.string (t15 acc 7)) ∧ wx.cell? ⟨B + 2, 8, none⟩ = some (.string (t15 acc 8)) ∧ wx.cell? ⟨B + 2, 9, none⟩ = some (.string (t15 acc 9)) ∧ wx.cell? ⟨B + 2, 10, none⟩ = some (.string (t15 acc 10)) ∧ wx.cell? ⟨B + 2, 11, none⟩ = some (.string (t15 acc 11)) ∧ wx.cell? ⟨B + 2, 12, none⟩ = some (.string (t15 acc 12)) ∧ wx.cell? ⟨B + 2, 13, none⟩ = some (.string (t15 acc 13)) ∧ wx.cell? ⟨B + 2, 14, none⟩ = some (.string (t15 acc 14)) ∧ wx.cell? ⟨B, 0, none⟩ = some (.string ⟨#[]⟩) ∧ wx.cell? ⟨B, 1, none⟩ = some (.string ⟨#[]⟩) ∧ wx.cell? ⟨B, 2, none⟩ = some (.string ⟨#[]⟩) ∧ wx.cell? ⟨B, 3, none⟩ = some (.string ⟨#[]⟩) ∧ wx.cell? ⟨B, 4, none⟩ = some (.string ⟨#[]⟩) ∧ wx.cell? ⟨B, 5, none⟩ = some (.string ⟨#[]⟩) ∧ wx.cell? ⟨B, 6, none⟩ = some (.string ⟨#[]⟩) ∧ wx.cell? ⟨B, 7, none⟩ = some (.string ⟨#[]⟩) ∧ wx.cell? ⟨B, 8, none⟩ = some (.string ⟨#[]⟩) ∧ wx.cell? ⟨B, 9, none⟩ = some (.string ⟨#[]⟩) ∧ wx.cell? ⟨B, 10, none⟩ = some (.string ⟨#[]⟩) ∧ wx.cell? ⟨B, 11, none⟩ = some (.string ⟨#[]⟩) ∧ wx.cell? ⟨B, 12, none⟩ = some (.string ⟨#[]⟩) ∧ wx.cell? ⟨B, 13, none⟩ = some (.string ⟨#[]⟩) ∧ wx.cell? ⟨B, 14, none⟩ = some (.string ⟨#[]⟩) ∧ wx.cell? ⟨B + 1, 0, none⟩ = some (.slice none 0 0) ∧ wx.cell? ⟨B + 1, 1, none⟩ = some (.int .i64 0) ∧ (∀ i, wx.frozen? ⟨B + 2, i, none⟩ = false) ∧ (∀ i, wx.frozen? ⟨B, i, none⟩ = false) ∧ (∀ i, wx.frozen? ⟨B + 1, i, none⟩ = false) :=
  ⟨h.prt.cell (i := 0) (by omega), h.prt.cell (i := 1) (by omega), h.prt.cell (i := 2) (by omega), h.prt.cell (i := 3) (by omega), h.prt.cell (i := 4) (by omega), h.prt.cell (i := 5) (by omega), h.prt.cell (i := 6) (by omega), h.prt.cell (i := 7) (by omega), h.prt.cell (i := 8) (by omega), h.prt.cell (i := 9) (by omega), h.prt.cell (i := 10) (by omega), h.prt.cell (i := 11) (by omega), h.prt.cell (i := 12) (by omega), h.prt.cell (i := 13) (by omega), h.prt.cell (i := 14) (by omega), h.res.cell (i := 0) (by omega), h.res.cell (i := 1) (by omega), h.res.cell (i := 2) (by omega), h.res.cell (i := 3) (by omega), h.res.cell (i := 4) (by omega), h.res.cell (i := 5) (by omega), h.res.cell (i := 6) (by omega), h.res.cell (i := 7) (by omega), h.res.cell (i := 8) (by omega), h.res.cell (i := 9) (by omega), h.res.cell (i := 10) (by omega), h.res.cell (i := 11) (by omega), h.res.cell (i := 12) (by omega), h.res.cell (i := 13) (by omega), h.res.cell (i := 14) (by omega), h.flt.cell (i := 0) (by omega), h.flt.cell (i := 1) (by omega), fun i => h.prt.frozen i, fun i => h.res.frozen i, fun i => h.flt.frozen i⟩

def put15 (W : World) (B : Nat) (acc : List (List ByteArray)) : World := (((((((((((((((W.setCell ⟨B, 0, none⟩ (.string (t15 acc 0))).setCell ⟨B, 1, none⟩ (.string (t15 acc 1))).setCell ⟨B, 2, none⟩ (.string (t15 acc 2))).setCell ⟨B, 3, none⟩ (.string (t15 acc 3))).setCell ⟨B, 4, none⟩ (.string (t15 acc 4))).setCell ⟨B, 5, none⟩ (.string (t15 acc 5))).setCell ⟨B, 6, none⟩ (.string (t15 acc 6))).setCell ⟨B, 7, none⟩ (.string (t15 acc 7))).setCell ⟨B, 8, none⟩ (.string (t15 acc 8))).setCell ⟨B, 9, none⟩ (.string (t15 acc 9))).setCell ⟨B, 10, none⟩ (.string (t15 acc 10))).setCell ⟨B, 11, none⟩ (.string (t15 acc 11))).setCell ⟨B, 12, none⟩ (.string (t15 acc 12))).setCell ⟨B, 13, none⟩ (.string (t15 acc 13))).setCell ⟨B, 14, none⟩ (.string (t15 acc 14)))
theorem put15_row {W : World} {B : Nat} (h : W.rowIs B 25 15 (f15 [])) (acc : List (List ByteArray)) : (put15 W B acc).rowIs B 25 15 (f15 acc) := by
  refine (((((((((((((((h.set 0 (.string (t15 acc 0))).set 1 (.string (t15 acc 1))).set 2 (.string (t15 acc 2))).set 3 (.string (t15 acc 3))).set 4 (.string (t15 acc 4))).set 5 (.string (t15 acc 5))).set 6 (.string (t15 acc 6))).set 7 (.string (t15 acc 7))).set 8 (.string (t15 acc 8))).set 9 (.string (t15 acc 9))).set 10 (.string (t15 acc 10))).set 11 (.string (t15 acc 11))).set 12 (.string (t15 acc 12))).set 13 (.string (t15 acc 13))).set 14 (.string (t15 acc 14))).congr (fun i hi => ?_)
  have h15 : i = 0 ∨ i = 1 ∨ i = 2 ∨ i = 3 ∨ i = 4 ∨ i = 5 ∨ i = 6 ∨ i = 7 ∨ i = 8 ∨ i = 9 ∨ i = 10 ∨ i = 11 ∨ i = 12 ∨ i = 13 ∨ i = 14 := by omega
  rcases h15 with rfl | rfl | rfl | rfl | rfl | rfl | rfl | rfl | rfl | rfl | rfl | rfl | rfl | rfl | rfl <;> rfl
theorem put15_below {w W : World} {B : Nat} (hb : Below B w W) (acc : List (List ByteArray)) : Below B w (put15 W B acc) := (((((((((((((((hb.setCell (p := ⟨B, 0, none⟩) (Nat.le_refl _) (.string (t15 acc 0))).setCell (p := ⟨B, 1, none⟩) (Nat.le_refl _) (.string (t15 acc 1))).setCell (p := ⟨B, 2, none⟩) (Nat.le_refl _) (.string (t15 acc 2))).setCell (p := ⟨B, 3, none⟩) (Nat.le_refl _) (.string (t15 acc 3))).setCell (p := ⟨B, 4, none⟩) (Nat.le_refl _) (.string (t15 acc 4))).setCell (p := ⟨B, 5, none⟩) (Nat.le_refl _) (.string (t15 acc 5))).setCell (p := ⟨B, 6, none⟩) (Nat.le_refl _) (.string (t15 acc 6))).setCell (p := ⟨B, 7, none⟩) (Nat.le_refl _) (.string (t15 acc 7))).setCell (p := ⟨B, 8, none⟩) (Nat.le_refl _) (.string (t15 acc 8))).setCell (p := ⟨B, 9, none⟩) (Nat.le_refl _) (.string (t15 acc 9))).setCell (p := ⟨B, 10, none⟩) (Nat.le_refl _) (.string (t15 acc 10))).setCell (p := ⟨B, 11, none⟩) (Nat.le_refl _) (.string (t15 acc 11))).setCell (p := ⟨B, 12, none⟩) (Nat.le_refl _) (.string (t15 acc 12))).setCell (p := ⟨B, 13, none⟩) (Nat.le_refl _) (.string (t15 acc 13))).setCell (p := ⟨B, 14, none⟩) (Nat.le_refl _) (.string (t15 acc 14)))
theorem put15_flt {W : World} {B : Nat} (h2 : W.rowIs (B + 1) 32 2 fN) (acc : List (List ByteArray)) : (put15 W B acc).rowIs (B + 1) 32 2 fN := (((((((((((((((h2.setOther (a := ⟨B, 0, none⟩) (by show B + 1 ≠ B; omega) (.string (t15 acc 0))).setOther (a := ⟨B, 1, none⟩) (by show B + 1 ≠ B; omega) (.string (t15 acc 1))).setOther (a := ⟨B, 2, none⟩) (by show B + 1 ≠ B; omega) (.string (t15 acc 2))).setOther (a := ⟨B, 3, none⟩) (by show B + 1 ≠ B; omega) (.string (t15 acc 3))).setOther (a := ⟨B, 4, none⟩) (by show B + 1 ≠ B; omega) (.string (t15 acc 4))).setOther (a := ⟨B, 5, none⟩) (by show B + 1 ≠ B; omega) (.string (t15 acc 5))).setOther (a := ⟨B, 6, none⟩) (by show B + 1 ≠ B; omega) (.string (t15 acc 6))).setOther (a := ⟨B, 7, none⟩) (by show B + 1 ≠ B; omega) (.string (t15 acc 7))).setOther (a := ⟨B, 8, none⟩) (by show B + 1 ≠ B; omega) (.string (t15 acc 8))).setOther (a := ⟨B, 9, none⟩) (by show B + 1 ≠ B; omega) (.string (t15 acc 9))).setOther (a := ⟨B, 10, none⟩) (by show B + 1 ≠ B; omega) (.string (t15 acc 10))).setOther (a := ⟨B, 11, none⟩) (by show B + 1 ≠ B; omega) (.string (t15 acc 11))).setOther (a := ⟨B, 12, none⟩) (by show B + 1 ≠ B; omega) (.string (t15 acc 12))).setOther (a := ⟨B, 13, none⟩) (by show B + 1 ≠ B; omega) (.string (t15 acc 13))).setOther (a := ⟨B, 14, none⟩) (by show B + 1 ≠ B; omega) (.string (t15 acc 14)))
theorem putN_all {w W : World} {B gb : Nat} {Gs : List ByteArray} {f : Nat → Value} (h : DI w W B gb Gs f) (acc : List (List ByteArray)) :
    (((put15 W B acc).setCell ⟨B + 1, 0, none⟩ (.slice none 0 0)).setCell ⟨B + 1, 1, none⟩ (.int .i64 0)).heap[B]? = some (.cells (a15 acc) 25 (0, 0)) ∧ (((put15 W B acc).setCell ⟨B + 1, 0, none⟩ (.slice none 0 0)).setCell ⟨B + 1, 1, none⟩ (.int .i64 0)).heap[B + 1]? = some (.cells #[.slice none 0 0, .int .i64 0] 32 (0, 0)) ∧ Below B w (((put15 W B acc).setCell ⟨B + 1, 0, none⟩ (.slice none 0 0)).setCell ⟨B + 1, 1, none⟩ (.int .i64 0)) := by
  have r := put15_row h.res acc
  have r2 := put15_flt h.flt acc
  refine ⟨row_block ((r.setOther (a := ⟨B + 1, 0, none⟩) (by show B ≠ B + 1; omega) _).setOther (a := ⟨B + 1, 1, none⟩) (by show B ≠ B + 1; omega) _), flt_block (((r2.set 0 (.slice none 0 0)).set 1 (.int .i64 0)).congr (fun i hi => ?_)), ((put15_below h.bel acc).setCell (p := ⟨B + 1, 0, none⟩) (by show B ≤ B + 1; omega) _).setCell (p := ⟨B + 1, 1, none⟩) (by show B ≤ B + 1; omega) _⟩
  have h2 : i = 0 ∨ i = 1 := by omega
  rcases h2 with rfl | rfl <;> rfl

set_option maxRecDepth 100000 in
set_option maxHeartbeats 8000000 in
theorem rparse5_any (w : World) (s : ByteArray) (hs : s.size ≤ 1048576) : Calls Tryd.prog 5 #[.string s] w fun e w' => ∃ v, e = .returned (.tuple #[.agg (a15 (PNs s).2), v]) ∧ RErr w' v (PNs s).1 ∧ Below w.heap.size w w' := by
  obtain ⟨B, hB⟩ : ∃ B, w.heap.size = B := ⟨_, rfl⟩
  obtain ⟨R1, R2, hR⟩ : ∃ a b, PNs s = (a, b) := ⟨_, _, rfl⟩
  rw [hR]
  have hR' : pn 0 0 (cx s 61 0) [] = (R1, R2) := hR
  have HR0 : Hid (pn 0 0 (cx s 61 0) [] = (R1, R2)) := hR'
  clear hR hR'
  dsimp only
  have hz1 : a15 ([] : List (List ByteArray)) = z15 := z15_is.symm
  obtain ⟨W0, hW0⟩ : ∃ W0, ((w.alloc (.cells z15 25)).alloc (.cells #[.slice none 0 0, .int .i64 0] 32)).alloc (.cells z15 25) = W0 := ⟨_, rfl⟩
  have hW0s : W0.heap.size = B + 3 := by rw [← hW0]; simp [hB]
  have r1 : W0.rowIs B 25 15 (f15 []) := by have := row15_new w; rw [hB] at this; rw [← hW0]; exact (this.alloc _).alloc _
  have r2 : W0.rowIs (B + 1) 32 2 fN := by have := frow (w.alloc (.cells z15 25)); rw [World.size_alloc, hB] at this; rw [← hW0]; exact this.alloc _
  have r3 : W0.rowIs (B + 2) 25 15 (f15 []) := by have := row15_new ((w.alloc (.cells z15 25)).alloc (.cells #[.slice none 0 0, .int .i64 0] 32)); rw [World.size_alloc, World.size_alloc, hB] at this; rw [← hW0]; exact this
  have b0 : Below B w W0 := by rw [← hW0]; exact (((Below.refl _ w).alloc (by omega) _).alloc (by simp; omega) _).alloc (by simp; omega) _
  have HRW : Hid (W0.rowIs B 25 15 (f15 []) ∧ W0.rowIs (B + 1) 32 2 fN ∧ W0.rowIs (B + 2) 25 15 (f15 []) ∧ Below B w W0 ∧ W0.heap.size = B + 3) := ⟨r1, r2, r3, b0, hW0s⟩
  have c12 := cut12_any W0 s (by omega) 61
  clear r1 r2 r3 b0 hW0s
  have HW0 : Hid _ := hW0
  clear hW0
  go_enter Tryd.func5, Tryd.ntmps5
  go_wp2_with (go_at_call 12; refine Stop.mk ?_)
  rw [show ((w.alloc (.cells #[.string ⟨#[]⟩, .string ⟨#[]⟩, .string ⟨#[]⟩, .string ⟨#[]⟩, .string ⟨#[]⟩, .string ⟨#[]⟩, .string ⟨#[]⟩, .string ⟨#[]⟩, .string ⟨#[]⟩, .string ⟨#[]⟩, .string ⟨#[]⟩, .string ⟨#[]⟩, .string ⟨#[]⟩, .string ⟨#[]⟩, .string ⟨#[]⟩] 25)).alloc (.cells #[.slice none 0 0, .int .i64 0] 32)).alloc (.cells #[.string ⟨#[]⟩, .string ⟨#[]⟩, .string ⟨#[]⟩, .string ⟨#[]⟩, .string ⟨#[]⟩, .string ⟨#[]⟩, .string ⟨#[]⟩, .string ⟨#[]⟩, .string ⟨#[]⟩, .string ⟨#[]⟩, .string ⟨#[]⟩, .string ⟨#[]⟩, .string ⟨#[]⟩, .string ⟨#[]⟩, .string ⟨#[]⟩] 25) = W0 from HW0.out]
  refine Stop.out (c12.mono ?_)
  rintro e W1 ⟨v1, rfl, ho1, hb1⟩
  obtain ⟨gb, cap, rfl, hgb, hcap, hgc⟩ := own_strs ho1 (cx_ne s 61 0)
  have hcxs : ∀ x ∈ cx s 61 0, x.size ≤ s.size := cx_size s 61 _ 0 rfl
  have hcl : (cx s 61 0).length ≤ s.size + 1 := by have := cx_len s 61 _ 0 rfl; omega
  obtain ⟨Gs, hGs⟩ : ∃ Gs, cx s 61 0 = Gs := ⟨_, rfl⟩
  rw [hGs] at hgc hcap hcxs hcl HR0 ⊢
  have HD0 : Hid (DI w W1 B gb Gs (f15 [])) := by
    obtain ⟨q1, q2, q3, q4, q5⟩ := HRW.out
    rw [q5] at hgb
    exact ⟨q1.of_block (hb1.block _ q1.lt), q2.of_block (hb1.block _ q2.lt), q3.of_block (hb1.block _ q3.lt), hgc, by omega, q4.trans (hb1.mono (by rw [q5]; omega))⟩
  have HCX : Hid (∀ x ∈ Gs, x.size ≤ s.size) := hcxs
  clear c12 ho1 hb1 hgc hGs hcxs HRW HW0 hgb
  clear W0
  go_wp2
  go_loopg [5, 7] Gs.length (fun g s5 s7 wx => ∃ (fr : Nat) (acc : List (List ByteArray)), s5 = .int .i64 (fr : Int) ∧ s7 = .int .i64 (acc.length : Int) ∧ g + acc.length = Gs.length ∧ acc.length ≤ 3 ∧ fr ≤ 1048577 * acc.length ∧ Hid (acc.length = 0 ∨ 1 ≤ fr) ∧ Hid (pn acc.length fr (Gs.drop acc.length) acc = (R1, R2)) ∧ Hid (DI w wx B gb Gs (f15 acc)))
  case atStart => exact ⟨0, [], rfl, rfl, by show _ + 0 = _; omega, by show 0 ≤ 3; omega, by show 0 ≤ _; omega, Or.inl rfl, HR0, HD0⟩
  case round =>
    clear HD0 HR0
    obtain ⟨fr, acc, rfl, rfl, hg, hl3, hfr, H1, HP, HD⟩ := hrel
    by_cases hlt : acc.length < Gs.length
    · have hltI : (acc.length : Int) < (Gs.length : Int) := by omega
      obtain ⟨G, hG⟩ : ∃ G, Gs[acc.length]? = some G := ⟨_, List.getElem?_eq_getElem hlt⟩
      have hGm : G ∈ Gs := List.mem_of_getElem? hG
      have hGz : G.size ≤ 1048576 := by have := HCX.out G hGm; omega
      have hdr : Gs.drop acc.length = G :: Gs.drop (acc.length + 1) := by
        rw [List.drop_eq_getElem_cons hlt]
        congr 1
        rw [List.getElem?_eq_getElem hlt] at hG
        exact Option.some.inj hG
      have hP := HP.out
      rw [hdr, pn] at hP
      have kG := HD.out.grp _ _ hG
      by_cases h3 : acc.length = 3
      · rw [if_pos h3] at hP
        obtain ⟨rfl, rfl⟩ := Prod.mk.inj hP
        have e3 : ((acc.length : Int) == 3) = true := by rw [h3]; rfl
        have hfr1 : 1 ≤ fr := by rcases H1.out with h | h <;> omega
        clear HP hP H1 hdr hG hGm kG
        have c13 := no_any ((fr : Int) - 1) 104 wr
        go_wp2_with (go_at_call 13; refine Stop.mk ?_)
        refine Stop.out (c13.mono ?_)
        rintro e W9 ⟨v9, rfl, hv9, hb9⟩
        have HD9 := (HD.out).on hb9
        have HV9 : Hid (RErr W9 v9 (some (((fr : Int) - 1), 104))) := hv9
        obtain ⟨g9, k9, rfl, _, _⟩ := hv9
        obtain ⟨d0, d1, d2, d3, d4, d5⟩ := putD_all HD9 z15 (.slice (some ⟨g9, 0, none⟩) 1 k9) (.int .i64 104)
        rw [hz1] at d2
        have zo := z15_one
        have fo : (#[.slice (some ⟨g9, 0, none⟩) 1 k9, .int .i64 104] : Array Value).all (·.oneCell') = true := by simp [Value.oneCell']
        have HD0 : Hid _ := d0
        have HD1 : Hid _ := d1
        have HDV : Hid (RErr _ _ _) := d4 HV9.out
        have HDB : Hid _ := d5
        clear c13 hb9 HD9 HV9 d0 d1 d4 d5
        go_wp2_with (first | (refine wpList_store_rowTo rfl 25 (.tmp 2) (.tmp 25) rfl rfl B z15 rfl rfl 25 _ d2 info25 rfl zo ?_) | (refine wpList_store_rowTo rfl 32 (.tmp 3) (.tmp 28) rfl rfl (B + 1) #[.slice (some ⟨g9, 0, none⟩) 1 k9, .int .i64 104] rfl rfl 32 _ d3 info32 rfl fo ?_))
        refine bodyPost_ret (v := .tuple #[.agg z15, .agg #[.slice (some ⟨g9, 0, none⟩) 1 k9, .int .i64 104]]) (results_row_cell Tryd.results5 _ _ B 25 z15 (0, 0) _ rfl HD0.out Tryd.underlying25 rfl info25 (B + 1) 32 _ (0, 0) _ rfl HD1.out Tryd.underlying32 rfl info32) rfl ⟨_, by first | rfl | rw [hz1], HDV.out, by first | exact HDB.out | (rw [hB]; exact HDB.out)⟩
      · rw [if_neg h3] at hP
        have e3 : ((acc.length : Int) == 3) = false := by simpa using (by omega : ¬ (acc.length : Int) = 3)
        have hl : acc.length < 3 := by omega
        have hlI : (acc.length : Int) < 3 := by omega
        have HPh : Hid _ := hP
        obtain ⟨E, hE⟩ : ∃ E, scE G G.size 0 0 = E := ⟨_, rfl⟩
        have HE0 : Hid (scE G G.size 0 0 = E) := hE
        have hgd := gR_doc G
        rw [hE] at hgd
        have HGD : Hid _ := hgd
        clear HP hP hdr hGm hE hgd
        go_wp2
        go_loopg [8, 9] G.size (fun g s8 s9 wx => ∃ (i c : Nat), s8 = .int .i64 (c : Int) ∧ s9 = .int .i64 (i : Int) ∧ g + i = G.size ∧ c ≤ 4 ∧ Hid (scE G (G.size - i) i c = E) ∧ wr = wx)
        case atStart => exact ⟨0, 0, rfl, rfl, by omega, by omega, HE0, rfl⟩
        case round =>
          clear HE0
          obtain ⟨i, c, rfl, rfl, hgi, hc4, HE, rfl⟩ := hrel
          by_cases hi : i < G.size
          · have hiI : (i : Int) < (G.size : Int) := by omega
            obtain ⟨b, hb⟩ : ∃ b, G[i].toNat = b := ⟨_, rfl⟩
            have hgb2 : (G.get! i).toNat = b := by rw [← get_get! G i hi, hb]
            have hEE := HE.out
            rw [show G.size - i = (G.size - (i + 1)) + 1 by omega, scE, hgb2] at hEE
            have hbs : (fr : Int) + (i : Int) ≤ 8388608 := by omega
            have c14 := bars_any wr (b : Int)
            clear hgb2 HE
            by_cases h94 : b = 94
            · have e94 : ((b : Int) == 94) = true := by rw [h94]; rfl
              have hbar : barI (b : Int) = false := by rw [h94]; rfl
              rw [hbar] at c14 hEE
              rw [if_neg (by decide), if_pos h94] at hEE
              by_cases h4 : c = 4
              · rw [if_pos h4] at hEE
                have e5 : ((c : Int) + 1 == 5) = true := by rw [h4]; rfl
                subst hEE
                have hgr : (gR G).1 = some (i, 104) := by
                  rcases HGD.out with ⟨_, h⟩ | ⟨h, _⟩ | ⟨h, _⟩
                  · exact h
                  · cases h
                  · cases h
                have hP := HPh.out
                rw [hgr] at hP
                obtain ⟨rfl, rfl⟩ := Prod.mk.inj hP
                clear hP HPh HGD hgr h94 h4 hbar c14 H1
                have c13 := no_any ((fr : Int) + (i : Int)) 104 wr
                go_wp2_with (go_at_call 13; refine Stop.mk ?_)
                refine Stop.out (c13.mono ?_)
                rintro e W9 ⟨v9, rfl, hv9, hb9⟩
                have HD9 := (HD.out).on hb9
                have HV9 : Hid (RErr W9 v9 (some (((fr : Int) + (i : Int)), 104))) := hv9
                obtain ⟨g9, k9, rfl, _, _⟩ := hv9
                obtain ⟨d0, d1, d2, d3, d4, d5⟩ := putD_all HD9 z15 (.slice (some ⟨g9, 0, none⟩) 1 k9) (.int .i64 104)
                rw [hz1] at d2
                have zo := z15_one
                have fo : (#[.slice (some ⟨g9, 0, none⟩) 1 k9, .int .i64 104] : Array Value).all (·.oneCell') = true := by simp [Value.oneCell']
                have HD0 : Hid _ := d0
                have HD1 : Hid _ := d1
                have HDV : Hid (RErr _ _ _) := d4 HV9.out
                have HDB : Hid _ := d5
                clear c13 hb9 HD9 HV9 d0 d1 d4 d5
                go_wp2_with (first | (refine wpList_store_rowTo rfl 25 (.tmp 2) (.tmp 50) rfl rfl B z15 rfl rfl 25 _ d2 info25 rfl zo ?_) | (refine wpList_store_rowTo rfl 32 (.tmp 3) (.tmp 54) rfl rfl (B + 1) #[.slice (some ⟨g9, 0, none⟩) 1 k9, .int .i64 104] rfl rfl 32 _ d3 info32 rfl fo ?_))
                refine bodyPost_ret (v := .tuple #[.agg z15, .agg #[.slice (some ⟨g9, 0, none⟩) 1 k9, .int .i64 104]]) (results_row_cell Tryd.results5 _ _ B 25 z15 (0, 0) _ rfl HD0.out Tryd.underlying25 rfl info25 (B + 1) 32 _ (0, 0) _ rfl HD1.out Tryd.underlying32 rfl info32) rfl ⟨_, by first | rfl | rw [hz1], HDV.out, by first | exact HDB.out | (rw [hB]; exact HDB.out)⟩
              · rw [if_neg h4] at hEE
                have e5 : ((c : Int) + 1 == 5) = false := by simpa using (by omega : ¬ (c : Int) + 1 = 5)
                have HE2 : Hid (scE G (G.size - (i + 1)) (i + 1) (c + 1) = E) := hEE
                have hc3 : c + 1 ≤ 4 := by omega
                clear h94 h4 hbar hEE
                go_wp2_with (go_at_call 14; refine c14.mono ?_; rintro e W ⟨rfl, rfl⟩)
                go_roundg (G.size - (i + 1))
                case measure => omega
                case rel => exact ⟨i + 1, c + 1, by first | rfl | simp, by first | rfl | simp, by omega, by omega, HE2, rfl⟩
            · have e94 : ((b : Int) == 94) = false := by simpa using (by omega : ¬ (b : Int) = 94)
              have e5 : ((c : Int) == 5) = false := by simpa using (by omega : ¬ (c : Int) = 5)
              cases hbar : barI (b : Int) with
              | true =>
                rw [hbar] at c14 hEE
                rw [if_pos rfl] at hEE
                subst hEE
                have hgr : (gR G).1 = some (i, 100) := by
                  rcases HGD.out with ⟨_, h⟩ | ⟨h, _⟩ | ⟨h, _⟩
                  · exact h
                  · cases h
                  · cases h
                have hP := HPh.out
                rw [hgr] at hP
                obtain ⟨rfl, rfl⟩ := Prod.mk.inj hP
                clear hP HPh HGD hgr h94 hbar H1
                go_wp2_with (go_at_call 14; refine Stop.mk ?_)
                refine Stop.out (c14.mono ?_)
                rintro e W ⟨rfl, rfl⟩
                clear c14
                have c13 := no_any ((fr : Int) + (i : Int)) 100 wr
                go_wp2_with (go_at_call 13; refine Stop.mk ?_)
                refine Stop.out (c13.mono ?_)
                rintro e W9 ⟨v9, rfl, hv9, hb9⟩
                have HD9 := (HD.out).on hb9
                have HV9 : Hid (RErr W9 v9 (some (((fr : Int) + (i : Int)), 100))) := hv9
                obtain ⟨g9, k9, rfl, _, _⟩ := hv9
                obtain ⟨d0, d1, d2, d3, d4, d5⟩ := putD_all HD9 z15 (.slice (some ⟨g9, 0, none⟩) 1 k9) (.int .i64 100)
                rw [hz1] at d2
                have zo := z15_one
                have fo : (#[.slice (some ⟨g9, 0, none⟩) 1 k9, .int .i64 100] : Array Value).all (·.oneCell') = true := by simp [Value.oneCell']
                have HD0 : Hid _ := d0
                have HD1 : Hid _ := d1
                have HDV : Hid (RErr _ _ _) := d4 HV9.out
                have HDB : Hid _ := d5
                clear c13 hb9 HD9 HV9 d0 d1 d4 d5
                go_wp2_with (first | (refine wpList_store_rowTo rfl 25 (.tmp 2) (.tmp 57) rfl rfl B z15 rfl rfl 25 _ d2 info25 rfl zo ?_) | (refine wpList_store_rowTo rfl 32 (.tmp 3) (.tmp 61) rfl rfl (B + 1) #[.slice (some ⟨g9, 0, none⟩) 1 k9, .int .i64 100] rfl rfl 32 _ d3 info32 rfl fo ?_))
                refine bodyPost_ret (v := .tuple #[.agg z15, .agg #[.slice (some ⟨g9, 0, none⟩) 1 k9, .int .i64 100]]) (results_row_cell Tryd.results5 _ _ B 25 z15 (0, 0) _ rfl HD0.out Tryd.underlying25 rfl info25 (B + 1) 32 _ (0, 0) _ rfl HD1.out Tryd.underlying32 rfl info32) rfl ⟨_, by first | rfl | rw [hz1], HDV.out, by first | exact HDB.out | (rw [hB]; exact HDB.out)⟩
              | false =>
                rw [hbar] at c14 hEE
                rw [if_neg (by decide), if_neg h94] at hEE
                have HE2 : Hid (scE G (G.size - (i + 1)) (i + 1) c = E) := hEE
                clear h94 hbar hEE
                go_wp2_with (go_at_call 14; refine c14.mono ?_; rintro e W ⟨rfl, rfl⟩)
                go_roundg (G.size - (i + 1))
                case measure => omega
                case rel => exact ⟨i + 1, c, rfl, by first | rfl | simp, by omega, hc4, HE2, rfl⟩
          · have hiI : ¬ ((i : Int) < (G.size : Int)) := by omega
            have hEE := HE.out
            rw [show G.size - i = 0 by omega, scE] at hEE
            subst hEE
            have c15 := relements_any wr G (by omega)
            clear HE
            go_wp2_with (go_at_call 15; refine Stop.mk ?_)
            refine Stop.out (c15.mono ?_)
            rintro e W2 ⟨v2, rfl, ho2, hb2⟩
            obtain ⟨a2, cap2, rfl, _, _⟩ := own_rd64 ho2
            have HD2 : Hid (DI w W2 B gb Gs (f15 acc)) := HD.out.on hb2
            have kG2 := HD2.out.grp _ _ hG
            clear c15 ho2 hb2 HD kG
            obtain ⟨N, hN⟩ : ∃ N, (relems G).length = N := ⟨_, rfl⟩
            rw [hN]
            have hN3 : rn G 0 = N := (rn_elems G).symm.trans hN
            rw [hN3] at HGD
            have hN2 : N ≤ 1048576 := by rw [← hN]; have := relems_len G; omega
            clear hN3
            clear hN
            by_cases h64 : 64 < N
            · have h64I : (64 : Int) < (N : Int) := by omega
              have hgr : (gR G).1 = some (0, 103) := by
                rcases HGD.out with ⟨h, _⟩ | ⟨_, _, h⟩ | ⟨_, h, _⟩
                · exact absurd rfl h
                · exact h
                · exact absurd h64 h
              have hP := HPh.out
              rw [hgr] at hP
              dsimp only at hP
              rw [show (fr : Int) + ((0 : Nat) : Int) = (fr : Int) by omega] at hP
              obtain ⟨rfl, rfl⟩ := Prod.mk.inj hP
              clear hP HPh HGD hgr H1
              have c13 := no_any (fr : Int) 103 W2
              go_wp2_with (go_at_call 13; refine Stop.mk ?_)
              refine Stop.out (c13.mono ?_)
              rintro e W9 ⟨v9, rfl, hv9, hb9⟩
              have HD9 := (HD2.out).on hb9
              have HV9 : Hid (RErr W9 v9 (some ((fr : Int), 103))) := hv9
              obtain ⟨g9, k9, rfl, _, _⟩ := hv9
              obtain ⟨d0, d1, d2, d3, d4, d5⟩ := putD_all HD9 z15 (.slice (some ⟨g9, 0, none⟩) 1 k9) (.int .i64 103)
              rw [hz1] at d2
              have zo := z15_one
              have fo : (#[.slice (some ⟨g9, 0, none⟩) 1 k9, .int .i64 103] : Array Value).all (·.oneCell') = true := by simp [Value.oneCell']
              have HD0 : Hid _ := d0
              have HD1 : Hid _ := d1
              have HDV : Hid (RErr _ _ _) := d4 HV9.out
              have HDB : Hid _ := d5
              clear c13 hb9 HD9 HV9 d0 d1 d4 d5
              go_wp2_with (first | (refine wpList_store_rowTo rfl 25 (.tmp 2) (.tmp 70) rfl rfl B z15 rfl rfl 25 _ d2 info25 rfl zo ?_) | (refine wpList_store_rowTo rfl 32 (.tmp 3) (.tmp 72) rfl rfl (B + 1) #[.slice (some ⟨g9, 0, none⟩) 1 k9, .int .i64 103] rfl rfl 32 _ d3 info32 rfl fo ?_))
              refine bodyPost_ret (v := .tuple #[.agg z15, .agg #[.slice (some ⟨g9, 0, none⟩) 1 k9, .int .i64 103]]) (results_row_cell Tryd.results5 _ _ B 25 z15 (0, 0) _ rfl HD0.out Tryd.underlying25 rfl info25 (B + 1) 32 _ (0, 0) _ rfl HD1.out Tryd.underlying32 rfl info32) rfl ⟨_, by first | rfl | rw [hz1], HDV.out, by first | exact HDB.out | (rw [hB]; exact HDB.out)⟩
            · have h64I : ¬ ((64 : Int) < (N : Int)) := by omega
              obtain ⟨hgr, hL5⟩ : gR G = (none, cx G 94 0) ∧ (cx G 94 0).length ≤ 5 := by
                rcases HGD.out with ⟨h, _⟩ | ⟨_, h, _⟩ | ⟨_, _, h⟩
                · exact absurd rfl h
                · exact absurd h h64
                · exact h
              have hP := HPh.out
              rw [hgr] at hP
              dsimp only at hP
              have c12 := cut12_any W2 G (by omega) 94
              have hne := cx_ne G 94 0
              obtain ⟨L, hL⟩ : ∃ L, cx G 94 0 = L := ⟨_, rfl⟩
              rw [hL] at hP hL5 c12 hne
              have HP3 : Hid (pn (acc ++ [L]).length (fr + G.size + 1) (Gs.drop (acc ++ [L]).length) (acc ++ [L]) = (R1, R2)) := by show _ = _; rw [List.length_append, List.length_singleton]; exact hP
              clear hP HPh HGD hgr hL
              go_wp2_with (go_at_call 12; refine Stop.mk ?_)
              refine Stop.out (c12.mono ?_)
              rintro e W3 ⟨v3, rfl, ho3, hb3⟩
              obtain ⟨pb, cap3, rfl, hpb, hcap3, hpc⟩ := own_strs ho3 hne
              have HD3 : Hid (DI w W3 B gb Gs (f15 (acc ++ [L.take 0]))) := (HD2.out.on hb3).congr (fun i _ => t15_start acc L i)
              have hpb2 : B + 2 < pb := by have := HD2.out.prt.lt; omega
              have HPC : Hid (∀ k x, L[k]? = some x → W3.cell? ⟨pb, k, none⟩ = some (.string x)) := hpc
              clear c12 ho3 hb3 hpc HD2 kG2 hpb
              go_wp2
              go_loopg [13] L.length (fun g s13 wx => ∃ (c : Nat), s13 = .int .i64 (c : Int) ∧ g + c = L.length ∧ Hid (DI w wx B gb Gs (f15 (acc ++ [L.take c]))) ∧ Hid (∀ k x, L[k]? = some x → wx.cell? ⟨pb, k, none⟩ = some (.string x)))
              case atStart => exact ⟨0, rfl, by omega, HD3, HPC⟩
              case round =>
                clear HD3 HPC
                obtain ⟨c, rfl, hgc2, HD4, HPC⟩ := hrel
                by_cases hc : c < L.length
                · have hcI : (c : Int) < (L.length : Int) := by omega
                  obtain ⟨x, hx⟩ : ∃ x, L[c]? = some x := ⟨_, List.getElem?_eq_getElem hc⟩
                  have kx := HPC.out c x hx
                  have kc : wr.cell? ⟨B + 2, acc.length * 5 + c, none⟩ = some (.string (t15 (acc ++ [L.take c]) (acc.length * 5 + c))) := HD4.out.prt.cell (i := acc.length * 5 + c) (by omega)
                  have kf : ∀ i, wr.frozen? ⟨B + 2, i, none⟩ = false := fun i => HD4.out.prt.frozen i
                  have hc5 : (c : Int) < 5 := by omega
                  have HD5 : Hid (DI w (wr.setCell ⟨B + 2, acc.length * 5 + c, none⟩ (.string x)) B gb Gs (f15 (acc ++ [L.take (c + 1)]))) := (HD4.out.set (acc.length * 5 + c) (.string x)).congr (fun i _ => t15_next acc L c x hx (by omega) i)
                  have HPC2 : Hid (∀ k x', L[k]? = some x' → (wr.setCell ⟨B + 2, acc.length * 5 + c, none⟩ (.string x)).cell? ⟨pb, k, none⟩ = some (.string x')) := fun k x' hk => (cell_set_off (by omega)).trans (HPC.out k x' hk)
                  clear HD4 HPC
                  go_wp2
                  go_region
                  go_wp2
                  go_roundg (L.length - (c + 1))
                  case measure => omega
                  case rel => exact ⟨c + 1, by first | rfl | simp, by omega, HD5.out.drew, HPC2⟩
                · have hcI : ¬ ((c : Int) < (L.length : Int)) := by omega
                  have htk : L.take c = L := List.take_of_length_le (by omega)
                  rw [htk] at HD4
                  have kG4 := HD4.out.grp _ _ hG
                  have HL5 : Hid ((acc ++ [L]).length = acc.length + 1) := by show _ = _; rw [List.length_append, List.length_singleton]
                  clear htk HPC
                  go_wp2
                  go_roundg (Gs.length - (acc.length + 1))
                  case measure => omega
                  case rel => exact ⟨fr + G.size + 1, acc ++ [L], by first | rfl | (simp; omega), by rw [HL5.out]; first | rfl | simp, by rw [HL5.out]; omega, by rw [HL5.out]; omega, by rw [HL5.out]; omega, Or.inr (by omega), HP3, HD4⟩
    · have hltI : ¬ ((acc.length : Int) < (Gs.length : Int)) := by omega
      have hP := HP.out
      rw [List.drop_eq_nil_of_le (by omega), pn] at hP
      obtain ⟨rfl, rfl⟩ := Prod.mk.inj hP
      have c16 := fun W => none34_any W
      obtain ⟨n0, n1, n2, n3, n4, n5, n6, n7, n8, n9, n10, n11, n12, n13, n14, r0, r1, r2, r3, r4, r5, r6, r7, r8, r9, r10, r11, r12, r13, r14, f0, f1, nf, rf, ff⟩ := HD.out.cells
      clear HP hP H1
      go_wp2
      go_region_with (go_at_call 16; refine (c16 _).mono ?_; rintro e W3 ⟨rfl, hb⟩; have hb3 : Below wr.heap.size wr W3 := ⟨hb.os, hb.tape, hb.output, hb.size, hb.block⟩; clear hb; have HD3 : Hid (DI w W3 B gb Gs (f15 acc)) := HD.out.on hb3; obtain ⟨m0, m1, m2, m3, m4, m5, m6, m7, m8, m9, m10, m11, m12, m13, m14, q0, q1, q2, q3, q4, q5, q6, q7, q8, q9, q10, q11, q12, q13, q14, h0, h1, mf, qf, hf⟩ := HD3.out.cells; clear hb3)
      all_goals
        go_wp2
        obtain ⟨k1, k2, k3⟩ := putN_all HD3.out acc
        unfold put15 at *
        refine bodyPost_ret (v := .tuple #[.agg (a15 acc), .agg #[.slice none 0 0, .int .i64 0]]) (results_row_cell Tryd.results5 _ _ B 25 (a15 acc) (0, 0) _ rfl k1 Tryd.underlying25 rfl (by rw [a15_size]; exact info25) (B + 1) 32 _ (0, 0) _ rfl k2 Tryd.underlying32 rfl info32) rfl ⟨_, rfl, rfl, by rw [hB]; exact k3⟩
end Go.Proofs.YtohojghndnfgdaaDoor
