import Derived.Test.YtfoodjhffehgpaaGreatDoorVl
section
/-
  DERIVED. Heads, read without letters.
-/
namespace Go.Proofs.YtfoodjhffehgpaaGreatDoor
open Go Go.Proofs Go.RowKit
open Wk (Nd nds)
open Go.Sort

/-- A head's room, still empty. -/
structure Fr4 (W : World) (g : Nat) : Prop where
  c0 : W.cell? ⟨g, 0, none⟩ = some (.int .i64 0)
  c1 : W.cell? ⟨g, 1, none⟩ = some (.int .u32 0)
  c2 : W.cell? ⟨g, 2, none⟩ = some (.int .i64 0)
  c3 : W.cell? ⟨g, 3, none⟩ = some .nilIface
  fz : ∀ i, W.frozen? ⟨g, i, none⟩ = false
theorem Fr4.on {W W' : World} {g : Nat} (h : Fr4 W g) (hb : Below W.heap.size W W') : Fr4 W' g :=
  ⟨(hb.cell (Rp.cell_lt h.c0)).trans h.c0, (hb.cell (Rp.cell_lt h.c1)).trans h.c1, (hb.cell (Rp.cell_lt h.c2)).trans h.c2, (hb.cell (Rp.cell_lt h.c3)).trans h.c3, fun i => (hb.frozen (p := ⟨g, i, none⟩) (show g < _ from Rp.cell_lt h.c0)).trans (h.fz i)⟩
theorem Fr4.new (W : World) : Fr4 (W.alloc (.cells #[.int .i64 0, .int .u32 0, .int .i64 0, .nilIface] 131)) W.heap.size := ⟨by simp, by simp, by simp, by simp, fun i => by simp⟩
theorem Fr4.off {W : World} {g b i : Nat} (h : Fr4 W g) (hne : b ≠ g) (u : Value) : Fr4 (W.setCell ⟨b, i, none⟩ u) g :=
  ⟨(Rp.cell_set_off hne).trans h.c0, (Rp.cell_set_off hne).trans h.c1, (Rp.cell_set_off hne).trans h.c2, (Rp.cell_set_off hne).trans h.c3, fun j => by simpa using h.fz j⟩
theorem Fr4.fill {W : World} {g : Nat} (h : Fr4 W g) (a b c d : Value) :
    ((((W.setCell ⟨g, 0, none⟩ a).setCell ⟨g, 1, none⟩ b).setCell ⟨g, 2, none⟩ c).setCell ⟨g, 3, none⟩ d).cell? ⟨g, 0, none⟩ = some a ∧ ((((W.setCell ⟨g, 0, none⟩ a).setCell ⟨g, 1, none⟩ b).setCell ⟨g, 2, none⟩ c).setCell ⟨g, 3, none⟩ d).cell? ⟨g, 1, none⟩ = some b ∧ ((((W.setCell ⟨g, 0, none⟩ a).setCell ⟨g, 1, none⟩ b).setCell ⟨g, 2, none⟩ c).setCell ⟨g, 3, none⟩ d).cell? ⟨g, 2, none⟩ = some c ∧ ((((W.setCell ⟨g, 0, none⟩ a).setCell ⟨g, 1, none⟩ b).setCell ⟨g, 2, none⟩ c).setCell ⟨g, 3, none⟩ d).cell? ⟨g, 3, none⟩ = some d :=
  ⟨(Rp.cell_set_ne (by decide)).trans ((Rp.cell_set_ne (by decide)).trans ((Rp.cell_set_ne (by decide)).trans (Rp.cell_set_eq h.c0))), (Rp.cell_set_ne (by decide)).trans ((Rp.cell_set_ne (by decide)).trans (Rp.cell_set_eq ((Rp.cell_set_ne (by decide)).trans h.c1))), (Rp.cell_set_ne (by decide)).trans (Rp.cell_set_eq ((Rp.cell_set_ne (by decide)).trans ((Rp.cell_set_ne (by decide)).trans h.c2))), Rp.cell_set_eq ((Rp.cell_set_ne (by decide)).trans ((Rp.cell_set_ne (by decide)).trans ((Rp.cell_set_ne (by decide)).trans h.c3)))⟩
theorem below_fill {B : Nat} {w W : World} {g : Nat} (h : Below B w W) (hg : B ≤ g) (a b c d : Value) : Below B w ((((W.setCell ⟨g, 0, none⟩ a).setCell ⟨g, 1, none⟩ b).setCell ⟨g, 2, none⟩ c).setCell ⟨g, 3, none⟩ d) :=
  (((h.setCell (p := ⟨g, 0, none⟩) hg a).setCell (p := ⟨g, 1, none⟩) hg b).setCell (p := ⟨g, 2, none⟩) hg c).setCell (p := ⟨g, 3, none⟩) hg d
theorem HC.setV {W : World} {g : Nat} {v : Int} {len sz x : Nat} (h : HC W g v len sz x) (u : Int) : HC (W.setCell ⟨g, 0, none⟩ (.int .i64 u)) g u len sz x :=
  ⟨Rp.cell_set_eq h.h0, (Rp.cell_set_ne (by decide)).trans h.h1, (Rp.cell_set_ne (by decide)).trans h.h2, (Rp.cell_set_ne (by decide)).trans h.h3⟩

set_option maxRecDepth 100000 in
set_option maxHeartbeats 4000000 in
theorem thI_any (w : World) (rb b off n cap k : Nat) (ys : List UInt8) (hn : k + 8 ≤ n) (hc : n ≤ cap) (hs : n ≤ 1048576) (c0 : w.cell? ⟨rb, 0, none⟩ = some (.slice (some ⟨b, off, none⟩) n cap)) (c1 : w.cell? ⟨rb, 1, none⟩ = some (.int .i64 (k : Int))) (hb : ∀ j, j < n → w.cell? ⟨b, off + j, none⟩ = some (.int .u8 (gB ys j : Int))) :
    Calls Tryz.prog 243 #[.agg #[], .pointer (some ⟨rb, 0, none⟩), .int .u32 (tagS ys k : Int)] w fun e w' => e = .returned (hdV (hdI ys k).v (hdI ys k).len (hdI ys k).sz (exI (hdI ys k).ex)) ∧ Below w.heap.size w w' := by
  have ht := tagS_lt ys k
  have cD : Hid (∀ W, Calls Tryz.prog 245 #[.int .u32 (tagS ys k : Int)] W fun e w' => e = .returned (.int .i64 (dflt (tagS ys k))) ∧ Below W.heap.size W w') := fun W => default_any W (tagS ys k) ht
  have cN : Hid (∀ W, Below w.heap.size w W → Calls Tryz.prog 64 #[.pointer (some ⟨rb, 0, none⟩), .int .i64 4, .int .i64 4] W fun e w' => e = .returned (.int .u32 (numS ys (k + 4) : Int)) ∧ W = w') := fun W hW => number4_any W rb b off n cap k 4 ys (by omega) hc hs ((hW.cell (Rp.cell_lt c0)).trans c0) ((hW.cell (Rp.cell_lt c1)).trans c1) (fun j hj => (hW.cell (Rp.cell_lt (hb j hj))).trans (hb j hj))
  have cK : Hid (∀ W, Calls Tryz.prog 244 #[.int .u32 (tagS ys k : Int)] W fun e w' => e = .returned (.bool (kn (tagS ys k)).isSome) ∧ Below W.heap.size W w') := fun W => known_any W (tagS ys k) ht
  have cG : Hid (∀ W, Calls Tryz.prog 73 #[.int .u32 (tagS ys k : Int)] W fun e w' => e = .returned (.bool (decide (tagS ys k % 65536 = 0))) ∧ W = w') := fun W => group_any W (tagS ys k) ht
  obtain ⟨R, hR⟩ : ∃ R, (hdI ys k).v = R := ⟨_, rfl⟩
  have HR : Hid ((if numS ys (k + 4) = und ∧ (kn (tagS ys k)).isSome = false ∧ tagS ys k % 65536 ≠ 0 then 18 else dflt (tagS ys k)) = R) := hR
  have e2 : (hdI ys k).len = numS ys (k + 4) := rfl
  have e3 : (hdI ys k).sz = 8 := rfl
  have e4 : exI (hdI ys k).ex = 98 := rfl
  rw [hR, e2, e3, e4]
  clear hR e2 e3 e4
  have hZl := numS_lt ys (k + 4)
  generalize tagS ys k = T at cD cK cG HR ⊢
  generalize numS ys (k + 4) = Z at cN HR hZl ⊢
  generalize dflt T = D at cD HR
  generalize (kn T).isSome = K at cK HR
  have HG : Hid ((decide (T % 65536 = 0) = true ∧ T % 65536 = 0) ∨ (decide (T % 65536 = 0) = false ∧ T % 65536 ≠ 0)) := by
    show _ ∨ _
    by_cases h : T % 65536 = 0
    · exact .inl ⟨decide_eq_true h, h⟩
    · exact .inr ⟨decide_eq_false h, h⟩
  obtain ⟨G, hG⟩ : ∃ G, decide (T % 65536 = 0) = G := ⟨_, rfl⟩
  rw [hG] at cG HG
  have HR2 : Hid (R = if Z = und ∧ K = false ∧ G = false then 18 else D) := by
    show _ = _
    rw [← HR.out]
    rcases HG.out with ⟨h1, h2⟩ | ⟨h1, h2⟩
    · rw [if_neg (fun h => h.2.2 h2), if_neg (fun h => by rw [h1] at h; cases h.2.2)]
    · rw [h1]; simp only [h2, ne_eq, not_false_iff, and_true]
  clear HR HG hG ht c0 c1 hb hn hc hs
  unfold hdV
  have HX : Hid (Below w.heap.size w ((w.alloc (.cells #[] 98)).alloc (.cells #[.int .i64 0, .int .u32 0, .int .i64 0, .nilIface] 131))) := ((Below.refl _ w).alloc (Nat.le_refl _) _).alloc (by simp) _
  have HF : Hid (Fr4 ((w.alloc (.cells #[] 98)).alloc (.cells #[.int .i64 0, .int .u32 0, .int .i64 0, .nilIface] 131)) (w.heap.size + 1)) := by
    have := Fr4.new (w.alloc (.cells #[] 98))
    rw [show (w.alloc (.cells #[] 98)).heap.size = w.heap.size + 1 by simp] at this
    exact this
  by_cases hu : Z = und
  · have b1 : ((Z : Int) == 4294967295) = true := by rw [hu]; rfl
    cases K with
    | true =>
      have HV : Hid (R = D) := by show _ = _; rw [HR2.out, if_neg (fun h => by cases h.2.1)]
      clear hu HR2
      go_enter Tryz.func243, Tryz.ntmps243
      go_wp2_with (go_at_call 245; refine StopV.out ?_)
      refine ⟨Calls.mono (cD.out _) ?_⟩
      rintro e W1 ⟨rfl, hb1⟩
      have hB1 : Below w.heap.size w W1 := HX.out.trans (hb1.mono HX.out.size)
      have HF1 : Hid (Fr4 W1 (w.heap.size + 1)) := HF.out.on hb1
      go_wp2_with (go_at_call 64; refine StopV.out ?_)
      refine ⟨Calls.mono (cN.out _ hB1) ?_⟩
      rintro e W1 ⟨rfl, rfl⟩
      obtain ⟨Wh, hWh⟩ : ∃ Wh, W1.alloc (.cells #[.int .i64 D, .int .u32 (Z : Int), .int .i64 8, .iface 98 (.agg #[])] 131) = Wh := ⟨_, rfl⟩
      have hbh : Below W1.heap.size W1 Wh := by rw [← hWh]; exact (Below.refl _ _).alloc (Nat.le_refl _) _
      have HHh : Hid (HC Wh W1.heap.size D Z 8 98) := by rw [← hWh]; exact HC.new W1 D Z 8 98
      have hfh : ∀ i, Wh.frozen? ⟨W1.heap.size, i, none⟩ = false := fun i => by rw [← hWh]; simp
      have HFh : Hid (Fr4 Wh (w.heap.size + 1)) := HF1.out.on hbh
      have hBh : Below w.heap.size w Wh := hB1.trans (hbh.mono hB1.size)
      have hws : w.heap.size ≤ W1.heap.size := hB1.size
      have n1 : W1.heap.size ≠ w.heap.size + 1 := by have := Rp.cell_lt HF1.out.c0; have h : w.heap.size + 1 < W1.heap.size := this; omega
      have n2 : w.heap.size + 1 ≠ W1.heap.size := fun h => n1 h.symm
      clear hb1 hB1 HF1
      obtain ⟨x0, x1, x2, x3⟩ := HHh.out
      go_wp2_with (go_at_call 244; refine StopV.out ?_)
      refine ⟨Calls.mono (cK.out _) ?_⟩
      rintro e W3 ⟨rfl, hb3⟩
      have HH3 : Hid (HC W3 W1.heap.size D Z 8 98) := HHh.out.on hb3
      have HF3 : Hid (Fr4 W3 (w.heap.size + 1)) := HFh.out.on hb3
      have hB3 : Below w.heap.size w W3 := hBh.trans (hb3.mono hBh.size)
      have hf3 : ∀ i, W3.frozen? ⟨W1.heap.size, i, none⟩ = false := fun i => (hb3.frozen (p := ⟨W1.heap.size, i, none⟩) (show W1.heap.size < _ from Rp.cell_lt x0)).trans (hfh i)
      clear x0 x1 x2 x3
      obtain ⟨x0, x1, x2, x3⟩ := HH3.out
      obtain ⟨f0, f1, f2, f3, ff⟩ := HF3.out
      obtain ⟨u0, u1, u2, u3⟩ := Fr4.fill ⟨f0, f1, f2, f3, ff⟩ (.int .i64 D) (.int .u32 (Z : Int)) (.int .i64 8) (.iface 98 (.agg #[]))
      go_wp2
      refine bodyPost_ret (v := .agg #[.int .i64 R, .int .u32 (Z : Int), .int .i64 8, .iface 98 (.agg #[])]) (by simp only [results, Tryz.results243]; simp [go_sem, u0, u1, u2, u3, HV.out]) rfl ⟨rfl, ?_⟩
      exact below_fill hB3 (by omega) _ _ _ _
    | false =>
      cases G with
      | true =>
        have HV : Hid (R = D) := by show _ = _; rw [HR2.out, if_neg (fun h => by cases h.2.2)]
        clear hu HR2
        go_enter Tryz.func243, Tryz.ntmps243
        go_wp2_with (go_at_call 245; refine StopV.out ?_)
        refine ⟨Calls.mono (cD.out _) ?_⟩
        rintro e W1 ⟨rfl, hb1⟩
        have hB1 : Below w.heap.size w W1 := HX.out.trans (hb1.mono HX.out.size)
        have HF1 : Hid (Fr4 W1 (w.heap.size + 1)) := HF.out.on hb1
        go_wp2_with (go_at_call 64; refine StopV.out ?_)
        refine ⟨Calls.mono (cN.out _ hB1) ?_⟩
        rintro e W1 ⟨rfl, rfl⟩
        obtain ⟨Wh, hWh⟩ : ∃ Wh, W1.alloc (.cells #[.int .i64 D, .int .u32 (Z : Int), .int .i64 8, .iface 98 (.agg #[])] 131) = Wh := ⟨_, rfl⟩
        have hbh : Below W1.heap.size W1 Wh := by rw [← hWh]; exact (Below.refl _ _).alloc (Nat.le_refl _) _
        have HHh : Hid (HC Wh W1.heap.size D Z 8 98) := by rw [← hWh]; exact HC.new W1 D Z 8 98
        have hfh : ∀ i, Wh.frozen? ⟨W1.heap.size, i, none⟩ = false := fun i => by rw [← hWh]; simp
        have HFh : Hid (Fr4 Wh (w.heap.size + 1)) := HF1.out.on hbh
        have hBh : Below w.heap.size w Wh := hB1.trans (hbh.mono hB1.size)
        have hws : w.heap.size ≤ W1.heap.size := hB1.size
        have n1 : W1.heap.size ≠ w.heap.size + 1 := by have := Rp.cell_lt HF1.out.c0; have h : w.heap.size + 1 < W1.heap.size := this; omega
        have n2 : w.heap.size + 1 ≠ W1.heap.size := fun h => n1 h.symm
        clear hb1 hB1 HF1
        obtain ⟨x0, x1, x2, x3⟩ := HHh.out
        go_wp2_with (go_at_call 244; refine StopV.out ?_)
        refine ⟨Calls.mono (cK.out _) ?_⟩
        rintro e W3 ⟨rfl, hb3⟩
        have HH3 : Hid (HC W3 W1.heap.size D Z 8 98) := HHh.out.on hb3
        have HF3 : Hid (Fr4 W3 (w.heap.size + 1)) := HFh.out.on hb3
        have hB3 : Below w.heap.size w W3 := hBh.trans (hb3.mono hBh.size)
        have hf3 : ∀ i, W3.frozen? ⟨W1.heap.size, i, none⟩ = false := fun i => (hb3.frozen (p := ⟨W1.heap.size, i, none⟩) (show W1.heap.size < _ from Rp.cell_lt x0)).trans (hfh i)
        clear x0 x1 x2 x3
        obtain ⟨x0, x1, x2, x3⟩ := HH3.out
        go_wp2_with (go_at_call 73; refine StopV.out ?_)
        refine ⟨Calls.mono (cG.out _) ?_⟩
        rintro e W3 ⟨rfl, rfl⟩
        obtain ⟨f0, f1, f2, f3, ff⟩ := HF3.out
        obtain ⟨u0, u1, u2, u3⟩ := Fr4.fill ⟨f0, f1, f2, f3, ff⟩ (.int .i64 D) (.int .u32 (Z : Int)) (.int .i64 8) (.iface 98 (.agg #[]))
        go_wp2
        refine bodyPost_ret (v := .agg #[.int .i64 R, .int .u32 (Z : Int), .int .i64 8, .iface 98 (.agg #[])]) (by simp only [results, Tryz.results243]; simp [go_sem, u0, u1, u2, u3, HV.out]) rfl ⟨rfl, ?_⟩
        exact below_fill hB3 (by omega) _ _ _ _
      | false =>
        have HV : Hid (R = 18) := by show _ = _; rw [HR2.out, if_pos ⟨hu, rfl, rfl⟩]
        clear hu HR2
        go_enter Tryz.func243, Tryz.ntmps243
        go_wp2_with (go_at_call 245; refine StopV.out ?_)
        refine ⟨Calls.mono (cD.out _) ?_⟩
        rintro e W1 ⟨rfl, hb1⟩
        have hB1 : Below w.heap.size w W1 := HX.out.trans (hb1.mono HX.out.size)
        have HF1 : Hid (Fr4 W1 (w.heap.size + 1)) := HF.out.on hb1
        go_wp2_with (go_at_call 64; refine StopV.out ?_)
        refine ⟨Calls.mono (cN.out _ hB1) ?_⟩
        rintro e W1 ⟨rfl, rfl⟩
        obtain ⟨Wh, hWh⟩ : ∃ Wh, W1.alloc (.cells #[.int .i64 D, .int .u32 (Z : Int), .int .i64 8, .iface 98 (.agg #[])] 131) = Wh := ⟨_, rfl⟩
        have hbh : Below W1.heap.size W1 Wh := by rw [← hWh]; exact (Below.refl _ _).alloc (Nat.le_refl _) _
        have HHh : Hid (HC Wh W1.heap.size D Z 8 98) := by rw [← hWh]; exact HC.new W1 D Z 8 98
        have hfh : ∀ i, Wh.frozen? ⟨W1.heap.size, i, none⟩ = false := fun i => by rw [← hWh]; simp
        have HFh : Hid (Fr4 Wh (w.heap.size + 1)) := HF1.out.on hbh
        have hBh : Below w.heap.size w Wh := hB1.trans (hbh.mono hB1.size)
        have hws : w.heap.size ≤ W1.heap.size := hB1.size
        have n1 : W1.heap.size ≠ w.heap.size + 1 := by have := Rp.cell_lt HF1.out.c0; have h : w.heap.size + 1 < W1.heap.size := this; omega
        have n2 : w.heap.size + 1 ≠ W1.heap.size := fun h => n1 h.symm
        clear hb1 hB1 HF1
        obtain ⟨x0, x1, x2, x3⟩ := HHh.out
        go_wp2_with (go_at_call 244; refine StopV.out ?_)
        refine ⟨Calls.mono (cK.out _) ?_⟩
        rintro e W3 ⟨rfl, hb3⟩
        have HH3 : Hid (HC W3 W1.heap.size D Z 8 98) := HHh.out.on hb3
        have HF3 : Hid (Fr4 W3 (w.heap.size + 1)) := HFh.out.on hb3
        have hB3 : Below w.heap.size w W3 := hBh.trans (hb3.mono hBh.size)
        have hf3 : ∀ i, W3.frozen? ⟨W1.heap.size, i, none⟩ = false := fun i => (hb3.frozen (p := ⟨W1.heap.size, i, none⟩) (show W1.heap.size < _ from Rp.cell_lt x0)).trans (hfh i)
        clear x0 x1 x2 x3
        obtain ⟨x0, x1, x2, x3⟩ := HH3.out
        go_wp2_with (go_at_call 73; refine StopV.out ?_)
        refine ⟨Calls.mono (cG.out _) ?_⟩
        rintro e W3 ⟨rfl, rfl⟩
        have HF4 : Hid (Fr4 (W3.setCell ⟨W1.heap.size, 0, none⟩ (.int .i64 18)) (w.heap.size + 1)) := HF3.out.off n1 _
        have HH4 : Hid (HC (W3.setCell ⟨W1.heap.size, 0, none⟩ (.int .i64 18)) W1.heap.size 18 Z 8 98) := HH3.out.setV 18
        have hB4 : Below w.heap.size w (W3.setCell ⟨W1.heap.size, 0, none⟩ (.int .i64 18)) := hB3.setCell (p := ⟨W1.heap.size, 0, none⟩) (show w.heap.size ≤ W1.heap.size by omega) _
        have g0 := hf3 0
        obtain ⟨W4, hW4⟩ : ∃ W4, W3.setCell ⟨W1.heap.size, 0, none⟩ (.int .i64 18) = W4 := ⟨_, rfl⟩
        rw [hW4] at HF4 HH4 hB4
        obtain ⟨t0, t1, t2, t3⟩ := HH4.out
        obtain ⟨f0, f1, f2, f3, ff⟩ := HF4.out
        obtain ⟨u0, u1, u2, u3⟩ := Fr4.fill ⟨f0, f1, f2, f3, ff⟩ (.int .i64 18) (.int .u32 (Z : Int)) (.int .i64 8) (.iface 98 (.agg #[]))
        go_wp2
        refine bodyPost_ret (v := .agg #[.int .i64 R, .int .u32 (Z : Int), .int .i64 8, .iface 98 (.agg #[])]) (by simp only [results, Tryz.results243]; simp [go_sem, u0, u1, u2, u3, HV.out]) rfl ⟨rfl, ?_⟩
        exact below_fill hB4 (by omega) _ _ _ _
  · have b1 : ((Z : Int) == 4294967295) = false := beq_eq_false_iff_ne.2 (by unfold und at hu; omega)
    have HV : Hid (R = D) := by show _ = _; rw [HR2.out, if_neg (fun h => hu h.1)]
    clear hu HR2
    go_enter Tryz.func243, Tryz.ntmps243
    go_wp2_with (go_at_call 245; refine StopV.out ?_)
    refine ⟨Calls.mono (cD.out _) ?_⟩
    rintro e W1 ⟨rfl, hb1⟩
    have hB1 : Below w.heap.size w W1 := HX.out.trans (hb1.mono HX.out.size)
    have HF1 : Hid (Fr4 W1 (w.heap.size + 1)) := HF.out.on hb1
    go_wp2_with (go_at_call 64; refine StopV.out ?_)
    refine ⟨Calls.mono (cN.out _ hB1) ?_⟩
    rintro e W1 ⟨rfl, rfl⟩
    obtain ⟨Wh, hWh⟩ : ∃ Wh, W1.alloc (.cells #[.int .i64 D, .int .u32 (Z : Int), .int .i64 8, .iface 98 (.agg #[])] 131) = Wh := ⟨_, rfl⟩
    have hbh : Below W1.heap.size W1 Wh := by rw [← hWh]; exact (Below.refl _ _).alloc (Nat.le_refl _) _
    have HHh : Hid (HC Wh W1.heap.size D Z 8 98) := by rw [← hWh]; exact HC.new W1 D Z 8 98
    have hfh : ∀ i, Wh.frozen? ⟨W1.heap.size, i, none⟩ = false := fun i => by rw [← hWh]; simp
    have HFh : Hid (Fr4 Wh (w.heap.size + 1)) := HF1.out.on hbh
    have hBh : Below w.heap.size w Wh := hB1.trans (hbh.mono hB1.size)
    have hws : w.heap.size ≤ W1.heap.size := hB1.size
    have n1 : W1.heap.size ≠ w.heap.size + 1 := by have := Rp.cell_lt HF1.out.c0; have h : w.heap.size + 1 < W1.heap.size := this; omega
    have n2 : w.heap.size + 1 ≠ W1.heap.size := fun h => n1 h.symm
    clear hb1 hB1 HF1
    obtain ⟨x0, x1, x2, x3⟩ := HHh.out
    obtain ⟨f0, f1, f2, f3, ff⟩ := HFh.out
    obtain ⟨u0, u1, u2, u3⟩ := Fr4.fill ⟨f0, f1, f2, f3, ff⟩ (.int .i64 D) (.int .u32 (Z : Int)) (.int .i64 8) (.iface 98 (.agg #[]))
    go_wp2
    refine bodyPost_ret (v := .agg #[.int .i64 R, .int .u32 (Z : Int), .int .i64 8, .iface 98 (.agg #[])]) (by simp only [results, Tryz.results243]; simp [go_sem, u0, u1, u2, u3, HV.out]) rfl ⟨rfl, ?_⟩
    exact below_fill hBh (by omega) _ _ _ _
end Go.Proofs.YtfoodjhffehgpaaGreatDoor
end

section
/-
  DERIVED. Which letters may stand; what a head with the letters UN is of.
-/
namespace Go.Proofs.YtfoodjhffehgpaaGreatDoor
open Go Go.Proofs Go.RowKit
open Wk (Nd nds)
open Go.Sort

set_option maxRecDepth 100000 in
set_option maxHeartbeats 2000000 in
theorem mayTell_any (w : World) (t v : Nat) (ht : t < 4294967296) : Calls Tryz.prog 254 #[.int .u32 (t : Int), .int .i64 (v : Int)] w fun e w' => e = .returned (.bool (mayT t v)) ∧ Below w.heap.size w w' := by
  have c32 := Tb.find_any w t ht
  have cG := group_any w t ht
  obtain ⟨R, hR⟩ : ∃ R, mayT t v = R := ⟨_, rfl⟩
  have HR : Hid ((if t % 65536 = 0 then decide (v = 24) else (!(Tb.docF t (Tb.upTo 10)).isSome || (decide ((v : Int) = Tb.eV (Tb.docF t (Tb.upTo 10))) || decide (v = 25)))) = R) := hR
  rw [hR]
  clear hR
  generalize Tb.docF t (Tb.upTo 10) = O at c32 HR
  generalize Tb.eT O = e0 at c32
  generalize Tb.eM O = e1 at c32
  generalize Tb.eV O = e2 at c32 HR
  generalize Tb.eS O = e3 at c32
  generalize Tb.eL O = e4 at c32
  generalize Tb.eN O = e5 at c32
  generalize O.isSome = K at c32 HR
  by_cases hg : t % 65536 = 0
  · rw [decide_eq_true hg] at cG
    have HR1 : Hid (R = ((v : Int) == 24)) := by
      show _ = _
      rw [← HR.out, if_pos hg, show ((v : Int) == 24) = decide ((v : Int) = 24) from rfl]
      exact decide_eq_decide.2 (by omega)
    clear HR hg c32
    go_enter Tryz.func254, Tryz.ntmps254
    go_wp2_with (go_at_call 73; refine StopV.out ?_)
    refine ⟨Calls.mono cG ?_⟩
    rintro e W ⟨rfl, rfl⟩
    go_wp2
    go_ret
    exact ⟨by rw [HR1.out]; rfl, Below.refl _ _⟩
  · rw [decide_eq_false hg] at cG
    have HR0 : Hid _ := (if_neg hg).symm.trans HR.out
    clear HR hg
    cases K with
    | false =>
      have HR1 : Hid (R = true) := by show _ = _; rw [← HR0.out]; rfl
      clear HR0
      go_enter Tryz.func254, Tryz.ntmps254
      go_wp2_with (go_at_call 73; refine StopV.out ?_)
      refine ⟨Calls.mono cG ?_⟩
      rintro e W ⟨rfl, rfl⟩
      go_wp2_with (go_at_call 109; refine StopV.out ?_)
      refine ⟨Calls.mono c32 ?_⟩
      rintro e W ⟨rfl, hb⟩
      go_wp2
      go_ret
      exact ⟨by rw [HR1.out]; rfl, hb.alloc hb.size _⟩
    | true =>
      by_cases hv : (v : Int) = e2
      · have b1 : ((v : Int) == e2) = true := beq_iff_eq.2 hv
        have HR1 : Hid (R = true) := by show _ = _; rw [← HR0.out, decide_eq_true hv]; rfl
        clear HR0 hv
        go_enter Tryz.func254, Tryz.ntmps254
        go_wp2_with (go_at_call 73; refine StopV.out ?_)
        refine ⟨Calls.mono cG ?_⟩
        rintro e W ⟨rfl, rfl⟩
        go_wp2_with (go_at_call 109; refine StopV.out ?_)
        refine ⟨Calls.mono c32 ?_⟩
        rintro e W ⟨rfl, hb⟩
        go_wp2
        go_ret
        exact ⟨by rw [HR1.out]; rfl, hb.alloc hb.size _⟩
      · have b1 : ((v : Int) == e2) = false := beq_eq_false_iff_ne.2 hv
        have HR1 : Hid (R = ((v : Int) == 25)) := by
          show _ = _
          rw [← HR0.out, decide_eq_false hv, show ((v : Int) == 25) = decide ((v : Int) = 25) from rfl]
          show decide (v = 25) = decide ((v : Int) = 25)
          exact decide_eq_decide.2 (by omega)
        clear HR0 hv
        go_enter Tryz.func254, Tryz.ntmps254
        go_wp2_with (go_at_call 73; refine StopV.out ?_)
        refine ⟨Calls.mono cG ?_⟩
        rintro e W ⟨rfl, rfl⟩
        go_wp2_with (go_at_call 109; refine StopV.out ?_)
        refine ⟨Calls.mono c32 ?_⟩
        rintro e W ⟨rfl, hb⟩
        go_wp2
        go_ret
        exact ⟨by rw [HR1.out]; rfl, hb.alloc hb.size _⟩

set_option maxRecDepth 100000 in
set_option maxHeartbeats 4000000 in
theorem told_unk (w : World) (t : Nat) (ht : t < 4294967296) (v : Int) (len sz x : Nat) : Calls Tryz.prog 255 #[hdV v len sz x, .int .u32 (t : Int)] w fun e w' => e = .returned (hdV (if (kn t).isSome = true then Tb.eV (kn t) else if len = und then 18 else v) len sz 98) ∧ Below w.heap.size w w' := by
  have c32 := fun W => Tb.find_any W t ht
  obtain ⟨R, hR⟩ : ∃ R, (if (kn t).isSome = true then Tb.eV (kn t) else if len = und then 18 else v) = R := ⟨_, rfl⟩
  have HR : Hid ((if (Tb.docF t (Tb.upTo 10)).isSome = true then Tb.eV (Tb.docF t (Tb.upTo 10)) else if len = und then 18 else v) = R) := hR
  rw [hR]
  clear hR
  generalize Tb.docF t (Tb.upTo 10) = O at c32 HR
  generalize Tb.eT O = e0 at c32
  generalize Tb.eM O = e1 at c32
  generalize Tb.eV O = e2 at c32 HR
  generalize Tb.eS O = e3 at c32
  generalize Tb.eL O = e4 at c32
  generalize Tb.eN O = e5 at c32
  generalize O.isSome = K at c32 HR
  unfold hdV
  cases K with
  | true =>
    have HV : Hid (R = e2) := by show _ = _; rw [← HR.out, if_pos rfl]
    clear HR
    go_enter Tryz.func255, Tryz.ntmps255
    obtain ⟨W0, hW0⟩ : ∃ W0, ((w.alloc (.cells #[.int .i64 v, .int .u32 (len : Int), .int .i64 (sz : Int), .iface x (.agg #[])] 131)).alloc (.cells #[.int .i64 0, .int .u32 0, .int .i64 0, .nilIface] 131)).setCell ⟨w.heap.size, 3, none⟩ (.iface 98 (.agg #[])) = W0 := ⟨_, rfl⟩
    have HB0 : Hid (Below w.heap.size w W0) := by rw [← hW0]; exact (((Below.refl _ w).alloc (Nat.le_refl _) _).alloc (by simp) _).setCell (p := ⟨w.heap.size, 3, none⟩) (Nat.le_refl _) _
    have HF0 : Hid (Fr4 W0 (w.heap.size + 1)) := by
      rw [← hW0]
      have := Fr4.new (w.alloc (.cells #[.int .i64 v, .int .u32 (len : Int), .int .i64 (sz : Int), .iface x (.agg #[])] 131))
      rw [show (w.alloc (.cells #[.int .i64 v, .int .u32 (len : Int), .int .i64 (sz : Int), .iface x (.agg #[])] 131)).heap.size = w.heap.size + 1 by simp] at this
      exact this.off (by omega) _
    have HH0 : Hid (HC W0 w.heap.size v len sz 98) := by
      rw [← hW0]
      have h := (HC.new w v len sz x).on ((Below.refl _ _).alloc (Nat.le_refl _) (.cells #[.int .i64 0, .int .u32 0, .int .i64 0, .nilIface] 131))
      exact ⟨(Rp.cell_set_ne (by decide)).trans h.h0, (Rp.cell_set_ne (by decide)).trans h.h1, (Rp.cell_set_ne (by decide)).trans h.h2, Rp.cell_set_eq h.h3⟩
    have hf0 : ∀ i, W0.frozen? ⟨w.heap.size, i, none⟩ = false := fun i => by rw [← hW0]; simp
    go_wp2_with (go_at_call 109; refine StopV.out ?_)
    refine ⟨Calls.mono (c32 _) ?_⟩
    rintro e W1 ⟨rfl, hb1⟩
    obtain ⟨Wh, hWh⟩ : ∃ Wh, W1.alloc (.cells #[.int .u32 e0, .int .u32 e1, .int .i64 e2, .string e3, .int .i64 e4, .int .i64 e5] 58) = Wh := ⟨_, rfl⟩
    have hbh : Below W0.heap.size W0 Wh := by rw [← hWh]; exact hb1.alloc hb1.size _
    have HHh : Hid (HC Wh w.heap.size v len sz 98) := HH0.out.on hbh
    have HFh : Hid (Fr4 Wh (w.heap.size + 1)) := HF0.out.on hbh
    have hBh : Below w.heap.size w Wh := HB0.out.trans (hbh.mono HB0.out.size)
    have hE : Wh.cell? ⟨W1.heap.size, 2, none⟩ = some (.int .i64 e2) := by rw [← hWh]; simp
    have g0 : Wh.frozen? ⟨w.heap.size, 0, none⟩ = false := (hbh.frozen (p := ⟨w.heap.size, 0, none⟩) (show w.heap.size < _ from Rp.cell_lt HH0.out.h0)).trans (hf0 0)
    have n1 : w.heap.size ≠ w.heap.size + 1 := by omega
    obtain ⟨x0, x1, x2, x3⟩ := HHh.out
    clear hW0 HB0 HF0 HH0 hf0 hb1 hbh
    have HF4 : Hid (Fr4 (Wh.setCell ⟨w.heap.size, 0, none⟩ (.int .i64 e2)) (w.heap.size + 1)) := HFh.out.off n1 _
    have HH4 : Hid (HC (Wh.setCell ⟨w.heap.size, 0, none⟩ (.int .i64 e2)) w.heap.size e2 len sz 98) := HHh.out.setV e2
    have hB4 : Below w.heap.size w (Wh.setCell ⟨w.heap.size, 0, none⟩ (.int .i64 e2)) := hBh.setCell (p := ⟨w.heap.size, 0, none⟩) (Nat.le_refl _) _
    obtain ⟨W4, hW4⟩ : ∃ W4, Wh.setCell ⟨w.heap.size, 0, none⟩ (.int .i64 e2) = W4 := ⟨_, rfl⟩
    rw [hW4] at HF4 HH4 hB4
    obtain ⟨t0, t1, t2, t3⟩ := HH4.out
    obtain ⟨f0, f1, f2, f3, ff⟩ := HF4.out
    obtain ⟨u0, u1, u2, u3⟩ := Fr4.fill ⟨f0, f1, f2, f3, ff⟩ (.int .i64 e2) (.int .u32 (len : Int)) (.int .i64 (sz : Int)) (.iface 98 (.agg #[]))
    go_wp2
    refine bodyPost_ret (v := .agg #[.int .i64 R, .int .u32 (len : Int), .int .i64 (sz : Int), .iface 98 (.agg #[])]) (by simp only [results, Tryz.results255]; simp [go_sem, u0, u1, u2, u3, HV.out]) rfl ⟨rfl, ?_⟩
    exact below_fill hB4 (by omega) _ _ _ _
  | false =>
    by_cases hu : len = und
    · have b1 : ((len : Int) == 4294967295) = true := by rw [hu]; rfl
      have HV : Hid (R = 18) := by show _ = _; rw [← HR.out, if_neg (by decide), if_pos hu]
      clear HR hu
      go_enter Tryz.func255, Tryz.ntmps255
      obtain ⟨W0, hW0⟩ : ∃ W0, ((w.alloc (.cells #[.int .i64 v, .int .u32 (len : Int), .int .i64 (sz : Int), .iface x (.agg #[])] 131)).alloc (.cells #[.int .i64 0, .int .u32 0, .int .i64 0, .nilIface] 131)).setCell ⟨w.heap.size, 3, none⟩ (.iface 98 (.agg #[])) = W0 := ⟨_, rfl⟩
      have HB0 : Hid (Below w.heap.size w W0) := by rw [← hW0]; exact (((Below.refl _ w).alloc (Nat.le_refl _) _).alloc (by simp) _).setCell (p := ⟨w.heap.size, 3, none⟩) (Nat.le_refl _) _
      have HF0 : Hid (Fr4 W0 (w.heap.size + 1)) := by
        rw [← hW0]
        have := Fr4.new (w.alloc (.cells #[.int .i64 v, .int .u32 (len : Int), .int .i64 (sz : Int), .iface x (.agg #[])] 131))
        rw [show (w.alloc (.cells #[.int .i64 v, .int .u32 (len : Int), .int .i64 (sz : Int), .iface x (.agg #[])] 131)).heap.size = w.heap.size + 1 by simp] at this
        exact this.off (by omega) _
      have HH0 : Hid (HC W0 w.heap.size v len sz 98) := by
        rw [← hW0]
        have h := (HC.new w v len sz x).on ((Below.refl _ _).alloc (Nat.le_refl _) (.cells #[.int .i64 0, .int .u32 0, .int .i64 0, .nilIface] 131))
        exact ⟨(Rp.cell_set_ne (by decide)).trans h.h0, (Rp.cell_set_ne (by decide)).trans h.h1, (Rp.cell_set_ne (by decide)).trans h.h2, Rp.cell_set_eq h.h3⟩
      have hf0 : ∀ i, W0.frozen? ⟨w.heap.size, i, none⟩ = false := fun i => by rw [← hW0]; simp
      go_wp2_with (go_at_call 109; refine StopV.out ?_)
      refine ⟨Calls.mono (c32 _) ?_⟩
      rintro e W1 ⟨rfl, hb1⟩
      obtain ⟨Wh, hWh⟩ : ∃ Wh, W1.alloc (.cells #[.int .u32 e0, .int .u32 e1, .int .i64 e2, .string e3, .int .i64 e4, .int .i64 e5] 58) = Wh := ⟨_, rfl⟩
      have hbh : Below W0.heap.size W0 Wh := by rw [← hWh]; exact hb1.alloc hb1.size _
      have HHh : Hid (HC Wh w.heap.size v len sz 98) := HH0.out.on hbh
      have HFh : Hid (Fr4 Wh (w.heap.size + 1)) := HF0.out.on hbh
      have hBh : Below w.heap.size w Wh := HB0.out.trans (hbh.mono HB0.out.size)
      have hE : Wh.cell? ⟨W1.heap.size, 2, none⟩ = some (.int .i64 e2) := by rw [← hWh]; simp
      have g0 : Wh.frozen? ⟨w.heap.size, 0, none⟩ = false := (hbh.frozen (p := ⟨w.heap.size, 0, none⟩) (show w.heap.size < _ from Rp.cell_lt HH0.out.h0)).trans (hf0 0)
      have n1 : w.heap.size ≠ w.heap.size + 1 := by omega
      obtain ⟨x0, x1, x2, x3⟩ := HHh.out
      clear hW0 HB0 HF0 HH0 hf0 hb1 hbh
      have HF4 : Hid (Fr4 (Wh.setCell ⟨w.heap.size, 0, none⟩ (.int .i64 18)) (w.heap.size + 1)) := HFh.out.off n1 _
      have HH4 : Hid (HC (Wh.setCell ⟨w.heap.size, 0, none⟩ (.int .i64 18)) w.heap.size 18 len sz 98) := HHh.out.setV 18
      have hB4 : Below w.heap.size w (Wh.setCell ⟨w.heap.size, 0, none⟩ (.int .i64 18)) := hBh.setCell (p := ⟨w.heap.size, 0, none⟩) (Nat.le_refl _) _
      obtain ⟨W4, hW4⟩ : ∃ W4, Wh.setCell ⟨w.heap.size, 0, none⟩ (.int .i64 18) = W4 := ⟨_, rfl⟩
      rw [hW4] at HF4 HH4 hB4
      obtain ⟨t0, t1, t2, t3⟩ := HH4.out
      obtain ⟨f0, f1, f2, f3, ff⟩ := HF4.out
      obtain ⟨u0, u1, u2, u3⟩ := Fr4.fill ⟨f0, f1, f2, f3, ff⟩ (.int .i64 18) (.int .u32 (len : Int)) (.int .i64 (sz : Int)) (.iface 98 (.agg #[]))
      go_wp2
      refine bodyPost_ret (v := .agg #[.int .i64 R, .int .u32 (len : Int), .int .i64 (sz : Int), .iface 98 (.agg #[])]) (by simp only [results, Tryz.results255]; simp [go_sem, u0, u1, u2, u3, HV.out]) rfl ⟨rfl, ?_⟩
      exact below_fill hB4 (by omega) _ _ _ _
    · have b1 : ((len : Int) == 4294967295) = false := beq_eq_false_iff_ne.2 (by unfold und at hu; omega)
      have HV : Hid (R = v) := by show _ = _; rw [← HR.out, if_neg (by decide), if_neg hu]
      clear HR hu
      go_enter Tryz.func255, Tryz.ntmps255
      obtain ⟨W0, hW0⟩ : ∃ W0, ((w.alloc (.cells #[.int .i64 v, .int .u32 (len : Int), .int .i64 (sz : Int), .iface x (.agg #[])] 131)).alloc (.cells #[.int .i64 0, .int .u32 0, .int .i64 0, .nilIface] 131)).setCell ⟨w.heap.size, 3, none⟩ (.iface 98 (.agg #[])) = W0 := ⟨_, rfl⟩
      have HB0 : Hid (Below w.heap.size w W0) := by rw [← hW0]; exact (((Below.refl _ w).alloc (Nat.le_refl _) _).alloc (by simp) _).setCell (p := ⟨w.heap.size, 3, none⟩) (Nat.le_refl _) _
      have HF0 : Hid (Fr4 W0 (w.heap.size + 1)) := by
        rw [← hW0]
        have := Fr4.new (w.alloc (.cells #[.int .i64 v, .int .u32 (len : Int), .int .i64 (sz : Int), .iface x (.agg #[])] 131))
        rw [show (w.alloc (.cells #[.int .i64 v, .int .u32 (len : Int), .int .i64 (sz : Int), .iface x (.agg #[])] 131)).heap.size = w.heap.size + 1 by simp] at this
        exact this.off (by omega) _
      have HH0 : Hid (HC W0 w.heap.size v len sz 98) := by
        rw [← hW0]
        have h := (HC.new w v len sz x).on ((Below.refl _ _).alloc (Nat.le_refl _) (.cells #[.int .i64 0, .int .u32 0, .int .i64 0, .nilIface] 131))
        exact ⟨(Rp.cell_set_ne (by decide)).trans h.h0, (Rp.cell_set_ne (by decide)).trans h.h1, (Rp.cell_set_ne (by decide)).trans h.h2, Rp.cell_set_eq h.h3⟩
      have hf0 : ∀ i, W0.frozen? ⟨w.heap.size, i, none⟩ = false := fun i => by rw [← hW0]; simp
      go_wp2_with (go_at_call 109; refine StopV.out ?_)
      refine ⟨Calls.mono (c32 _) ?_⟩
      rintro e W1 ⟨rfl, hb1⟩
      obtain ⟨Wh, hWh⟩ : ∃ Wh, W1.alloc (.cells #[.int .u32 e0, .int .u32 e1, .int .i64 e2, .string e3, .int .i64 e4, .int .i64 e5] 58) = Wh := ⟨_, rfl⟩
      have hbh : Below W0.heap.size W0 Wh := by rw [← hWh]; exact hb1.alloc hb1.size _
      have HHh : Hid (HC Wh w.heap.size v len sz 98) := HH0.out.on hbh
      have HFh : Hid (Fr4 Wh (w.heap.size + 1)) := HF0.out.on hbh
      have hBh : Below w.heap.size w Wh := HB0.out.trans (hbh.mono HB0.out.size)
      have hE : Wh.cell? ⟨W1.heap.size, 2, none⟩ = some (.int .i64 e2) := by rw [← hWh]; simp
      have g0 : Wh.frozen? ⟨w.heap.size, 0, none⟩ = false := (hbh.frozen (p := ⟨w.heap.size, 0, none⟩) (show w.heap.size < _ from Rp.cell_lt HH0.out.h0)).trans (hf0 0)
      have n1 : w.heap.size ≠ w.heap.size + 1 := by omega
      obtain ⟨x0, x1, x2, x3⟩ := HHh.out
      clear hW0 HB0 HF0 HH0 hf0 hb1 hbh
      obtain ⟨f0, f1, f2, f3, ff⟩ := HFh.out
      obtain ⟨u0, u1, u2, u3⟩ := Fr4.fill ⟨f0, f1, f2, f3, ff⟩ (.int .i64 v) (.int .u32 (len : Int)) (.int .i64 (sz : Int)) (.iface 98 (.agg #[]))
      go_wp2
      refine bodyPost_ret (v := .agg #[.int .i64 R, .int .u32 (len : Int), .int .i64 (sz : Int), .iface 98 (.agg #[])]) (by simp only [results, Tryz.results255]; simp [go_sem, u0, u1, u2, u3, HV.out]) rfl ⟨rfl, ?_⟩
      exact below_fill hBh (by omega) _ _ _ _

end Go.Proofs.YtfoodjhffehgpaaGreatDoor
end
