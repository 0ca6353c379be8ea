import Derived.Test.YtoikdpjjcnmgeaaGreatDoorXe
/-
  DERIVED. The document's heads, read without letters.
-/
namespace Go.Proofs.YtoikdpjjcnmgeaaGreatDoor
open Go Go.Proofs Go.RowKit
open Wk (Nd nds)
open Go.Sort

/-- A head lies there. -/
structure DH (W : World) (g : Nat) (v : Int) (fr len : Nat) (s : Bool) : Prop where
  c0 : W.cell? ⟨g, 0, none⟩ = some (.int .i64 v)
  c1 : W.cell? ⟨g, 1, none⟩ = some (.int .i64 (fr : Int))
  c2 : W.cell? ⟨g, 2, none⟩ = some (.int .u64 (len : Int))
  c3 : W.cell? ⟨g, 3, none⟩ = some (.bool s)
  fz : ∀ i, W.frozen? ⟨g, i, none⟩ = false
theorem DH.on {W W' : World} {g : Nat} {v : Int} {fr len : Nat} {s : Bool} (h : DH W g v fr len s) (hb : Below W.heap.size W W') : DH W' g v fr len s :=
  ⟨(hb.cell (Rp.cell_lt h.c0)).trans h.c0, (hb.cell (Rp.cell_lt h.c1)).trans h.c1, (hb.cell (Rp.cell_lt h.c2)).trans h.c2, (hb.cell (Rp.cell_lt h.c3)).trans h.c3, fun i => (hb.frozen (p := ⟨g, i, none⟩) (show g < _ from Rp.cell_lt h.c0)).trans (h.fz i)⟩
theorem DH.new (W : World) (v : Int) (fr len : Nat) (s : Bool) : DH (W.alloc (.cells #[.int .i64 v, .int .i64 (fr : Int), .int .u64 (len : Int), .bool s] 124)) W.heap.size v fr len s := ⟨by simp, by simp, by simp, by simp, fun i => by simp⟩
theorem DH.off {W : World} {g b i : Nat} {v : Int} {fr len : Nat} {s : Bool} (h : DH W g v fr len s) (hne : b ≠ g) (u : Value) : DH (W.setCell ⟨b, i, none⟩ u) g v fr len s :=
  ⟨(Rp.cell_set_off hne).trans h.c0, (Rp.cell_set_off hne).trans h.c1, (Rp.cell_set_off hne).trans h.c2, (Rp.cell_set_off hne).trans h.c3, fun j => by simpa using h.fz j⟩
theorem DH.setV {W : World} {g : Nat} {v : Int} {fr len : Nat} {s : Bool} (h : DH W g v fr len s) (u : Int) : DH (W.setCell ⟨g, 0, none⟩ (.int .i64 u)) g u fr len s :=
  ⟨Rp.cell_set_eq h.c0, (Rp.cell_set_ne (by decide)).trans h.c1, (Rp.cell_set_ne (by decide)).trans h.c2, (Rp.cell_set_ne (by decide)).trans h.c3, fun j => by simpa using h.fz j⟩
theorem DH.fill {W : World} {g : Nat} {v : Int} {fr len : Nat} {s : Bool} (h : DH W g v fr len s) (v2 : Int) (fr2 len2 : Nat) (s2 : Bool) :
    DH ((((W.setCell ⟨g, 0, none⟩ (.int .i64 v2)).setCell ⟨g, 1, none⟩ (.int .i64 (fr2 : Int))).setCell ⟨g, 2, none⟩ (.int .u64 (len2 : Int))).setCell ⟨g, 3, none⟩ (.bool s2)) g v2 fr2 len2 s2 :=
  ⟨(Rp.cell_set_ne (by decide)).trans ((Rp.cell_set_ne (by decide)).trans ((Rp.cell_set_ne (by decide)).trans (Rp.cell_set_eq h.c0))), (Rp.cell_set_ne (by decide)).trans ((Rp.cell_set_ne (by decide)).trans (Rp.cell_set_eq ((Rp.cell_set_ne (by decide)).trans h.c1))), (Rp.cell_set_ne (by decide)).trans (Rp.cell_set_eq ((Rp.cell_set_ne (by decide)).trans ((Rp.cell_set_ne (by decide)).trans h.c2))), Rp.cell_set_eq ((Rp.cell_set_ne (by decide)).trans ((Rp.cell_set_ne (by decide)).trans ((Rp.cell_set_ne (by decide)).trans h.c3))), fun j => by simpa using h.fz j⟩
/-- A head's value. -/
def dhV (v : Int) (fr len : Nat) (s : Bool) : Value := .agg #[.int .i64 v, .int .i64 (fr : Int), .int .u64 (len : Int), .bool s]

set_option maxRecDepth 100000 in
set_option maxHeartbeats 4000000 in
theorem rimp_any (w : World) (rb b off n cap k : Nat) (ys : List UInt8) (hn : k + 8 ≤ n) (hs : n ≤ 1048576) (c0 : w.cell? ⟨rb, 0, none⟩ = some (.slice (some ⟨b, off, none⟩) n cap)) (hb : ∀ j, j < n → w.cell? ⟨b, off + j, none⟩ = some (.int .u8 (gB ys j : Int))) :
    Calls Tryz.prog 66 #[.pointer (some ⟨rb, 0, none⟩), .int .i64 (k : Int)] w fun e w' => e = .returned (dhV (hdI ys k).v (k + 8) (hdI ys k).len true) ∧ Below w.heap.size w w' := by
  have ht := tagS_lt ys k
  have cT : Hid (∀ W, Below w.heap.size w W → Calls Tryz.prog 62 #[.pointer (some ⟨rb, 0, none⟩), .int .i64 (k : Int)] W fun e w' => e = .returned (.int .u32 (tagS ys k : Int)) ∧ Below W.heap.size W w') := fun W hW => rtag_any W rb b off n cap k ys (by omega) hs ((hW.cell (Rp.cell_lt c0)).trans c0) (fun j hj => (hW.cell (Rp.cell_lt (hb j hj))).trans (hb j hj))
  have cD : Hid (∀ W, Calls Tryz.prog 106 #[.int .u32 (tagS ys k : Int)] W fun e w' => e = .returned (.int .i64 (dflt (tagS ys k))) ∧ Below W.heap.size W w') := fun W => rdefault_any W (tagS ys k) ht
  have cN : Hid (∀ W, Below w.heap.size w W → Calls Tryz.prog 63 #[.pointer (some ⟨rb, 0, none⟩), .int .i64 ((k : Int) + 4)] W fun e w' => e = .returned (.int .u64 (numS ys (k + 4) : Int)) ∧ Below W.heap.size W w') := fun W hW => by
    have := ru32_any W rb b off n cap (k + 4) ys (by omega) hs ((hW.cell (Rp.cell_lt c0)).trans c0) (fun j hj => (hW.cell (Rp.cell_lt (hb j hj))).trans (hb j hj))
    rw [show ((k + 4 : Nat) : Int) = (k : Int) + 4 by omega] at this
    exact this
  have cF : Hid (∀ W, Calls Tryz.prog 21 #[.int .u32 (tagS ys k : Int)] W fun e w' => ∃ a0 a1 a2 a3 a4 a5, e = .returned (.tuple #[.agg #[.int .u32 a0, .int .u32 a1, .int .i64 a2, .string a3, .int .i64 a4, .int .i64 a5], .bool (kn (tagS ys k)).isSome]) ∧ Below W.heap.size W w') := fun W => (Tb.rfind_any W (tagS ys k) ht).mono (by
    rintro e w' ⟨rfl, h⟩
    exact ⟨_, _, _, _, _, _, rfl, h⟩)
  obtain ⟨R, hR⟩ : ∃ R, (hdI ys k).v = R := ⟨_, rfl⟩
  have HR : Hid ((if numS ys (k + 4) = und ∧ (kn (tagS ys k)).isSome = false ∧ tagS ys k % 65536 ≠ 0 then 18 else dflt (tagS ys k)) = R) := hR
  have e2 : (hdI ys k).len = numS ys (k + 4) := rfl
  rw [hR, e2]
  clear hR e2
  have hZl := numS_lt ys (k + 4)
  have hkk : k ≤ 1048576 := by omega
  generalize tagS ys k = T at cT cD cF HR ht
  generalize numS ys (k + 4) = Z at cN HR hZl ⊢
  generalize dflt T = D at cD HR
  generalize (kn T).isSome = K at cF HR
  have band : bits .and .u32 (T : Int) 65535 = ((T % 65536 : Nat) : Int) := by
    have := u32_and_nat T 65535 ht (by decide)
    rw [show ((65535 : Nat) : Int) = 65535 from rfl] at this
    rw [this, show (65535 : Nat) = 2 ^ 16 - 1 from rfl, Nat.and_two_pow_sub_one_eq_mod]
  generalize T % 65536 = d at band HR
  clear c0 hb hn hs
  unfold dhV
  obtain ⟨W0, hW0⟩ : ∃ W0, w.alloc (.cells #[.int .i64 0, .int .i64 0, .int .u64 0, .bool false] 124) = W0 := ⟨_, rfl⟩
  have hb0 : Below w.heap.size w W0 := by rw [← hW0]; exact (Below.refl _ _).alloc (Nat.le_refl _) _
  have HE0 : Hid (DH W0 w.heap.size 0 0 0 false) := by rw [← hW0]; exact DH.new w 0 0 0 false
  cases K with
  | true =>
    have HV : Hid (R = D) := by show _ = _; rw [← HR.out, if_neg (fun h => by cases h.2.1)]
    clear HR
    go_enter Tryz.func66, Tryz.ntmps66
    go_wp2_with (go_at_call 62; refine StopV.out ?_)
    refine ⟨Calls.mono (cT.out _ hb0) ?_⟩
    rintro e W1 ⟨rfl, hb1⟩
    have hB1 : Below w.heap.size w W1 := hb0.trans (hb1.mono hb0.size)
    have HE1 : Hid (DH W1 w.heap.size 0 0 0 false) := HE0.out.on hb1
    clear hb1 HE0
    go_wp2_with (go_at_call 106; refine StopV.out ?_)
    refine ⟨Calls.mono (cD.out _) ?_⟩
    rintro e W2 ⟨rfl, hb2⟩
    have hB2 : Below w.heap.size w W2 := hB1.trans (hb2.mono hB1.size)
    have HE2 : Hid (DH W2 w.heap.size 0 0 0 false) := HE1.out.on hb2
    clear hb2 HE1 hB1
    go_wp2_with (go_at_call 63; refine StopV.out ?_)
    refine ⟨Calls.mono (cN.out _ hB2) ?_⟩
    rintro e W3 ⟨rfl, hb3⟩
    have hB3 : Below w.heap.size w W3 := hB2.trans (hb3.mono hB2.size)
    have HE3 : Hid (DH W3 w.heap.size 0 0 0 false) := HE2.out.on hb3
    clear hb3 HE2 hB2
    obtain ⟨Wh, hWh⟩ : ∃ Wh, W3.alloc (.cells #[.int .i64 D, .int .i64 ((k : Int) + 8), .int .u64 (Z : Int), .bool true] 124) = Wh := ⟨_, rfl⟩
    have hbh : Below W3.heap.size W3 Wh := by rw [← hWh]; exact (Below.refl _ _).alloc (Nat.le_refl _) _
    have HHh : Hid (DH Wh W3.heap.size D (k + 8) Z true) := by rw [← hWh]; exact DH.new W3 D (k + 8) Z true
    have hBh : Below w.heap.size w Wh := hB3.trans (hbh.mono hB3.size)
    have HEh : Hid (DH Wh w.heap.size 0 0 0 false) := HE3.out.on hbh
    have hws : w.heap.size < W3.heap.size := Rp.cell_lt HE3.out.c0
    go_wp2_with (go_at_call 21; refine StopV.out ?_)
    refine ⟨Calls.mono (cF.out _) ?_⟩
    rintro e W4 ⟨a0, a1, a2, a3, a4, a5, rfl, hb4⟩
    have HX : Hid (Below Wh.heap.size Wh (W4.alloc (.cells #[.int .u32 a0, .int .u32 a1, .int .i64 a2, .string a3, .int .i64 a4, .int .i64 a5] 50))) := hb4.alloc hb4.size _
    obtain ⟨W5, hW5⟩ : ∃ W5, W4.alloc (.cells #[.int .u32 a0, .int .u32 a1, .int .i64 a2, .string a3, .int .i64 a4, .int .i64 a5] 50) = W5 := ⟨_, rfl⟩
    rw [hW5] at HX
    have hB5 : Below w.heap.size w W5 := hBh.trans (HX.out.mono hBh.size)
    have HH5 : Hid (DH W5 W3.heap.size D (k + 8) Z true) := HHh.out.on HX.out
    have HE5 : Hid (DH W5 w.heap.size 0 0 0 false) := HEh.out.on HX.out
    clear hb4 HX HHh HEh hBh hbh hB3 HE3
    obtain ⟨x0, x1, x2, x3, xf⟩ := HH5.out
    obtain ⟨f0, f1, f2, f3, ff⟩ := HE5.out
    obtain ⟨u0, u1, u2, u3, uf⟩ := DH.fill HE5.out D (k + 8) Z true
    rw [show ((k + 8 : Nat) : Int) = (k : Int) + 8 by omega] at u0 u1 u2 u3
    go_wp2
    refine bodyPost_ret (v := .agg #[.int .i64 R, .int .i64 ((k + 8 : Nat) : Int), .int .u64 (Z : Int), .bool true]) (by simp only [results, Tryz.results66]; simp [go_sem, u0, u1, u2, u3, HV.out]) rfl ⟨rfl, ?_⟩
    exact below_fill hB5 (Nat.le_refl _) _ _ _ _
  | false =>
    by_cases hG : d = 0
    · have b0 : ((d : Int) != 0) = false := by rw [hG]; rfl
      have HV : Hid (R = D) := by show _ = _; rw [← HR.out, if_neg (fun h => h.2.2 hG)]
      clear HR hG
      go_enter Tryz.func66, Tryz.ntmps66
      go_wp2_with (go_at_call 62; refine StopV.out ?_)
      refine ⟨Calls.mono (cT.out _ hb0) ?_⟩
      rintro e W1 ⟨rfl, hb1⟩
      have hB1 : Below w.heap.size w W1 := hb0.trans (hb1.mono hb0.size)
      have HE1 : Hid (DH W1 w.heap.size 0 0 0 false) := HE0.out.on hb1
      clear hb1 HE0
      go_wp2_with (go_at_call 106; refine StopV.out ?_)
      refine ⟨Calls.mono (cD.out _) ?_⟩
      rintro e W2 ⟨rfl, hb2⟩
      have hB2 : Below w.heap.size w W2 := hB1.trans (hb2.mono hB1.size)
      have HE2 : Hid (DH W2 w.heap.size 0 0 0 false) := HE1.out.on hb2
      clear hb2 HE1 hB1
      go_wp2_with (go_at_call 63; refine StopV.out ?_)
      refine ⟨Calls.mono (cN.out _ hB2) ?_⟩
      rintro e W3 ⟨rfl, hb3⟩
      have hB3 : Below w.heap.size w W3 := hB2.trans (hb3.mono hB2.size)
      have HE3 : Hid (DH W3 w.heap.size 0 0 0 false) := HE2.out.on hb3
      clear hb3 HE2 hB2
      obtain ⟨Wh, hWh⟩ : ∃ Wh, W3.alloc (.cells #[.int .i64 D, .int .i64 ((k : Int) + 8), .int .u64 (Z : Int), .bool true] 124) = Wh := ⟨_, rfl⟩
      have hbh : Below W3.heap.size W3 Wh := by rw [← hWh]; exact (Below.refl _ _).alloc (Nat.le_refl _) _
      have HHh : Hid (DH Wh W3.heap.size D (k + 8) Z true) := by rw [← hWh]; exact DH.new W3 D (k + 8) Z true
      have hBh : Below w.heap.size w Wh := hB3.trans (hbh.mono hB3.size)
      have HEh : Hid (DH Wh w.heap.size 0 0 0 false) := HE3.out.on hbh
      have hws : w.heap.size < W3.heap.size := Rp.cell_lt HE3.out.c0
      go_wp2_with (go_at_call 21; refine StopV.out ?_)
      refine ⟨Calls.mono (cF.out _) ?_⟩
      rintro e W4 ⟨a0, a1, a2, a3, a4, a5, rfl, hb4⟩
      have HX : Hid (Below Wh.heap.size Wh (W4.alloc (.cells #[.int .u32 a0, .int .u32 a1, .int .i64 a2, .string a3, .int .i64 a4, .int .i64 a5] 50))) := hb4.alloc hb4.size _
      obtain ⟨W5, hW5⟩ : ∃ W5, W4.alloc (.cells #[.int .u32 a0, .int .u32 a1, .int .i64 a2, .string a3, .int .i64 a4, .int .i64 a5] 50) = W5 := ⟨_, rfl⟩
      rw [hW5] at HX
      have hB5 : Below w.heap.size w W5 := hBh.trans (HX.out.mono hBh.size)
      have HH5 : Hid (DH W5 W3.heap.size D (k + 8) Z true) := HHh.out.on HX.out
      have HE5 : Hid (DH W5 w.heap.size 0 0 0 false) := HEh.out.on HX.out
      clear hb4 HX HHh HEh hBh hbh hB3 HE3
      obtain ⟨x0, x1, x2, x3, xf⟩ := HH5.out
      obtain ⟨f0, f1, f2, f3, ff⟩ := HE5.out
      obtain ⟨u0, u1, u2, u3, uf⟩ := DH.fill HE5.out D (k + 8) Z true
      rw [show ((k + 8 : Nat) : Int) = (k : Int) + 8 by omega] at u0 u1 u2 u3
      go_wp2
      refine bodyPost_ret (v := .agg #[.int .i64 R, .int .i64 ((k + 8 : Nat) : Int), .int .u64 (Z : Int), .bool true]) (by simp only [results, Tryz.results66]; simp [go_sem, u0, u1, u2, u3, HV.out]) rfl ⟨rfl, ?_⟩
      exact below_fill hB5 (Nat.le_refl _) _ _ _ _
    have b0 : ((d : Int) != 0) = true := bne_iff_ne.2 (by omega)
    by_cases hu : Z = und
    · have b1 : ((Z : Int) == 4294967295) = true := by rw [hu]; rfl
      have HV : Hid (R = 18) := by show _ = _; rw [← HR.out, if_pos ⟨hu, rfl, hG⟩]
      clear HR hG hu
      go_enter Tryz.func66, Tryz.ntmps66
      go_wp2_with (go_at_call 62; refine StopV.out ?_)
      refine ⟨Calls.mono (cT.out _ hb0) ?_⟩
      rintro e W1 ⟨rfl, hb1⟩
      have hB1 : Below w.heap.size w W1 := hb0.trans (hb1.mono hb0.size)
      have HE1 : Hid (DH W1 w.heap.size 0 0 0 false) := HE0.out.on hb1
      clear hb1 HE0
      go_wp2_with (go_at_call 106; refine StopV.out ?_)
      refine ⟨Calls.mono (cD.out _) ?_⟩
      rintro e W2 ⟨rfl, hb2⟩
      have hB2 : Below w.heap.size w W2 := hB1.trans (hb2.mono hB1.size)
      have HE2 : Hid (DH W2 w.heap.size 0 0 0 false) := HE1.out.on hb2
      clear hb2 HE1 hB1
      go_wp2_with (go_at_call 63; refine StopV.out ?_)
      refine ⟨Calls.mono (cN.out _ hB2) ?_⟩
      rintro e W3 ⟨rfl, hb3⟩
      have hB3 : Below w.heap.size w W3 := hB2.trans (hb3.mono hB2.size)
      have HE3 : Hid (DH W3 w.heap.size 0 0 0 false) := HE2.out.on hb3
      clear hb3 HE2 hB2
      obtain ⟨Wh, hWh⟩ : ∃ Wh, W3.alloc (.cells #[.int .i64 D, .int .i64 ((k : Int) + 8), .int .u64 (Z : Int), .bool true] 124) = Wh := ⟨_, rfl⟩
      have hbh : Below W3.heap.size W3 Wh := by rw [← hWh]; exact (Below.refl _ _).alloc (Nat.le_refl _) _
      have HHh : Hid (DH Wh W3.heap.size D (k + 8) Z true) := by rw [← hWh]; exact DH.new W3 D (k + 8) Z true
      have hBh : Below w.heap.size w Wh := hB3.trans (hbh.mono hB3.size)
      have HEh : Hid (DH Wh w.heap.size 0 0 0 false) := HE3.out.on hbh
      have hws : w.heap.size < W3.heap.size := Rp.cell_lt HE3.out.c0
      go_wp2_with (go_at_call 21; refine StopV.out ?_)
      refine ⟨Calls.mono (cF.out _) ?_⟩
      rintro e W4 ⟨a0, a1, a2, a3, a4, a5, rfl, hb4⟩
      have HX : Hid (Below Wh.heap.size Wh (W4.alloc (.cells #[.int .u32 a0, .int .u32 a1, .int .i64 a2, .string a3, .int .i64 a4, .int .i64 a5] 50))) := hb4.alloc hb4.size _
      obtain ⟨W5, hW5⟩ : ∃ W5, W4.alloc (.cells #[.int .u32 a0, .int .u32 a1, .int .i64 a2, .string a3, .int .i64 a4, .int .i64 a5] 50) = W5 := ⟨_, rfl⟩
      rw [hW5] at HX
      have hB5 : Below w.heap.size w W5 := hBh.trans (HX.out.mono hBh.size)
      have HH5 : Hid (DH W5 W3.heap.size D (k + 8) Z true) := HHh.out.on HX.out
      have HE5 : Hid (DH W5 w.heap.size 0 0 0 false) := HEh.out.on HX.out
      clear hb4 HX HHh HEh hBh hbh hB3 HE3
      obtain ⟨x0, x1, x2, x3, xf⟩ := HH5.out
      have g0 := xf 0
      obtain ⟨W6, hW6⟩ : ∃ W6, W5.setCell ⟨W3.heap.size, 0, none⟩ (.int .i64 18) = W6 := ⟨_, rfl⟩
      have HH6 : Hid (DH W6 W3.heap.size 18 (k + 8) Z true) := by rw [← hW6]; exact HH5.out.setV 18
      have HE6 : Hid (DH W6 w.heap.size 0 0 0 false) := by rw [← hW6]; exact HE5.out.off (by omega) _
      have hB6 : Below w.heap.size w W6 := by rw [← hW6]; exact hB5.setCell (p := ⟨W3.heap.size, 0, none⟩) (show w.heap.size ≤ W3.heap.size by omega) _
      obtain ⟨t0, t1, t2, t3, tf⟩ := HH6.out
      obtain ⟨f0, f1, f2, f3, ff⟩ := HE6.out
      obtain ⟨u0, u1, u2, u3, uf⟩ := DH.fill HE6.out 18 (k + 8) Z true
      rw [show ((k + 8 : Nat) : Int) = (k : Int) + 8 by omega] at u0 u1 u2 u3
      go_wp2
      refine bodyPost_ret (v := .agg #[.int .i64 R, .int .i64 ((k + 8 : Nat) : Int), .int .u64 (Z : Int), .bool true]) (by simp only [results, Tryz.results66]; simp [go_sem, u0, u1, u2, u3, HV.out]) rfl ⟨rfl, ?_⟩
      exact below_fill hB6 (Nat.le_refl _) _ _ _ _
    · have b1 : ((Z : Int) == 4294967295) = false := beq_eq_false_iff_ne.2 (by unfold und at hu; omega)
      have HV : Hid (R = D) := by show _ = _; rw [← HR.out, if_neg (fun h => hu h.1)]
      clear HR hG hu
      go_enter Tryz.func66, Tryz.ntmps66
      go_wp2_with (go_at_call 62; refine StopV.out ?_)
      refine ⟨Calls.mono (cT.out _ hb0) ?_⟩
      rintro e W1 ⟨rfl, hb1⟩
      have hB1 : Below w.heap.size w W1 := hb0.trans (hb1.mono hb0.size)
      have HE1 : Hid (DH W1 w.heap.size 0 0 0 false) := HE0.out.on hb1
      clear hb1 HE0
      go_wp2_with (go_at_call 106; refine StopV.out ?_)
      refine ⟨Calls.mono (cD.out _) ?_⟩
      rintro e W2 ⟨rfl, hb2⟩
      have hB2 : Below w.heap.size w W2 := hB1.trans (hb2.mono hB1.size)
      have HE2 : Hid (DH W2 w.heap.size 0 0 0 false) := HE1.out.on hb2
      clear hb2 HE1 hB1
      go_wp2_with (go_at_call 63; refine StopV.out ?_)
      refine ⟨Calls.mono (cN.out _ hB2) ?_⟩
      rintro e W3 ⟨rfl, hb3⟩
      have hB3 : Below w.heap.size w W3 := hB2.trans (hb3.mono hB2.size)
      have HE3 : Hid (DH W3 w.heap.size 0 0 0 false) := HE2.out.on hb3
      clear hb3 HE2 hB2
      obtain ⟨Wh, hWh⟩ : ∃ Wh, W3.alloc (.cells #[.int .i64 D, .int .i64 ((k : Int) + 8), .int .u64 (Z : Int), .bool true] 124) = Wh := ⟨_, rfl⟩
      have hbh : Below W3.heap.size W3 Wh := by rw [← hWh]; exact (Below.refl _ _).alloc (Nat.le_refl _) _
      have HHh : Hid (DH Wh W3.heap.size D (k + 8) Z true) := by rw [← hWh]; exact DH.new W3 D (k + 8) Z true
      have hBh : Below w.heap.size w Wh := hB3.trans (hbh.mono hB3.size)
      have HEh : Hid (DH Wh w.heap.size 0 0 0 false) := HE3.out.on hbh
      have hws : w.heap.size < W3.heap.size := Rp.cell_lt HE3.out.c0
      go_wp2_with (go_at_call 21; refine StopV.out ?_)
      refine ⟨Calls.mono (cF.out _) ?_⟩
      rintro e W4 ⟨a0, a1, a2, a3, a4, a5, rfl, hb4⟩
      have HX : Hid (Below Wh.heap.size Wh (W4.alloc (.cells #[.int .u32 a0, .int .u32 a1, .int .i64 a2, .string a3, .int .i64 a4, .int .i64 a5] 50))) := hb4.alloc hb4.size _
      obtain ⟨W5, hW5⟩ : ∃ W5, W4.alloc (.cells #[.int .u32 a0, .int .u32 a1, .int .i64 a2, .string a3, .int .i64 a4, .int .i64 a5] 50) = W5 := ⟨_, rfl⟩
      rw [hW5] at HX
      have hB5 : Below w.heap.size w W5 := hBh.trans (HX.out.mono hBh.size)
      have HH5 : Hid (DH W5 W3.heap.size D (k + 8) Z true) := HHh.out.on HX.out
      have HE5 : Hid (DH W5 w.heap.size 0 0 0 false) := HEh.out.on HX.out
      clear hb4 HX HHh HEh hBh hbh hB3 HE3
      obtain ⟨x0, x1, x2, x3, xf⟩ := HH5.out
      obtain ⟨f0, f1, f2, f3, ff⟩ := HE5.out
      obtain ⟨u0, u1, u2, u3, uf⟩ := DH.fill HE5.out D (k + 8) Z true
      rw [show ((k + 8 : Nat) : Int) = (k : Int) + 8 by omega] at u0 u1 u2 u3
      go_wp2
      refine bodyPost_ret (v := .agg #[.int .i64 R, .int .i64 ((k + 8 : Nat) : Int), .int .u64 (Z : Int), .bool true]) (by simp only [results, Tryz.results66]; simp [go_sem, u0, u1, u2, u3, HV.out]) rfl ⟨rfl, ?_⟩
      exact below_fill hB5 (Nat.le_refl _) _ _ _ _
end Go.Proofs.YtoikdpjjcnmgeaaGreatDoor
