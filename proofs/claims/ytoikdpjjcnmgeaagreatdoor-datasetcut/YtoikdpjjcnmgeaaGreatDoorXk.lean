import Derived.Test.YtoikdpjjcnmgeaaGreatDoorXj
/-
  DERIVED. The document's heads, read with letters: long ones.
-/
namespace Go.Proofs.YtoikdpjjcnmgeaaGreatDoor
open Go Go.Proofs Go.RowKit
open Wk (Nd nds)
open Go.Sort

theorem bits_low16 {T : Nat} (ht : T < 4294967296) : bits .and .u32 (T : Int) 65535 = ((T % 65536 : Nat) : Int) := by
  have := u32_and_nat T 65535 ht (by decide)
  rw [show ((65535 : Nat) : Int) = 65535 from rfl] at this
  rw [this, show (65535 : Nat) = 2 ^ 16 - 1 from rfl, Nat.and_two_pow_sub_one_eq_mod]
theorem DH.setFr {W : World} {g : Nat} {v : Int} {fr len : Nat} {s : Bool} (h : DH W g v fr len s) (u : Nat) : DH (W.setCell ⟨g, 1, none⟩ (.int .i64 (u : Int))) g v u len s :=
  ⟨(Rp.cell_set_ne (by decide)).trans h.c0, Rp.cell_set_eq h.c1, (Rp.cell_set_ne (by decide)).trans h.c2, (Rp.cell_set_ne (by decide)).trans h.c3, fun j => by simpa using h.fz j⟩
theorem DH.setLen {W : World} {g : Nat} {v : Int} {fr len : Nat} {s : Bool} (h : DH W g v fr len s) (u : Nat) : DH (W.setCell ⟨g, 2, none⟩ (.int .u64 (u : Int))) g v fr u s :=
  ⟨(Rp.cell_set_ne (by decide)).trans h.c0, (Rp.cell_set_ne (by decide)).trans h.c1, Rp.cell_set_eq h.c2, (Rp.cell_set_ne (by decide)).trans h.c3, fun j => by simpa using h.fz j⟩
/-- What a head with letters is: bad, or told. -/
def ExP (base rb : Nat) (bv : Value) (w : World) (M : List Nd) (nv : Value) (k : Nat) (o : Nat ⊕ Hd) (e : Ending) (w' : World) : Prop :=
  match o with
  | .inl c => e = .returned (dhV 0 0 0 false) ∧ DBad base rb bv w' M nv (k : Int) (c : Int) ∧ Below base w w' ∧ Kq w w'
  | .inr h => e = .returned (dhV h.v (k + h.sz) h.len h.ex) ∧ Below w.heap.size w w'

set_option maxRecDepth 100000 in
set_option maxHeartbeats 16000000 in
theorem rexp_long (w : World) (base rb b off n cap k fin : Nat) (ys : List UInt8) (hyn : n = ys.length) (hn : k + 8 ≤ n) (hc : n ≤ cap) (hs : n ≤ 1048576) (M : List Nd) (nv lv : Value) (c0' : Int) (hD : DR base rb (.slice (some ⟨b, off, none⟩) n cap) w M nv lv c0') (hb : ∀ j, j < n → w.cell? ⟨b, off + j, none⟩ = some (.int .u8 (gB ys j : Int))) (hv0 : vrE ys k ≠ 0) (hlo : Rp.lo (Rp.vn (vrE ys k : Int)) = true) (hfk : k + 12 ≤ fin) (hfn : fin ≤ n) :
    Calls Tryz.prog 65 #[.pointer (some ⟨rb, 0, none⟩), .int .i64 (k : Int), .int .i64 (fin : Int)] w (ExP base rb (.slice (some ⟨b, off, none⟩) n cap) w M nv k (if mayT (tagS ys k) (vrE ys k) = false then .inl 124 else .inr (if vrE ys k = 25 then unk (tagS ys k) ⟨(vrE ys k : Int), 12, numS ys (k + 8), true⟩ else ⟨(vrE ys k : Int), 12, numS ys (k + 8), true⟩))) := by
  have c0 := hD.c0
  have HD : Hid (DR base rb (.slice (some ⟨b, off, none⟩) n cap) w M nv lv c0') := hD
  clear hD
  have hrl0 : rb < w.heap.size := Rp.cell_lt c0
  have ht := tagS_lt ys k
  have cT : Hid (∀ W, Below w.heap.size w W → Calls Tryz.prog 62 #[.pointer (some ⟨rb, 0, none⟩), .int .i64 (k : Int)] W fun e w' => e = .returned (.int .u32 (tagS ys k : Int)) ∧ Below W.heap.size W w') := fun W hW => rtag_any W rb b off n cap k ys (by omega) hs ((hW.cell (Rp.cell_lt c0)).trans c0) (fun j hj => (hW.cell (Rp.cell_lt (hb j hj))).trans (hb j hj))
  have cN : Hid (∀ W, Below w.heap.size w W → Calls Tryz.prog 63 #[.pointer (some ⟨rb, 0, none⟩), .int .i64 ((k : Int) + 8)] W fun e w' => e = .returned (.int .u64 (numS ys (k + 8) : Int)) ∧ Below W.heap.size W w') := fun W hW => by
    have := ru32_any W rb b off n cap (k + 8) ys (by omega) hs ((hW.cell (Rp.cell_lt c0)).trans c0) (fun j hj => (hW.cell (Rp.cell_lt (hb j hj))).trans (hb j hj))
    rw [show ((k + 8 : Nat) : Int) = (k : Int) + 8 by omega] at this
    exact this
  have cS : ∀ W, Below w.heap.size w W → (convert 22 9 (.slice (some ⟨b, off + (k + 4), none⟩) 2 (cap - (k + 4)))).run Tryz.prog W = .ok (.string (cutB ys (k + 4) 2)) W := fun W hW => str_cutc _ hyn (by omega) (fun j hj => (hW.cell (Rp.cell_lt (hb j hj))).trans (hb j hj))
  have cF : Hid (∀ W, Calls Tryz.prog 21 #[.int .u32 (tagS ys k : Int)] W fun e w' => ∃ a0 a1 a3 a4 a5, e = .returned (.tuple #[.agg #[.int .u32 a0, .int .u32 a1, .int .i64 (Tb.eV (kn (tagS ys k))), .string a3, .int .i64 a4, .int .i64 a5], .bool (kn (tagS ys k)).isSome]) ∧ Below W.heap.size W w') := fun W => (Tb.rfind_any W (tagS ys k) ht).mono (by
    rintro e w' ⟨rfl, h⟩
    exact ⟨_, _, _, _, _, rfl, h⟩)
  have hmay := mayT_doc (tagS ys k) (vrE ys k)
  have hkg : (kn (tagS ys k)).isSome = true → tagS ys k % 65536 = 0 → Tb.eV (kn (tagS ys k)) = 24 := kn_g
  obtain ⟨R, hv⟩ : ∃ R, vrE ys k = R := ⟨_, rfl⟩
  rw [hv] at hv0 hlo hmay ⊢
  have cV : Hid (∀ W, Calls Tryz.prog 71 #[.string (cutB ys (k + 4) 2)] W fun e w' => ∃ vf, e = .returned (.tuple #[.int .i64 (R : Int), vf]) ∧ Rp.RErr w' vf false ∧ Below W.heap.size W w') := fun W => by
    have := Rp.rvrof_any W _ R hv
    rw [decide_eq_false hv0] at this
    exact this
  have cA : Hid (∀ W, Calls Tryz.prog 105 #[.int .i64 (R : Int)] W fun e w' => ∃ x0 x1 x2 x3 x4 x5 x6 x7, e = .returned (.tuple #[.agg #[.string x0, .int .u8 x1, .int .i64 x2, .int .i64 x3, .bool x4, .bool x5, .bool x6, .bool true], .bool x7]) ∧ Below W.heap.size W w') := fun W => (Rp.rabout_open W (R : Int)).mono (by
    rintro e w' ⟨rfl, h⟩
    rw [hlo]
    exact ⟨_, _, _, _, _, _, _, _, rfl, h⟩)
  clear hv0 hlo hv
  have hZl : numS ys (k + 8) < 4294967296 := numS_lt ys (k + 8)
  unfold unk
  generalize tagS ys k = T at cT cF hmay hkg ht ⊢
  generalize cutB ys (k + 4) 2 = S2 at cS cV
  generalize numS ys (k + 8) = Z at cN hZl ⊢
  generalize Tb.eV (kn T) = E at cF hmay hkg ⊢
  generalize (kn T).isSome = K at cF hmay hkg ⊢
  have band : bits .and .u32 (T : Int) 65535 = ((T % 65536 : Nat) : Int) := bits_low16 ht
  generalize T % 65536 = d at band hmay hkg
  generalize hO : (if mayT T R = false then (Sum.inl 124 : Nat ⊕ Hd) else .inr (if R = 25 then { (⟨(R : Int), 12, Z, true⟩ : Hd) with ex := false, v := if K = true then E else if Z = und then 18 else (R : Int) } else ⟨(R : Int), 12, Z, true⟩)) = O
  rw [hmay] at hO
  have HO : Hid _ := hO
  have HKG : Hid _ := hkg
  clear hmay hO hkg
  obtain ⟨sb, hsb⟩ : ∃ sb, ((R : Int) != 25) = sb := ⟨_, rfl⟩
  have hkf : k ≤ 1048576 ∧ fin ≤ 1048576 := by omega
  have l12 : ¬ (fin : Int) - (k : Int) < 12 := by omega
  obtain ⟨W0, hW0⟩ : ∃ W0, w.alloc (.cells #[.int .i64 0, .int .i64 0, .int .u64 0, .bool false] 124) = W0 := ⟨_, rfl⟩
  have hb0 : Below w.heap.size w W0 := by rw [← hW0]; exact (Below.refl _ _).alloc (Nat.le_refl _) _
  have HE0 : Hid (DH W0 w.heap.size 0 0 0 false) := by rw [← hW0]; exact DH.new w 0 0 0 false
  have HT0 : Hid (∃ cs, W0.heap[w.heap.size]? = some (.cells cs 124)) := by rw [← hW0]; exact ⟨_, Array.getElem?_push_size⟩
  have Hn : Hid (n = ys.length) := hyn
  clear hyn hb
  go_enter Tryz.func65, Tryz.ntmps65
  go_wp2_with (go_at_call 62; refine StopV.out ?_)
  refine ⟨Calls.mono (cT.out _ hb0) ?_⟩
  rintro e W1 ⟨rfl, hb1⟩
  have hB1 : Below w.heap.size w W1 := hb0.trans (hb1.mono hb0.size)
  have HE1 : Hid (DH W1 w.heap.size 0 0 0 false) := HE0.out.on hb1
  have HT1 : Hid (∃ cs, W1.heap[w.heap.size]? = some (.cells cs 124)) := Below.ty hb1 HT0.out
  clear hb1 HE0 HT0
  have d0 := (hB1.cell (Rp.cell_lt c0)).trans c0
  have s1 := cS W1 hB1
  go_wp2_with (go_at_call 71; refine StopV.out ?_)
  refine ⟨Calls.mono (cV.out _) ?_⟩
  rintro e W2 ⟨vf, rfl, hvf, hb2⟩
  obtain rfl : vf = .agg #[.slice none 0 0, .int .i64 0] := hvf
  have hB2 : Below w.heap.size w W2 := hB1.trans (hb2.mono hB1.size)
  have HE2 : Hid (DH W2 w.heap.size 0 0 0 false) := HE1.out.on hb2
  have HT2 : Hid (∃ cs, W2.heap[w.heap.size]? = some (.cells cs 124)) := Below.ty hb2 HT1.out
  clear hb2 HE1 hB1 s1 d0 HT1
  go_wp2_with (go_at_call 26; refine StopV.out ?_)
  refine ⟨Calls.mono (any_no _) ?_⟩
  rintro e W4 ⟨rfl, hb4⟩
  have hb3 : Below W2.heap.size W2 (W2.alloc (.cells #[.slice none 0 0, .int .i64 0] 32)) := (Below.refl _ _).alloc (Nat.le_refl _) _
  obtain ⟨W3, hW3⟩ : ∃ W3, W2.alloc (.cells #[.slice none 0 0, .int .i64 0] 32) = W3 := ⟨_, rfl⟩
  rw [hW3] at hb3 hb4
  have hB3 : Below w.heap.size w W3 := hB2.trans (hb3.mono hB2.size)
  have hB4 : Below w.heap.size w W4 := hB3.trans (hb4.mono hB3.size)
  have HE4 : Hid (DH W4 w.heap.size 0 0 0 false) := (HE2.out.on hb3).on hb4
  have HT4 : Hid (∃ cs, W4.heap[w.heap.size]? = some (.cells cs 124)) := Below.ty hb4 (Below.ty hb3 HT2.out)
  clear hW3 hb3 hb4 HE2 HT2 hB2 hB3
  go_wp2_with (go_at_call 105; refine StopV.out ?_)
  refine ⟨Calls.mono (cA.out _) ?_⟩
  rintro e W6 ⟨x0, x1, x2, x3, x4, x5, x6, x7, rfl, hb6⟩
  obtain ⟨W7, hW7⟩ : ∃ W7, W6.alloc (.cells #[.string x0, .int .u8 x1, .int .i64 x2, .int .i64 x3, .bool x4, .bool x5, .bool x6, .bool true] 140) = W7 := ⟨_, rfl⟩
  have hb7 : Below W6.heap.size W6 W7 := by rw [← hW7]; exact (Below.refl _ _).alloc (Nat.le_refl _) _
  have k7 : W7.cell? ⟨W6.heap.size, 7, none⟩ = some (.bool true) := by rw [← hW7]; simp
  obtain ⟨W8, hW8⟩ : ∃ W8, W7.alloc (.cells #[.int .i64 (R : Int), .int .i64 ((k : Int) + 8), .int .u64 0, .bool sb] 124) = W8 := ⟨_, rfl⟩
  have hb8 : Below W7.heap.size W7 W8 := by rw [← hW8]; exact (Below.refl _ _).alloc (Nat.le_refl _) _
  have k8 : W8.cell? ⟨W6.heap.size, 7, none⟩ = some (.bool true) := (hb8.cell (Rp.cell_lt k7)).trans k7
  have HH8 : Hid (DH W8 W7.heap.size (R : Int) (k + 8) 0 sb) := by rw [← hW8]; exact DH.new W7 (R : Int) (k + 8) 0 sb
  have hB6 : Below w.heap.size w W6 := hB4.trans (hb6.mono hB4.size)
  have hB7 : Below w.heap.size w W7 := hB6.trans (hb7.mono hB6.size)
  have hB8 : Below w.heap.size w W8 := hB7.trans (hb8.mono hB7.size)
  have HE8 : Hid (DH W8 w.heap.size 0 0 0 false) := ((HE4.out.on hb6).on hb7).on hb8
  have HT8 : Hid (∃ cs, W8.heap[w.heap.size]? = some (.cells cs 124)) := Below.ty hb8 (Below.ty hb7 (Below.ty hb6 HT4.out))
  have hws : w.heap.size < W7.heap.size := Rp.cell_lt ((HE4.out.on hb6).on hb7).c0
  clear hb6 hb7 hb8 hB4 hB6 hB7 HE4 HT4 k7
  obtain ⟨p0, p1, p2, p3, pf⟩ := HH8.out
  have pf1 := pf 1
  obtain ⟨W9, hW9⟩ : ∃ W9, W8.setCell ⟨W7.heap.size, 1, none⟩ (.int .i64 ((k : Int) + 12)) = W9 := ⟨_, rfl⟩
  have HH9 : Hid (DH W9 W7.heap.size (R : Int) (k + 12) 0 sb) := by
    rw [← hW9, show (k : Int) + 12 = ((k + 12 : Nat) : Int) by omega]
    exact HH8.out.setFr (k + 12)
  have HE9 : Hid (DH W9 w.heap.size 0 0 0 false) := by rw [← hW9]; exact HE8.out.off (by omega) _
  have HT9 : Hid (∃ cs, W9.heap[w.heap.size]? = some (.cells cs 124)) := by rw [← hW9]; exact ⟨_, (heap_setCell_other W8 ⟨W7.heap.size, 1, none⟩ w.heap.size _ (show w.heap.size ≠ W7.heap.size by omega)).trans HT8.out.choose_spec⟩
  have hB9 : Below w.heap.size w W9 := by rw [← hW9]; exact hB8.setCell (p := ⟨W7.heap.size, 1, none⟩) (show w.heap.size ≤ W7.heap.size by omega) _
  go_wp2_with (go_at_call 63; refine StopV.out ?_)
  refine ⟨Calls.mono (cN.out _ hB9) ?_⟩
  rintro e Wa ⟨rfl, hba⟩
  have hBa : Below w.heap.size w Wa := hB9.trans (hba.mono hB9.size)
  have HHa : Hid (DH Wa W7.heap.size (R : Int) (k + 12) 0 sb) := HH9.out.on hba
  have HEa : Hid (DH Wa w.heap.size 0 0 0 false) := HE9.out.on hba
  have HTa : Hid (∃ cs, Wa.heap[w.heap.size]? = some (.cells cs 124)) := Below.ty hba HT9.out
  clear hba HH9 HE9 HT9 hB9 k8 p0 p1 p2 p3 pf pf1 hW9 l12 hB8 HH8 HE8 HT8
  obtain ⟨q0, q1, q2, q3, qf⟩ := HHa.out
  have qf2 := qf 2
  obtain ⟨Wb, hWb⟩ : ∃ Wb, Wa.setCell ⟨W7.heap.size, 2, none⟩ (.int .u64 (Z : Int)) = Wb := ⟨_, rfl⟩
  have HHb : Hid (DH Wb W7.heap.size (R : Int) (k + 12) Z sb) := by rw [← hWb]; exact HHa.out.setLen Z
  have HEb : Hid (DH Wb w.heap.size 0 0 0 false) := by rw [← hWb]; exact HEa.out.off (by omega) _
  have HTb : Hid (∃ cs, Wb.heap[w.heap.size]? = some (.cells cs 124)) := by rw [← hWb]; exact ⟨_, (heap_setCell_other Wa ⟨W7.heap.size, 2, none⟩ w.heap.size _ (show w.heap.size ≠ W7.heap.size by omega)).trans HTa.out.choose_spec⟩
  have hBb : Below w.heap.size w Wb := by rw [← hWb]; exact hBa.setCell (p := ⟨W7.heap.size, 2, none⟩) (show w.heap.size ≤ W7.heap.size by omega) _
  go_wp2_with (go_at_call 21; refine StopV.out ?_)
  refine ⟨Calls.mono (cF.out _) ?_⟩
  rintro e Wc ⟨a0, a1, a3, a4, a5, rfl, hbc⟩
  obtain ⟨Wd, hWd⟩ : ∃ Wd, Wc.alloc (.cells #[.int .u32 a0, .int .u32 a1, .int .i64 E, .string a3, .int .i64 a4, .int .i64 a5] 50) = Wd := ⟨_, rfl⟩
  have hbd : Below Wb.heap.size Wb Wd := by rw [← hWd]; exact hbc.alloc hbc.size _
  have e2 : Wd.cell? ⟨Wc.heap.size, 2, none⟩ = some (.int .i64 E) := by rw [← hWd]; simp
  have hne : Wc.heap.size ≠ W7.heap.size := by
    have h1 : W7.heap.size < Wb.heap.size := Rp.cell_lt HHb.out.c0
    have h2 := hbc.size
    omega
  have hBd : Below w.heap.size w Wd := hBb.trans (hbd.mono hBb.size)
  have HHd : Hid (DH Wd W7.heap.size (R : Int) (k + 12) Z sb) := HHb.out.on hbd
  have HEd : Hid (DH Wd w.heap.size 0 0 0 false) := HEb.out.on hbd
  have HTd : Hid (∃ cs, Wd.heap[w.heap.size]? = some (.cells cs 124)) := Below.ty hbd HTb.out
  have HDd : Hid (DR base rb (.slice (some ⟨b, off, none⟩) n cap) Wd M nv lv c0') := HD.out.on hBd
  have hbl : base ≤ w.heap.size := by have := HD.out.hb; omega
  clear hbc hbd HHb HEb HTb hBb hWb q0 q1 q2 q3 qf qf2 hBa HHa HEa HTa c0 cS
  cases K with
  | true =>
    by_cases hRE : (R : Int) = E
    · have b1 : ((R : Int) != E) = false := by rw [hRE]; simp
      by_cases hG : d = 0
      · have h24 : R = 24 := by have := HKG.out rfl hG; omega
        have b2 : ((d : Int) == 0) = true := by rw [hG]; rfl
        have b3 : ((R : Int) != 24) = false := by rw [h24]; rfl
        have b4 : ((R : Int) == 25) = false := by rw [h24]; rfl
        obtain rfl : sb = true := by rw [← hsb, h24]; rfl
        have HO2 : Hid (O = .inr ⟨(R : Int), 12, Z, true⟩) := by show _ = _; rw [← HO.out]; simp [hRE.symm, h24, hG]
        clear HO hRE hG h24 HKG hsb
        obtain ⟨x0, x1, x2, x3, xf⟩ := HHd.out
        have xf0 := xf 0
        obtain ⟨f0, f1, f2, f3, ff⟩ := HEd.out
        obtain ⟨u0, u1, u2, u3, uf⟩ := DH.fill HEd.out ((R : Int)) (k + 12) Z true
        rw [show ((k + 12 : Nat) : Int) = (k : Int) + 12 by omega] at u0 u1 u2 u3 x1
        go_wp2
        refine bodyPost_ret (v := .agg #[.int .i64 ((R : Int)), .int .i64 ((k : Int) + 12), .int .u64 (Z : Int), .bool true]) (by simp only [results, Tryz.results65]; simp [go_sem, u0, u1, u2, u3]) rfl ?_
        rw [HO2.out]
        exact ⟨by unfold dhV; rw [show ((k + 12 : Nat) : Int) = (k : Int) + 12 by omega], below_fill hBd (Nat.le_refl _) _ _ _ _⟩
      have b2 : ((d : Int) == 0) = false := beq_eq_false_iff_ne.2 (by omega)
      by_cases h25 : R = 25
      · have b4 : ((R : Int) == 25) = true := by rw [h25]; rfl
        obtain rfl : sb = false := by rw [← hsb, h25]; rfl
        have HO2 : Hid (O = .inr ⟨E, 12, Z, false⟩) := by show _ = _; rw [← HO.out]; simp [h25, hG]
        clear HO hRE hG h25 HKG hsb
        obtain ⟨x0, x1, x2, x3, xf⟩ := HHd.out
        have xf0 := xf 0
        obtain ⟨We, hWe⟩ : ∃ We, Wd.setCell ⟨W7.heap.size, 0, none⟩ (.int .i64 (E)) = We := ⟨_, rfl⟩
        have HHe : Hid (DH We W7.heap.size (E) (k + 12) Z false) := by rw [← hWe]; exact HHd.out.setV (E)
        have HEe : Hid (DH We w.heap.size 0 0 0 false) := by rw [← hWe]; exact HEd.out.off (by omega) _
        have hBe : Below w.heap.size w We := by rw [← hWe]; exact hBd.setCell (p := ⟨W7.heap.size, 0, none⟩) (show w.heap.size ≤ W7.heap.size by omega) _
        obtain ⟨t0, t1, t2, t3, tf⟩ := HHe.out
        obtain ⟨f0, f1, f2, f3, ff⟩ := HEe.out
        obtain ⟨u0, u1, u2, u3, uf⟩ := DH.fill HEe.out (E) (k + 12) Z false
        rw [show ((k + 12 : Nat) : Int) = (k : Int) + 12 by omega] at u0 u1 u2 u3 t1
        go_wp2
        refine bodyPost_ret (v := .agg #[.int .i64 (E), .int .i64 ((k : Int) + 12), .int .u64 (Z : Int), .bool false]) (by simp only [results, Tryz.results65]; simp [go_sem, u0, u1, u2, u3]) rfl ?_
        rw [HO2.out]
        exact ⟨by unfold dhV; rw [show ((k + 12 : Nat) : Int) = (k : Int) + 12 by omega], below_fill hBe (Nat.le_refl _) _ _ _ _⟩
      · have b4 : ((R : Int) == 25) = false := beq_eq_false_iff_ne.2 (by omega)
        obtain rfl : sb = true := by rw [← hsb]; exact bne_iff_ne.2 (by omega)
        have HO2 : Hid (O = .inr ⟨(R : Int), 12, Z, true⟩) := by show _ = _; rw [← HO.out]; simp [hRE, h25, hG]
        clear HO hRE hG h25 HKG hsb
        obtain ⟨x0, x1, x2, x3, xf⟩ := HHd.out
        have xf0 := xf 0
        obtain ⟨f0, f1, f2, f3, ff⟩ := HEd.out
        obtain ⟨u0, u1, u2, u3, uf⟩ := DH.fill HEd.out ((R : Int)) (k + 12) Z true
        rw [show ((k + 12 : Nat) : Int) = (k : Int) + 12 by omega] at u0 u1 u2 u3 x1
        go_wp2
        refine bodyPost_ret (v := .agg #[.int .i64 ((R : Int)), .int .i64 ((k : Int) + 12), .int .u64 (Z : Int), .bool true]) (by simp only [results, Tryz.results65]; simp [go_sem, u0, u1, u2, u3]) rfl ?_
        rw [HO2.out]
        exact ⟨by unfold dhV; rw [show ((k + 12 : Nat) : Int) = (k : Int) + 12 by omega], below_fill hBd (Nat.le_refl _) _ _ _ _⟩
    have b1 : ((R : Int) != E) = true := bne_iff_ne.2 hRE
    by_cases h25 : R = 25
    · have b5 : ((R : Int) != 25) = false := by rw [h25]; rfl
      have b4 : ((R : Int) == 25) = true := by rw [h25]; rfl
      obtain rfl : sb = false := by rw [← hsb, h25]; rfl
      by_cases hG : d = 0
      · have b2 : ((d : Int) == 0) = true := by rw [hG]; rfl
        have b3 : ((R : Int) != 24) = true := by rw [h25]; rfl
        have HO2 : Hid (O = .inl 124) := by show _ = _; rw [← HO.out]; simp [h25, hG]
        clear HO hRE hG h25 HKG hsb
        go_wp2_with (go_at_call 61; refine StopV.out ?_)
        refine ⟨Calls.mono (bad_any base rb _ nv lv c0' (k : Int) 124 M _ HDd.out) ?_⟩
        rintro e W9 ⟨rfl, hbad, hb9, hk9⟩
        have HE9 : Hid (DH W9 w.heap.size 0 0 0 false) := by
          obtain ⟨cs, e⟩ := HTd.out
          exact HEd.out.keep (hk9.out _ cs 124 e (by decide) (by decide))
        have HT9 : Hid (∃ cs, W9.heap[w.heap.size]? = some (.cells cs 124)) := by
          obtain ⟨cs, e⟩ := HTd.out
          exact ⟨cs, (hk9.out _ cs 124 e (by decide) (by decide)).trans e⟩
        have hB9 : Below base w W9 := (hBd.mono hbl).trans hb9.out
        have HK9 : Hid (Kq w W9) := (Kq.below hBd).trans hk9.out
        obtain ⟨f0, f1, f2, f3, ff⟩ := HE9.out
        obtain ⟨u0, u1, u2, u3, uf⟩ := DH.fill HE9.out 0 0 0 false
        rw [show ((0 : Nat) : Int) = 0 from rfl] at u0 u1 u2 u3
        have HZ := DBad.fill hbad.out HT9.out HE9.out (by omega) (.int .i64 0) (.int .i64 0) (.int .u64 0) (.bool false)
        have HZ2 : Hid _ := HZ
        clear HZ
        go_wp2
        refine bodyPost_ret (v := .agg #[.int .i64 0, .int .i64 0, .int .u64 0, .bool false]) (by simp only [results, Tryz.results65]; simp [go_sem, u0, u1, u2, u3]) rfl ?_
        rw [HO2.out]
        exact ⟨rfl, HZ2.out, below_fill hB9 hbl _ _ _ _, (((HK9.out.new (Nat.le_refl _)).new (Nat.le_refl _)).new (Nat.le_refl _)).new (Nat.le_refl _)⟩
      · have b2 : ((d : Int) == 0) = false := beq_eq_false_iff_ne.2 (by omega)
        have HO2 : Hid (O = .inr ⟨E, 12, Z, false⟩) := by show _ = _; rw [← HO.out]; simp [h25, hG]
        clear HO hRE hG h25 HKG hsb
        obtain ⟨x0, x1, x2, x3, xf⟩ := HHd.out
        have xf0 := xf 0
        obtain ⟨We, hWe⟩ : ∃ We, Wd.setCell ⟨W7.heap.size, 0, none⟩ (.int .i64 (E)) = We := ⟨_, rfl⟩
        have HHe : Hid (DH We W7.heap.size (E) (k + 12) Z false) := by rw [← hWe]; exact HHd.out.setV (E)
        have HEe : Hid (DH We w.heap.size 0 0 0 false) := by rw [← hWe]; exact HEd.out.off (by omega) _
        have hBe : Below w.heap.size w We := by rw [← hWe]; exact hBd.setCell (p := ⟨W7.heap.size, 0, none⟩) (show w.heap.size ≤ W7.heap.size by omega) _
        obtain ⟨t0, t1, t2, t3, tf⟩ := HHe.out
        obtain ⟨f0, f1, f2, f3, ff⟩ := HEe.out
        obtain ⟨u0, u1, u2, u3, uf⟩ := DH.fill HEe.out (E) (k + 12) Z false
        rw [show ((k + 12 : Nat) : Int) = (k : Int) + 12 by omega] at u0 u1 u2 u3 t1
        go_wp2
        refine bodyPost_ret (v := .agg #[.int .i64 (E), .int .i64 ((k : Int) + 12), .int .u64 (Z : Int), .bool false]) (by simp only [results, Tryz.results65]; simp [go_sem, u0, u1, u2, u3]) rfl ?_
        rw [HO2.out]
        exact ⟨by unfold dhV; rw [show ((k + 12 : Nat) : Int) = (k : Int) + 12 by omega], below_fill hBe (Nat.le_refl _) _ _ _ _⟩
    · have b5 : ((R : Int) != 25) = true := bne_iff_ne.2 (by omega)
      have HO2 : Hid (O = .inl 124) := by show _ = _; rw [← HO.out]; simp [hRE, h25]
      clear HO hRE h25 HKG hsb
      go_wp2_with (go_at_call 61; refine StopV.out ?_)
      refine ⟨Calls.mono (bad_any base rb _ nv lv c0' (k : Int) 124 M _ HDd.out) ?_⟩
      rintro e W9 ⟨rfl, hbad, hb9, hk9⟩
      have HE9 : Hid (DH W9 w.heap.size 0 0 0 false) := by
        obtain ⟨cs, e⟩ := HTd.out
        exact HEd.out.keep (hk9.out _ cs 124 e (by decide) (by decide))
      have HT9 : Hid (∃ cs, W9.heap[w.heap.size]? = some (.cells cs 124)) := by
        obtain ⟨cs, e⟩ := HTd.out
        exact ⟨cs, (hk9.out _ cs 124 e (by decide) (by decide)).trans e⟩
      have hB9 : Below base w W9 := (hBd.mono hbl).trans hb9.out
      have HK9 : Hid (Kq w W9) := (Kq.below hBd).trans hk9.out
      obtain ⟨f0, f1, f2, f3, ff⟩ := HE9.out
      obtain ⟨u0, u1, u2, u3, uf⟩ := DH.fill HE9.out 0 0 0 false
      rw [show ((0 : Nat) : Int) = 0 from rfl] at u0 u1 u2 u3
      have HZ := DBad.fill hbad.out HT9.out HE9.out (by omega) (.int .i64 0) (.int .i64 0) (.int .u64 0) (.bool false)
      have HZ2 : Hid _ := HZ
      clear HZ
      go_wp2
      refine bodyPost_ret (v := .agg #[.int .i64 0, .int .i64 0, .int .u64 0, .bool false]) (by simp only [results, Tryz.results65]; simp [go_sem, u0, u1, u2, u3]) rfl ?_
      rw [HO2.out]
      exact ⟨rfl, HZ2.out, below_fill hB9 hbl _ _ _ _, (((HK9.out.new (Nat.le_refl _)).new (Nat.le_refl _)).new (Nat.le_refl _)).new (Nat.le_refl _)⟩
  | false =>
    by_cases hG : d = 0
    · have b2 : ((d : Int) == 0) = true := by rw [hG]; rfl
      by_cases h24 : R = 24
      · have b3 : ((R : Int) != 24) = false := by rw [h24]; rfl
        have b4 : ((R : Int) == 25) = false := by rw [h24]; rfl
        obtain rfl : sb = true := by rw [← hsb, h24]; rfl
        have HO2 : Hid (O = .inr ⟨(R : Int), 12, Z, true⟩) := by show _ = _; rw [← HO.out]; simp [h24, hG]
        clear HO hG h24 HKG hsb
        obtain ⟨x0, x1, x2, x3, xf⟩ := HHd.out
        have xf0 := xf 0
        obtain ⟨f0, f1, f2, f3, ff⟩ := HEd.out
        obtain ⟨u0, u1, u2, u3, uf⟩ := DH.fill HEd.out ((R : Int)) (k + 12) Z true
        rw [show ((k + 12 : Nat) : Int) = (k : Int) + 12 by omega] at u0 u1 u2 u3 x1
        go_wp2
        refine bodyPost_ret (v := .agg #[.int .i64 ((R : Int)), .int .i64 ((k : Int) + 12), .int .u64 (Z : Int), .bool true]) (by simp only [results, Tryz.results65]; simp [go_sem, u0, u1, u2, u3]) rfl ?_
        rw [HO2.out]
        exact ⟨by unfold dhV; rw [show ((k + 12 : Nat) : Int) = (k : Int) + 12 by omega], below_fill hBd (Nat.le_refl _) _ _ _ _⟩
      · have b3 : ((R : Int) != 24) = true := bne_iff_ne.2 (by omega)
        have HO2 : Hid (O = .inl 124) := by show _ = _; rw [← HO.out]; simp [h24, hG]
        clear HO hG h24 HKG hsb
        go_wp2_with (go_at_call 61; refine StopV.out ?_)
        refine ⟨Calls.mono (bad_any base rb _ nv lv c0' (k : Int) 124 M _ HDd.out) ?_⟩
        rintro e W9 ⟨rfl, hbad, hb9, hk9⟩
        have HE9 : Hid (DH W9 w.heap.size 0 0 0 false) := by
          obtain ⟨cs, e⟩ := HTd.out
          exact HEd.out.keep (hk9.out _ cs 124 e (by decide) (by decide))
        have HT9 : Hid (∃ cs, W9.heap[w.heap.size]? = some (.cells cs 124)) := by
          obtain ⟨cs, e⟩ := HTd.out
          exact ⟨cs, (hk9.out _ cs 124 e (by decide) (by decide)).trans e⟩
        have hB9 : Below base w W9 := (hBd.mono hbl).trans hb9.out
        have HK9 : Hid (Kq w W9) := (Kq.below hBd).trans hk9.out
        obtain ⟨f0, f1, f2, f3, ff⟩ := HE9.out
        obtain ⟨u0, u1, u2, u3, uf⟩ := DH.fill HE9.out 0 0 0 false
        rw [show ((0 : Nat) : Int) = 0 from rfl] at u0 u1 u2 u3
        have HZ := DBad.fill hbad.out HT9.out HE9.out (by omega) (.int .i64 0) (.int .i64 0) (.int .u64 0) (.bool false)
        have HZ2 : Hid _ := HZ
        clear HZ
        go_wp2
        refine bodyPost_ret (v := .agg #[.int .i64 0, .int .i64 0, .int .u64 0, .bool false]) (by simp only [results, Tryz.results65]; simp [go_sem, u0, u1, u2, u3]) rfl ?_
        rw [HO2.out]
        exact ⟨rfl, HZ2.out, below_fill hB9 hbl _ _ _ _, (((HK9.out.new (Nat.le_refl _)).new (Nat.le_refl _)).new (Nat.le_refl _)).new (Nat.le_refl _)⟩
    have b2 : ((d : Int) == 0) = false := beq_eq_false_iff_ne.2 (by omega)
    by_cases h25 : R = 25
    · have b4 : ((R : Int) == 25) = true := by rw [h25]; rfl
      obtain rfl : sb = false := by rw [← hsb, h25]; rfl
      by_cases hu : Z = und
      · have b6 : ((Z : Int) == 4294967295) = true := by rw [hu]; rfl
        have HO2 : Hid (O = .inr ⟨18, 12, Z, false⟩) := by show _ = _; rw [← HO.out]; simp [h25, hG, hu]
        clear HO hG h25 hu HKG hsb
        obtain ⟨x0, x1, x2, x3, xf⟩ := HHd.out
        have xf0 := xf 0
        obtain ⟨We, hWe⟩ : ∃ We, Wd.setCell ⟨W7.heap.size, 0, none⟩ (.int .i64 (18)) = We := ⟨_, rfl⟩
        have HHe : Hid (DH We W7.heap.size (18) (k + 12) Z false) := by rw [← hWe]; exact HHd.out.setV (18)
        have HEe : Hid (DH We w.heap.size 0 0 0 false) := by rw [← hWe]; exact HEd.out.off (by omega) _
        have hBe : Below w.heap.size w We := by rw [← hWe]; exact hBd.setCell (p := ⟨W7.heap.size, 0, none⟩) (show w.heap.size ≤ W7.heap.size by omega) _
        obtain ⟨t0, t1, t2, t3, tf⟩ := HHe.out
        obtain ⟨f0, f1, f2, f3, ff⟩ := HEe.out
        obtain ⟨u0, u1, u2, u3, uf⟩ := DH.fill HEe.out (18) (k + 12) Z false
        rw [show ((k + 12 : Nat) : Int) = (k : Int) + 12 by omega] at u0 u1 u2 u3 t1
        go_wp2
        refine bodyPost_ret (v := .agg #[.int .i64 (18), .int .i64 ((k : Int) + 12), .int .u64 (Z : Int), .bool false]) (by simp only [results, Tryz.results65]; simp [go_sem, u0, u1, u2, u3]) rfl ?_
        rw [HO2.out]
        exact ⟨by unfold dhV; rw [show ((k + 12 : Nat) : Int) = (k : Int) + 12 by omega], below_fill hBe (Nat.le_refl _) _ _ _ _⟩
      · have b6 : ((Z : Int) == 4294967295) = false := beq_eq_false_iff_ne.2 (by unfold und at hu; omega)
        have HO2 : Hid (O = .inr ⟨(R : Int), 12, Z, false⟩) := by show _ = _; rw [← HO.out]; simp [h25, hG, hu]
        clear HO hG h25 hu HKG hsb
        obtain ⟨x0, x1, x2, x3, xf⟩ := HHd.out
        have xf0 := xf 0
        obtain ⟨f0, f1, f2, f3, ff⟩ := HEd.out
        obtain ⟨u0, u1, u2, u3, uf⟩ := DH.fill HEd.out ((R : Int)) (k + 12) Z false
        rw [show ((k + 12 : Nat) : Int) = (k : Int) + 12 by omega] at u0 u1 u2 u3 x1
        go_wp2
        refine bodyPost_ret (v := .agg #[.int .i64 ((R : Int)), .int .i64 ((k : Int) + 12), .int .u64 (Z : Int), .bool false]) (by simp only [results, Tryz.results65]; simp [go_sem, u0, u1, u2, u3]) rfl ?_
        rw [HO2.out]
        exact ⟨by unfold dhV; rw [show ((k + 12 : Nat) : Int) = (k : Int) + 12 by omega], below_fill hBd (Nat.le_refl _) _ _ _ _⟩
    · have b4 : ((R : Int) == 25) = false := beq_eq_false_iff_ne.2 (by omega)
      obtain rfl : sb = true := by rw [← hsb]; exact bne_iff_ne.2 (by omega)
      have HO2 : Hid (O = .inr ⟨(R : Int), 12, Z, true⟩) := by show _ = _; rw [← HO.out]; simp [h25, hG]
      clear HO hG h25 HKG hsb
      obtain ⟨x0, x1, x2, x3, xf⟩ := HHd.out
      have xf0 := xf 0
      obtain ⟨f0, f1, f2, f3, ff⟩ := HEd.out
      obtain ⟨u0, u1, u2, u3, uf⟩ := DH.fill HEd.out ((R : Int)) (k + 12) Z true
      rw [show ((k + 12 : Nat) : Int) = (k : Int) + 12 by omega] at u0 u1 u2 u3 x1
      go_wp2
      refine bodyPost_ret (v := .agg #[.int .i64 ((R : Int)), .int .i64 ((k : Int) + 12), .int .u64 (Z : Int), .bool true]) (by simp only [results, Tryz.results65]; simp [go_sem, u0, u1, u2, u3]) rfl ?_
      rw [HO2.out]
      exact ⟨by unfold dhV; rw [show ((k + 12 : Nat) : Int) = (k : Int) + 12 by omega], below_fill hBd (Nat.le_refl _) _ _ _ _⟩
end Go.Proofs.YtoikdpjjcnmgeaaGreatDoor
