import Derived.Test.YtfoodjhffehgpaaGreatDoorVn
import Derived.Test.YtfoodjhffehgpaaGreatDoorBe
import Derived.Laws.IdiomStrings
/-
  DERIVED. Heads, read with letters.
-/
namespace Go.Proofs.YtfoodjhffehgpaaGreatDoor
open Go Go.Proofs Go.RowKit
open Wk (Nd nds)
open Go.Sort

/-- Some bytes as a text. -/
theorem str_cut {W : World} {b off n q z : Nat} {ys : List UInt8} (hn : n = ys.length) (hq : q + z ≤ n) (hb : ∀ j, j < n → W.cell? ⟨b, off + j, none⟩ = some (.int .u8 (gB ys j : Int))) :
    (convert 31 9 (.slice (some ⟨b, off + q, none⟩) z z)).run Tryz.prog W = .ok (.string (cutB ys q z)) W := by
  have hl : ((ys.drop q).take z).length = z := by simp; omega
  have := run_convert_bytes_back (P := Tryz.prog) W 31 9 5 ⟨b, off + q, none⟩ z ((ys.drop q).take z) Tryz.underlying31 Tryz.underlying5 Tryz.underlying9 (fun j hj => by
    have hj' : j < z := by omega
    have h := hb (q + j) (by omega)
    rw [show (⟨b, off + q, none⟩ : Addr).add j = ⟨b, off + (q + j), none⟩ by simp [Addr.add, Nat.add_assoc], h]
    unfold gB
    congr 3
    rw [List.getD_eq_getElem?_getD]
    simp [List.getElem_take, List.getElem_drop, hn ▸ (show q + j < n by omega)])
  rw [hl] at this
  exact this
theorem str_nil {W : World} {b off : Nat} {ys : List UInt8} {q : Nat} : (convert 31 9 (.slice (some ⟨b, off, none⟩) 0 0)).run Tryz.prog W = .ok (.string (cutB ys q 0)) W := by
  have := run_convert_bytes_back (P := Tryz.prog) W 31 9 5 ⟨b, off, none⟩ 0 [] Tryz.underlying31 Tryz.underlying5 Tryz.underlying9 (fun j hj => by simp at hj)
  unfold cutB
  rw [List.take_zero]
  exact this
/-- What is told of a head with letters. -/
def ThP (w : World) (k : Nat) (q : Nat ⊕ Hd) (e : Ending) (w' : World) : Prop :=
  (match q with
    | .inl c => Pan w' k c e
    | .inr h => e = .returned (hdV h.v h.len h.sz (exI h.ex))) ∧ Below w.heap.size w w'

set_option maxRecDepth 100000 in
set_option maxHeartbeats 8000000 in
theorem thE_any (w : World) (rb b off n cap k g m sc fin : Nat) (ys : List UInt8) (hyn : n = ys.length) (hm : m ≤ 4000000) (hkf : k + 8 ≤ fin) (hfn : fin ≤ n) (hc : n ≤ cap) (hs : n ≤ 1048576) (c0 : w.cell? ⟨rb, 0, none⟩ = some (.slice (some ⟨b, off, none⟩) n cap)) (c1 : w.cell? ⟨rb, 1, none⟩ = some (.int .i64 (k : Int))) (c3 : w.cell? ⟨rb, 3, none⟩ = some (.slice (some ⟨g, 0, none⟩) (m + 1) sc)) (s1 : w.cell? ⟨g, m * 6 + 1, none⟩ = some (.int .i64 (fin : Int))) (hb : ∀ j, j < n → w.cell? ⟨b, off + j, none⟩ = some (.int .u8 (gB ys j : Int))) :
    Calls Tryz.prog 250 #[.agg #[], .pointer (some ⟨rb, 0, none⟩), .int .u32 (tagS ys k : Int)] w (ThP w k (hdE ys k fin)) := by
  have ht := tagS_lt ys k
  have hbW : ∀ W, Below w.heap.size w W → ∀ j, j < n → W.cell? ⟨b, off + j, none⟩ = some (.int .u8 (gB ys j : Int)) := fun W hW j hj => (hW.cell (Rp.cell_lt (hb j hj))).trans (hb j hj)
  have cC : Hid (∀ W, Below w.heap.size w W → Calls Tryz.prog 76 #[.pointer (some ⟨rb, 0, none⟩), .int .i64 4, .int .i64 2] W fun e w' => e = .returned (.slice (some ⟨b, off + (4 + k), none⟩) 2 2) ∧ W = w') := fun W hW => cut_any W rb b off n cap k 4 2 (by decide) (by omega) hc hs ((hW.cell (Rp.cell_lt c0)).trans c0) ((hW.cell (Rp.cell_lt c1)).trans c1)
  have cS : Hid (∀ W, Below w.heap.size w W → (convert 31 9 (.slice (some ⟨b, off + (4 + k), none⟩) 2 2)).run Tryz.prog W = .ok (.string (cutB ys (k + 4) 2)) W) := fun W hW => by
    rw [Nat.add_comm 4 k]
    exact str_cut hyn (by omega) (hbW W hW)
  have cV : Hid (∀ W, Calls Tryz.prog 253 #[.string (cutB ys (k + 4) 2)] W fun e w' => ∃ ve, e = .returned (.tuple #[.int .i64 (vrE ys k : Int), ve]) ∧ Rp.PErr w' ve (decide (vrE ys k = 0)) ∧ Below W.heap.size W w') := fun W => Rp.vrof_any W _ (vrE ys k) rfl
  have cN8 : Hid (12 ≤ fin - k → ∀ W, Below w.heap.size w W → Calls Tryz.prog 64 #[.pointer (some ⟨rb, 0, none⟩), .int .i64 8, .int .i64 4] W fun e w' => e = .returned (.int .u32 (numS ys (k + 8) : Int)) ∧ W = w') := fun h W hW => number4_any W rb b off n cap k 8 ys (by omega) hc hs ((hW.cell (Rp.cell_lt c0)).trans c0) ((hW.cell (Rp.cell_lt c1)).trans c1) (hbW W hW)
  have cN6 : Hid (∀ W, Below w.heap.size w W → Calls Tryz.prog 64 #[.pointer (some ⟨rb, 0, none⟩), .int .i64 6, .int .i64 2] W fun e w' => e = .returned (.int .u32 (u16S ys (k + 6) : Int)) ∧ W = w') := fun W hW => number2_any W rb b off n cap k 6 ys (by omega) hc hs ((hW.cell (Rp.cell_lt c0)).trans c0) ((hW.cell (Rp.cell_lt c1)).trans c1) (hbW W hW)
  have cNe : Hid (∀ W, Below w.heap.size w W → Calls Tryz.prog 61 #[.pointer (some ⟨rb, 0, none⟩), .int .i64 12] W (NeedP W k (decide (fin - k < 12)))) := fun W hW => need_any W rb g m sc k fin 12 hm ((hW.cell (Rp.cell_lt c1)).trans c1) ((hW.cell (Rp.cell_lt c3)).trans c3) ((hW.cell (Rp.cell_lt s1)).trans s1) (by omega) (by omega)
  have cG : Hid (∀ W, Below w.heap.size w W → Calls Tryz.prog 65 #[.pointer (some ⟨rb, 0, none⟩), .int .i64 124] W fun e w' => Hid (Pan w' k 124 e) ∧ Hid (Below W.heap.size W w')) := fun W hW => giveUp_any W rb k 124 ((hW.cell (Rp.cell_lt c1)).trans c1)
  have hRl := vrE_le ys k
  obtain ⟨Q, hQ⟩ : ∃ Q, hdE ys k fin = Q := ⟨_, rfl⟩
  have HQ : Hid _ := hQ
  rw [hQ]
  clear hQ
  obtain ⟨R, hR⟩ : ∃ R, vrE ys k = R := ⟨_, rfl⟩
  have HVR : Hid _ := hR
  have hvn : Rp.vn (R : Int) = R ∨ R = 0 := by
    rw [hR] at hRl
    by_cases h0 : R = 0
    · exact .inr h0
    · refine .inl ?_
      unfold Rp.vn
      rw [if_pos (by omega)]
      simp
  rw [hR] at cV
  have cL : Hid (∀ W, Calls Tryz.prog 251 #[.int .i64 (R : Int)] W fun e w' => e = .returned (.bool (Rp.lo (Rp.vn (R : Int)))) ∧ Below W.heap.size W w') := fun W => Rp.long_any W (R : Int)
  have cM : Hid (∀ W, Calls Tryz.prog 254 #[.int .u32 (tagS ys k : Int), .int .i64 (R : Int)] W fun e w' => e = .returned (.bool (mayT (tagS ys k) R)) ∧ Below W.heap.size W w') := fun W => mayTell_any W (tagS ys k) R ht
  have cU : Hid (∀ W (len sz : Nat), Calls Tryz.prog 255 #[.agg #[.int .i64 (R : Int), .int .u32 (len : Int), .int .i64 (sz : Int), .iface 99 (.agg #[])], .int .u32 (tagS ys k : Int)] W fun e w' => e = .returned (.agg #[.int .i64 (if (kn (tagS ys k)).isSome = true then Tb.eV (kn (tagS ys k)) else if len = und then 18 else (R : Int)), .int .u32 (len : Int), .int .i64 (sz : Int), .iface 98 (.agg #[])]) ∧ Below W.heap.size W w') := fun W len sz => told_unk W (tagS ys k) ht (R : Int) len sz 99
  have hl8 := numS_lt ys (k + 8)
  have hl6 : u16S ys (k + 6) < 4294967296 := Nat.lt_of_lt_of_le (u16S_lt ys (k + 6)) (by decide)
  have HX : Hid (Below w.heap.size w ((w.alloc (.cells #[] 99)).alloc (.cells #[.int .i64 0, .int .u32 0, .int .i64 0, .nilIface] 131))) := ((Below.refl _ w).alloc (Nat.le_refl _) _).alloc (by simp) _
  have HF : Hid (Fr4 ((w.alloc (.cells #[] 99)).alloc (.cells #[.int .i64 0, .int .u32 0, .int .i64 0, .nilIface] 131)) (w.heap.size + 1)) := by
    have := Fr4.new (w.alloc (.cells #[] 99))
    rw [show (w.alloc (.cells #[] 99)).heap.size = w.heap.size + 1 by simp] at this
    exact this
  clear hR hRl hbW c0 c1 c3 s1 hb hc hs hm hyn hfn
  by_cases h0 : R = 0
  · have HQ1 : Hid (Q = .inl 124) := by show _ = _; rw [← HQ.out]; unfold hdE; rw [HVR.out, if_pos h0]
    go_enter Tryz.func250, Tryz.ntmps250
    go_wp2_with (go_at_call 76; refine StopV.out ?_)
    refine ⟨Calls.mono (cC.out _ HX.out) ?_⟩
    rintro e W0 ⟨rfl, rfl⟩
    have hcv := cS.out _ HX.out
    go_wp2_with (go_at_call 253; refine StopV.out ?_)
    refine ⟨Calls.mono (cV.out _) ?_⟩
    rintro e W1 ⟨ve, rfl, hpe, hb1⟩
    have hB1 : Below w.heap.size w W1 := HX.out.trans (hb1.mono HX.out.size)
    have HF1 : Hid (Fr4 W1 (w.heap.size + 1)) := HF.out.on hb1
    clear hcv
    rw [decide_eq_true h0] at hpe
    obtain ⟨q0, rfl, -⟩ : ∃ q, ve = .iface 75 (.pointer (some ⟨q, 0, none⟩)) ∧ Rp.FaultAt W1 q 0 62 := hpe
    go_wp2_with (go_at_call 65; refine StopV.out ?_)
    refine ⟨Calls.mono (cG.out _ hB1) ?_⟩
    rintro e W2 ⟨⟨q, rfl, hc⟩, HB⟩
    refine ⟨rfl, ?_⟩
    rw [HQ1.out]
    exact ⟨⟨q, rfl, hc⟩, hB1.trans (HB.out.mono hB1.size)⟩
  · rw [hvn.resolve_right h0] at cL
    clear hvn
    rcases hlo : Rp.lo R with _ | _
    · rw [hlo] at cL
      by_cases hmay : mayT (tagS ys k) R = true
      · rw [hmay] at cM
        by_cases h25 : R = 25
        · have b25 : ((R : Int) == 25) = true := beq_iff_eq.2 (by omega)
          obtain ⟨V, hV⟩ : ∃ V, (if (kn (tagS ys k)).isSome = true then Tb.eV (kn (tagS ys k)) else if u16S ys (k + 6) = und then 18 else (R : Int)) = V := ⟨_, rfl⟩
          have HVV : Hid _ := hV
          have HQ1 : Hid (Q = .inr ⟨V, 8, u16S ys (k + 6), false⟩) := by
            show _ = _
            rw [← HQ.out, ← HVV.out]
            unfold hdE unk hE0
            rw [HVR.out, if_neg h0, if_neg (fun h => by rw [hlo] at h; cases h.1), if_neg (by rw [hmay]; decide), if_pos h25]
            simp [hlo]
          clear hV
          have H0 : Hid (¬ R = 0) := h0
          clear h0 hlo h25 hmay
          go_enter Tryz.func250, Tryz.ntmps250
          go_wp2_with (go_at_call 76; refine StopV.out ?_)
          refine ⟨Calls.mono (cC.out _ HX.out) ?_⟩
          rintro e W0 ⟨rfl, rfl⟩
          have hcv := cS.out _ HX.out
          go_wp2_with (go_at_call 253; refine StopV.out ?_)
          refine ⟨Calls.mono (cV.out _) ?_⟩
          rintro e W1 ⟨ve, rfl, hpe, hb1⟩
          have hB1 : Below w.heap.size w W1 := HX.out.trans (hb1.mono HX.out.size)
          have HF1 : Hid (Fr4 W1 (w.heap.size + 1)) := HF.out.on hb1
          clear hcv
          obtain rfl : ve = .nilIface := by
            rw [decide_eq_false H0.out] at hpe
            exact hpe
          obtain ⟨Wh, hWh⟩ : ∃ Wh, W1.alloc (.cells #[.int .i64 (R : Int), .int .u32 0, .int .i64 8, .iface 99 (.agg #[])] 131) = Wh := ⟨_, rfl⟩
          have hbh : Below W1.heap.size W1 Wh := by rw [← hWh]; exact (Below.refl _ _).alloc (Nat.le_refl _) _
          have HHh : Hid (HC Wh W1.heap.size (R : Int) 0 8 99) := by rw [← hWh]; exact HC.new W1 (R : Int) 0 8 99
          have hfh : ∀ i, Wh.frozen? ⟨W1.heap.size, i, none⟩ = false := fun i => by rw [← hWh]; simp
          have HFh : Hid (Fr4 Wh (w.heap.size + 1)) := HF1.out.on hbh
          have hBh : Below w.heap.size w Wh := hB1.trans (hbh.mono hB1.size)
          have hws : w.heap.size ≤ W1.heap.size := hB1.size
          have n1 : W1.heap.size ≠ w.heap.size + 1 := by have := Rp.cell_lt HF1.out.c0; have h : w.heap.size + 1 < W1.heap.size := this; omega
          have n2 : w.heap.size + 1 ≠ W1.heap.size := fun h => n1 h.symm
          clear hb1 hB1 HF1 hpe
          go_wp2_with (go_at_call 251; refine StopV.out ?_)
          refine ⟨Calls.mono (cL.out _) ?_⟩
          rintro e W2 ⟨rfl, hb2⟩
          have HH2 : Hid (HC W2 W1.heap.size (R : Int) 0 8 99) := HHh.out.on hb2
          have HF2 : Hid (Fr4 W2 (w.heap.size + 1)) := HFh.out.on hb2
          have hB2 : Below w.heap.size w W2 := hBh.trans (hb2.mono hBh.size)
          have hf2 : ∀ i, W2.frozen? ⟨W1.heap.size, i, none⟩ = false := fun i => (hb2.frozen (p := ⟨W1.heap.size, i, none⟩) (show W1.heap.size < _ from Rp.cell_lt HHh.out.h0)).trans (hfh i)
          clear hWh hbh HHh hfh HFh hBh hb2
          go_wp2_with (go_at_call 64; refine StopV.out ?_)
          refine ⟨Calls.mono (cN6.out _ hB2) ?_⟩
          rintro e W3 ⟨rfl, rfl⟩
          obtain ⟨x0, x1, x2, x3⟩ := HH2.out
          have g1 := hf2 1
          obtain ⟨W4, hW4⟩ : ∃ W4, W2.setCell ⟨W1.heap.size, 1, none⟩ (.int .u32 (u16S ys (k + 6) : Int)) = W4 := ⟨_, rfl⟩
          have HH4 : Hid (HC W4 W1.heap.size (R : Int) (u16S ys (k + 6)) 8 99) := by
            rw [← hW4]
            exact ⟨(Rp.cell_set_ne (by decide)).trans x0, Rp.cell_set_eq x1, (Rp.cell_set_ne (by decide)).trans x2, (Rp.cell_set_ne (by decide)).trans x3⟩
          have HF4 : Hid (Fr4 W4 (w.heap.size + 1)) := by rw [← hW4]; exact HF2.out.off n1 _
          have hB4 : Below w.heap.size w W4 := by rw [← hW4]; exact hB2.setCell (p := ⟨W1.heap.size, 1, none⟩) hws _
          go_wp2_with (go_at_call 254; refine StopV.out ?_)
          refine ⟨Calls.mono (cM.out _) ?_⟩
          rintro e W5 ⟨rfl, hb5⟩
          have HH5 : Hid _ := HH4.out.on hb5
          have HF5 : Hid _ := HF4.out.on hb5
          have hB5 : Below w.heap.size w W5 := hB4.trans (hb5.mono hB4.size)
          clear x0 x1 x2 x3 HH4 HF4
          obtain ⟨x0, x1, x2, x3⟩ := HH5.out
          go_wp2_with (go_at_call 255; refine StopV.out ?_)
          refine ⟨Calls.mono (cU.out _ _ _) ?_⟩
          rintro e W6 ⟨rfl, hb6⟩
          rw [HVV.out]
          have HF6 : Hid _ := HF5.out.on hb6
          have hB6 : Below w.heap.size w W6 := hB5.trans (hb6.mono hB5.size)
          obtain ⟨f0, f1, f2, f3, ff⟩ := HF6.out
          obtain ⟨u0, u1, u2, u3⟩ := Fr4.fill ⟨f0, f1, f2, f3, ff⟩ (.int .i64 V) (.int .u32 (u16S ys (k + 6) : Int)) (.int .i64 8) (.iface 98 (.agg #[]))
          go_wp2
          refine bodyPost_ret (v := .agg #[.int .i64 V, .int .u32 (u16S ys (k + 6) : Int), .int .i64 8, .iface 98 (.agg #[])]) (by simp only [results, Tryz.results250]; simp [go_sem, u0, u1, u2, u3]) rfl ⟨?_, ?_⟩
          · rw [HQ1.out]
            rfl
          · exact below_fill hB6 (by omega) _ _ _ _
        · have b25 : ((R : Int) == 25) = false := beq_eq_false_iff_ne.2 (by omega)
          have HQ1 : Hid (Q = .inr ⟨(R : Int), 8, u16S ys (k + 6), true⟩) := by
            show _ = _
            rw [← HQ.out]
            unfold hdE hE0
            rw [HVR.out, if_neg h0, if_neg (fun h => by rw [hlo] at h; cases h.1), if_neg (by rw [hmay]; decide), if_neg h25]
            simp [hlo]
          have H0 : Hid (¬ R = 0) := h0
          clear h0 hlo h25 hmay
          go_enter Tryz.func250, Tryz.ntmps250
          go_wp2_with (go_at_call 76; refine StopV.out ?_)
          refine ⟨Calls.mono (cC.out _ HX.out) ?_⟩
          rintro e W0 ⟨rfl, rfl⟩
          have hcv := cS.out _ HX.out
          go_wp2_with (go_at_call 253; refine StopV.out ?_)
          refine ⟨Calls.mono (cV.out _) ?_⟩
          rintro e W1 ⟨ve, rfl, hpe, hb1⟩
          have hB1 : Below w.heap.size w W1 := HX.out.trans (hb1.mono HX.out.size)
          have HF1 : Hid (Fr4 W1 (w.heap.size + 1)) := HF.out.on hb1
          clear hcv
          obtain rfl : ve = .nilIface := by
            rw [decide_eq_false H0.out] at hpe
            exact hpe
          obtain ⟨Wh, hWh⟩ : ∃ Wh, W1.alloc (.cells #[.int .i64 (R : Int), .int .u32 0, .int .i64 8, .iface 99 (.agg #[])] 131) = Wh := ⟨_, rfl⟩
          have hbh : Below W1.heap.size W1 Wh := by rw [← hWh]; exact (Below.refl _ _).alloc (Nat.le_refl _) _
          have HHh : Hid (HC Wh W1.heap.size (R : Int) 0 8 99) := by rw [← hWh]; exact HC.new W1 (R : Int) 0 8 99
          have hfh : ∀ i, Wh.frozen? ⟨W1.heap.size, i, none⟩ = false := fun i => by rw [← hWh]; simp
          have HFh : Hid (Fr4 Wh (w.heap.size + 1)) := HF1.out.on hbh
          have hBh : Below w.heap.size w Wh := hB1.trans (hbh.mono hB1.size)
          have hws : w.heap.size ≤ W1.heap.size := hB1.size
          have n1 : W1.heap.size ≠ w.heap.size + 1 := by have := Rp.cell_lt HF1.out.c0; have h : w.heap.size + 1 < W1.heap.size := this; omega
          have n2 : w.heap.size + 1 ≠ W1.heap.size := fun h => n1 h.symm
          clear hb1 hB1 HF1 hpe
          go_wp2_with (go_at_call 251; refine StopV.out ?_)
          refine ⟨Calls.mono (cL.out _) ?_⟩
          rintro e W2 ⟨rfl, hb2⟩
          have HH2 : Hid (HC W2 W1.heap.size (R : Int) 0 8 99) := HHh.out.on hb2
          have HF2 : Hid (Fr4 W2 (w.heap.size + 1)) := HFh.out.on hb2
          have hB2 : Below w.heap.size w W2 := hBh.trans (hb2.mono hBh.size)
          have hf2 : ∀ i, W2.frozen? ⟨W1.heap.size, i, none⟩ = false := fun i => (hb2.frozen (p := ⟨W1.heap.size, i, none⟩) (show W1.heap.size < _ from Rp.cell_lt HHh.out.h0)).trans (hfh i)
          clear hWh hbh HHh hfh HFh hBh hb2
          go_wp2_with (go_at_call 64; refine StopV.out ?_)
          refine ⟨Calls.mono (cN6.out _ hB2) ?_⟩
          rintro e W3 ⟨rfl, rfl⟩
          obtain ⟨x0, x1, x2, x3⟩ := HH2.out
          have g1 := hf2 1
          obtain ⟨W4, hW4⟩ : ∃ W4, W2.setCell ⟨W1.heap.size, 1, none⟩ (.int .u32 (u16S ys (k + 6) : Int)) = W4 := ⟨_, rfl⟩
          have HH4 : Hid (HC W4 W1.heap.size (R : Int) (u16S ys (k + 6)) 8 99) := by
            rw [← hW4]
            exact ⟨(Rp.cell_set_ne (by decide)).trans x0, Rp.cell_set_eq x1, (Rp.cell_set_ne (by decide)).trans x2, (Rp.cell_set_ne (by decide)).trans x3⟩
          have HF4 : Hid (Fr4 W4 (w.heap.size + 1)) := by rw [← hW4]; exact HF2.out.off n1 _
          have hB4 : Below w.heap.size w W4 := by rw [← hW4]; exact hB2.setCell (p := ⟨W1.heap.size, 1, none⟩) hws _
          go_wp2_with (go_at_call 254; refine StopV.out ?_)
          refine ⟨Calls.mono (cM.out _) ?_⟩
          rintro e W5 ⟨rfl, hb5⟩
          have HH5 : Hid _ := HH4.out.on hb5
          have HF5 : Hid _ := HF4.out.on hb5
          have hB5 : Below w.heap.size w W5 := hB4.trans (hb5.mono hB4.size)
          clear x0 x1 x2 x3 HH4 HF4
          obtain ⟨x0, x1, x2, x3⟩ := HH5.out
          obtain ⟨f0, f1, f2, f3, ff⟩ := HF5.out
          obtain ⟨u0, u1, u2, u3⟩ := Fr4.fill ⟨f0, f1, f2, f3, ff⟩ (.int .i64 (R : Int)) (.int .u32 (u16S ys (k + 6) : Int)) (.int .i64 8) (.iface 99 (.agg #[]))
          go_wp2
          refine bodyPost_ret (v := .agg #[.int .i64 (R : Int), .int .u32 (u16S ys (k + 6) : Int), .int .i64 8, .iface 99 (.agg #[])]) (by simp only [results, Tryz.results250]; simp [go_sem, u0, u1, u2, u3]) rfl ⟨?_, ?_⟩
          · rw [HQ1.out]
            rfl
          · exact below_fill hB5 (by omega) _ _ _ _
      · have hmay2 : mayT (tagS ys k) R = false := by rcases hx : mayT (tagS ys k) R with _ | _; rfl; exact absurd hx hmay
        rw [hmay2] at cM
        have HQ1 : Hid (Q = .inl 124) := by
          show _ = _
          rw [← HQ.out]
          unfold hdE
          rw [HVR.out, if_neg h0, if_neg (fun h => by rw [hlo] at h; cases h.1), if_pos hmay2]
        have H0 : Hid (¬ R = 0) := h0
        clear h0 hlo hmay2 hmay
        go_enter Tryz.func250, Tryz.ntmps250
        go_wp2_with (go_at_call 76; refine StopV.out ?_)
        refine ⟨Calls.mono (cC.out _ HX.out) ?_⟩
        rintro e W0 ⟨rfl, rfl⟩
        have hcv := cS.out _ HX.out
        go_wp2_with (go_at_call 253; refine StopV.out ?_)
        refine ⟨Calls.mono (cV.out _) ?_⟩
        rintro e W1 ⟨ve, rfl, hpe, hb1⟩
        have hB1 : Below w.heap.size w W1 := HX.out.trans (hb1.mono HX.out.size)
        have HF1 : Hid (Fr4 W1 (w.heap.size + 1)) := HF.out.on hb1
        clear hcv
        obtain rfl : ve = .nilIface := by
          rw [decide_eq_false H0.out] at hpe
          exact hpe
        obtain ⟨Wh, hWh⟩ : ∃ Wh, W1.alloc (.cells #[.int .i64 (R : Int), .int .u32 0, .int .i64 8, .iface 99 (.agg #[])] 131) = Wh := ⟨_, rfl⟩
        have hbh : Below W1.heap.size W1 Wh := by rw [← hWh]; exact (Below.refl _ _).alloc (Nat.le_refl _) _
        have HHh : Hid (HC Wh W1.heap.size (R : Int) 0 8 99) := by rw [← hWh]; exact HC.new W1 (R : Int) 0 8 99
        have hfh : ∀ i, Wh.frozen? ⟨W1.heap.size, i, none⟩ = false := fun i => by rw [← hWh]; simp
        have HFh : Hid (Fr4 Wh (w.heap.size + 1)) := HF1.out.on hbh
        have hBh : Below w.heap.size w Wh := hB1.trans (hbh.mono hB1.size)
        have hws : w.heap.size ≤ W1.heap.size := hB1.size
        have n1 : W1.heap.size ≠ w.heap.size + 1 := by have := Rp.cell_lt HF1.out.c0; have h : w.heap.size + 1 < W1.heap.size := this; omega
        have n2 : w.heap.size + 1 ≠ W1.heap.size := fun h => n1 h.symm
        clear hb1 hB1 HF1 hpe
        go_wp2_with (go_at_call 251; refine StopV.out ?_)
        refine ⟨Calls.mono (cL.out _) ?_⟩
        rintro e W2 ⟨rfl, hb2⟩
        have HH2 : Hid (HC W2 W1.heap.size (R : Int) 0 8 99) := HHh.out.on hb2
        have HF2 : Hid (Fr4 W2 (w.heap.size + 1)) := HFh.out.on hb2
        have hB2 : Below w.heap.size w W2 := hBh.trans (hb2.mono hBh.size)
        have hf2 : ∀ i, W2.frozen? ⟨W1.heap.size, i, none⟩ = false := fun i => (hb2.frozen (p := ⟨W1.heap.size, i, none⟩) (show W1.heap.size < _ from Rp.cell_lt HHh.out.h0)).trans (hfh i)
        clear hWh hbh HHh hfh HFh hBh hb2
        go_wp2_with (go_at_call 64; refine StopV.out ?_)
        refine ⟨Calls.mono (cN6.out _ hB2) ?_⟩
        rintro e W3 ⟨rfl, rfl⟩
        obtain ⟨x0, x1, x2, x3⟩ := HH2.out
        have g1 := hf2 1
        obtain ⟨W4, hW4⟩ : ∃ W4, W2.setCell ⟨W1.heap.size, 1, none⟩ (.int .u32 (u16S ys (k + 6) : Int)) = W4 := ⟨_, rfl⟩
        have HH4 : Hid (HC W4 W1.heap.size (R : Int) (u16S ys (k + 6)) 8 99) := by
          rw [← hW4]
          exact ⟨(Rp.cell_set_ne (by decide)).trans x0, Rp.cell_set_eq x1, (Rp.cell_set_ne (by decide)).trans x2, (Rp.cell_set_ne (by decide)).trans x3⟩
        have HF4 : Hid (Fr4 W4 (w.heap.size + 1)) := by rw [← hW4]; exact HF2.out.off n1 _
        have hB4 : Below w.heap.size w W4 := by rw [← hW4]; exact hB2.setCell (p := ⟨W1.heap.size, 1, none⟩) hws _
        go_wp2_with (go_at_call 254; refine StopV.out ?_)
        refine ⟨Calls.mono (cM.out _) ?_⟩
        rintro e W5 ⟨rfl, hb5⟩
        have HH5 : Hid _ := HH4.out.on hb5
        have HF5 : Hid _ := HF4.out.on hb5
        have hB5 : Below w.heap.size w W5 := hB4.trans (hb5.mono hB4.size)
        clear x0 x1 x2 x3 HH4 HF4
        go_wp2_with (go_at_call 65; refine StopV.out ?_)
        refine ⟨Calls.mono (cG.out _ hB5) ?_⟩
        rintro e W6 ⟨⟨q, rfl, hc⟩, HB⟩
        refine ⟨rfl, ?_⟩
        rw [HQ1.out]
        exact ⟨⟨q, rfl, hc⟩, hB5.trans (HB.out.mono hB5.size)⟩
    · rw [hlo] at cL
      by_cases hsh : fin - k < 12
      · have HQ1 : Hid (Q = .inl 122) := by
          show _ = _
          rw [← HQ.out]
          unfold hdE
          rw [HVR.out, if_neg h0, if_pos ⟨hlo, hsh⟩]
        have H0 : Hid (¬ R = 0) := h0
        have HSH : Hid (fin - k < 12) := hsh
        clear h0 hlo hsh
        go_enter Tryz.func250, Tryz.ntmps250
        go_wp2_with (go_at_call 76; refine StopV.out ?_)
        refine ⟨Calls.mono (cC.out _ HX.out) ?_⟩
        rintro e W0 ⟨rfl, rfl⟩
        have hcv := cS.out _ HX.out
        go_wp2_with (go_at_call 253; refine StopV.out ?_)
        refine ⟨Calls.mono (cV.out _) ?_⟩
        rintro e W1 ⟨ve, rfl, hpe, hb1⟩
        have hB1 : Below w.heap.size w W1 := HX.out.trans (hb1.mono HX.out.size)
        have HF1 : Hid (Fr4 W1 (w.heap.size + 1)) := HF.out.on hb1
        clear hcv
        obtain rfl : ve = .nilIface := by
          rw [decide_eq_false H0.out] at hpe
          exact hpe
        obtain ⟨Wh, hWh⟩ : ∃ Wh, W1.alloc (.cells #[.int .i64 (R : Int), .int .u32 0, .int .i64 8, .iface 99 (.agg #[])] 131) = Wh := ⟨_, rfl⟩
        have hbh : Below W1.heap.size W1 Wh := by rw [← hWh]; exact (Below.refl _ _).alloc (Nat.le_refl _) _
        have HHh : Hid (HC Wh W1.heap.size (R : Int) 0 8 99) := by rw [← hWh]; exact HC.new W1 (R : Int) 0 8 99
        have hfh : ∀ i, Wh.frozen? ⟨W1.heap.size, i, none⟩ = false := fun i => by rw [← hWh]; simp
        have HFh : Hid (Fr4 Wh (w.heap.size + 1)) := HF1.out.on hbh
        have hBh : Below w.heap.size w Wh := hB1.trans (hbh.mono hB1.size)
        have hws : w.heap.size ≤ W1.heap.size := hB1.size
        have n1 : W1.heap.size ≠ w.heap.size + 1 := by have := Rp.cell_lt HF1.out.c0; have h : w.heap.size + 1 < W1.heap.size := this; omega
        have n2 : w.heap.size + 1 ≠ W1.heap.size := fun h => n1 h.symm
        clear hb1 hB1 HF1 hpe
        go_wp2_with (go_at_call 251; refine StopV.out ?_)
        refine ⟨Calls.mono (cL.out _) ?_⟩
        rintro e W2 ⟨rfl, hb2⟩
        have HH2 : Hid (HC W2 W1.heap.size (R : Int) 0 8 99) := HHh.out.on hb2
        have HF2 : Hid (Fr4 W2 (w.heap.size + 1)) := HFh.out.on hb2
        have hB2 : Below w.heap.size w W2 := hBh.trans (hb2.mono hBh.size)
        have hf2 : ∀ i, W2.frozen? ⟨W1.heap.size, i, none⟩ = false := fun i => (hb2.frozen (p := ⟨W1.heap.size, i, none⟩) (show W1.heap.size < _ from Rp.cell_lt HHh.out.h0)).trans (hfh i)
        clear hWh hbh HHh hfh HFh hBh hb2
        go_wp2_with (go_at_call 61; refine StopV.out ?_)
        refine ⟨Calls.mono (cNe.out _ hB2) ?_⟩
        rintro e W3 ⟨he, hb3⟩
        rw [decide_eq_true HSH.out] at he
        obtain ⟨q, rfl, hc⟩ : Pan W3 k 122 e := he
        refine ⟨rfl, ?_⟩
        rw [HQ1.out]
        exact ⟨⟨q, rfl, hc⟩, hB2.trans (hb3.mono hB2.size)⟩
      · skip
        by_cases hmay : mayT (tagS ys k) R = true
        · rw [hmay] at cM
          by_cases h25 : R = 25
          · have b25 : ((R : Int) == 25) = true := beq_iff_eq.2 (by omega)
            obtain ⟨V, hV⟩ : ∃ V, (if (kn (tagS ys k)).isSome = true then Tb.eV (kn (tagS ys k)) else if numS ys (k + 8) = und then 18 else (R : Int)) = V := ⟨_, rfl⟩
            have HVV : Hid _ := hV
            have HQ1 : Hid (Q = .inr ⟨V, 12, numS ys (k + 8), false⟩) := by
              show _ = _
              rw [← HQ.out, ← HVV.out]
              unfold hdE unk hE0
              rw [HVR.out, if_neg h0, if_neg (fun h => hsh h.2), if_neg (by rw [hmay]; decide), if_pos h25]
              simp [hlo]
            clear hV
            have H0 : Hid (¬ R = 0) := h0
            have HSH : Hid (¬ fin - k < 12) := hsh
            clear h0 hlo hsh h25 hmay
            go_enter Tryz.func250, Tryz.ntmps250
            go_wp2_with (go_at_call 76; refine StopV.out ?_)
            refine ⟨Calls.mono (cC.out _ HX.out) ?_⟩
            rintro e W0 ⟨rfl, rfl⟩
            have hcv := cS.out _ HX.out
            go_wp2_with (go_at_call 253; refine StopV.out ?_)
            refine ⟨Calls.mono (cV.out _) ?_⟩
            rintro e W1 ⟨ve, rfl, hpe, hb1⟩
            have hB1 : Below w.heap.size w W1 := HX.out.trans (hb1.mono HX.out.size)
            have HF1 : Hid (Fr4 W1 (w.heap.size + 1)) := HF.out.on hb1
            clear hcv
            obtain rfl : ve = .nilIface := by
              rw [decide_eq_false H0.out] at hpe
              exact hpe
            obtain ⟨Wh, hWh⟩ : ∃ Wh, W1.alloc (.cells #[.int .i64 (R : Int), .int .u32 0, .int .i64 8, .iface 99 (.agg #[])] 131) = Wh := ⟨_, rfl⟩
            have hbh : Below W1.heap.size W1 Wh := by rw [← hWh]; exact (Below.refl _ _).alloc (Nat.le_refl _) _
            have HHh : Hid (HC Wh W1.heap.size (R : Int) 0 8 99) := by rw [← hWh]; exact HC.new W1 (R : Int) 0 8 99
            have hfh : ∀ i, Wh.frozen? ⟨W1.heap.size, i, none⟩ = false := fun i => by rw [← hWh]; simp
            have HFh : Hid (Fr4 Wh (w.heap.size + 1)) := HF1.out.on hbh
            have hBh : Below w.heap.size w Wh := hB1.trans (hbh.mono hB1.size)
            have hws : w.heap.size ≤ W1.heap.size := hB1.size
            have n1 : W1.heap.size ≠ w.heap.size + 1 := by have := Rp.cell_lt HF1.out.c0; have h : w.heap.size + 1 < W1.heap.size := this; omega
            have n2 : w.heap.size + 1 ≠ W1.heap.size := fun h => n1 h.symm
            clear hb1 hB1 HF1 hpe
            go_wp2_with (go_at_call 251; refine StopV.out ?_)
            refine ⟨Calls.mono (cL.out _) ?_⟩
            rintro e W2 ⟨rfl, hb2⟩
            have HH2 : Hid (HC W2 W1.heap.size (R : Int) 0 8 99) := HHh.out.on hb2
            have HF2 : Hid (Fr4 W2 (w.heap.size + 1)) := HFh.out.on hb2
            have hB2 : Below w.heap.size w W2 := hBh.trans (hb2.mono hBh.size)
            have hf2 : ∀ i, W2.frozen? ⟨W1.heap.size, i, none⟩ = false := fun i => (hb2.frozen (p := ⟨W1.heap.size, i, none⟩) (show W1.heap.size < _ from Rp.cell_lt HHh.out.h0)).trans (hfh i)
            clear hWh hbh HHh hfh HFh hBh hb2
            go_wp2_with (go_at_call 61; refine StopV.out ?_)
            refine ⟨Calls.mono (cNe.out _ hB2) ?_⟩
            rintro e W3 ⟨he, hb3⟩
            obtain rfl : e = .returned (.tuple #[]) := by rw [decide_eq_false HSH.out] at he; exact he
            have hB3 : Below w.heap.size w W3 := hB2.trans (hb3.mono hB2.size)
            have HH3 : Hid _ := HH2.out.on hb3
            have HF3 : Hid _ := HF2.out.on hb3
            have hf3 : ∀ i, W3.frozen? ⟨W1.heap.size, i, none⟩ = false := fun i => (hb3.frozen (p := ⟨W1.heap.size, i, none⟩) (show W1.heap.size < _ from Rp.cell_lt HH2.out.h0)).trans (hf2 i)
            go_wp2_with (go_at_call 64; refine StopV.out ?_)
            refine ⟨Calls.mono (cN8.out (by have := HSH.out; omega) _ hB3) ?_⟩
            rintro e W3 ⟨rfl, rfl⟩
            obtain ⟨x0, x1, x2, x3⟩ := HH3.out
            have g1 := hf3 1
            have g2 := hf3 2
            obtain ⟨W4, hW4⟩ : ∃ W4, (W3.setCell ⟨W1.heap.size, 2, none⟩ (.int .i64 12)).setCell ⟨W1.heap.size, 1, none⟩ (.int .u32 (numS ys (k + 8) : Int)) = W4 := ⟨_, rfl⟩
            have HH4 : Hid (HC W4 W1.heap.size (R : Int) (numS ys (k + 8)) 12 99) := by
              rw [← hW4]
              exact ⟨(Rp.cell_set_ne (by decide)).trans ((Rp.cell_set_ne (by decide)).trans x0), Rp.cell_set_eq ((Rp.cell_set_ne (by decide)).trans x1), (Rp.cell_set_ne (by decide)).trans (Rp.cell_set_eq x2), (Rp.cell_set_ne (by decide)).trans ((Rp.cell_set_ne (by decide)).trans x3)⟩
            have HF4 : Hid (Fr4 W4 (w.heap.size + 1)) := by rw [← hW4]; exact (HF3.out.off n1 _).off n1 _
            have hB4 : Below w.heap.size w W4 := by rw [← hW4]; exact (hB3.setCell (p := ⟨W1.heap.size, 2, none⟩) hws _).setCell (p := ⟨W1.heap.size, 1, none⟩) hws _
            go_wp2_with (go_at_call 254; refine StopV.out ?_)
            refine ⟨Calls.mono (cM.out _) ?_⟩
            rintro e W5 ⟨rfl, hb5⟩
            have HH5 : Hid _ := HH4.out.on hb5
            have HF5 : Hid _ := HF4.out.on hb5
            have hB5 : Below w.heap.size w W5 := hB4.trans (hb5.mono hB4.size)
            clear x0 x1 x2 x3 HH4 HF4
            obtain ⟨x0, x1, x2, x3⟩ := HH5.out
            go_wp2_with (go_at_call 255; refine StopV.out ?_)
            refine ⟨Calls.mono (cU.out _ _ _) ?_⟩
            rintro e W6 ⟨rfl, hb6⟩
            rw [HVV.out]
            have HF6 : Hid _ := HF5.out.on hb6
            have hB6 : Below w.heap.size w W6 := hB5.trans (hb6.mono hB5.size)
            obtain ⟨f0, f1, f2, f3, ff⟩ := HF6.out
            obtain ⟨u0, u1, u2, u3⟩ := Fr4.fill ⟨f0, f1, f2, f3, ff⟩ (.int .i64 V) (.int .u32 (numS ys (k + 8) : Int)) (.int .i64 12) (.iface 98 (.agg #[]))
            go_wp2
            refine bodyPost_ret (v := .agg #[.int .i64 V, .int .u32 (numS ys (k + 8) : Int), .int .i64 12, .iface 98 (.agg #[])]) (by simp only [results, Tryz.results250]; simp [go_sem, u0, u1, u2, u3]) rfl ⟨?_, ?_⟩
            · rw [HQ1.out]
              rfl
            · exact below_fill hB6 (by omega) _ _ _ _
          · have b25 : ((R : Int) == 25) = false := beq_eq_false_iff_ne.2 (by omega)
            have HQ1 : Hid (Q = .inr ⟨(R : Int), 12, numS ys (k + 8), true⟩) := by
              show _ = _
              rw [← HQ.out]
              unfold hdE hE0
              rw [HVR.out, if_neg h0, if_neg (fun h => hsh h.2), if_neg (by rw [hmay]; decide), if_neg h25]
              simp [hlo]
            have H0 : Hid (¬ R = 0) := h0
            have HSH : Hid (¬ fin - k < 12) := hsh
            clear h0 hlo hsh h25 hmay
            go_enter Tryz.func250, Tryz.ntmps250
            go_wp2_with (go_at_call 76; refine StopV.out ?_)
            refine ⟨Calls.mono (cC.out _ HX.out) ?_⟩
            rintro e W0 ⟨rfl, rfl⟩
            have hcv := cS.out _ HX.out
            go_wp2_with (go_at_call 253; refine StopV.out ?_)
            refine ⟨Calls.mono (cV.out _) ?_⟩
            rintro e W1 ⟨ve, rfl, hpe, hb1⟩
            have hB1 : Below w.heap.size w W1 := HX.out.trans (hb1.mono HX.out.size)
            have HF1 : Hid (Fr4 W1 (w.heap.size + 1)) := HF.out.on hb1
            clear hcv
            obtain rfl : ve = .nilIface := by
              rw [decide_eq_false H0.out] at hpe
              exact hpe
            obtain ⟨Wh, hWh⟩ : ∃ Wh, W1.alloc (.cells #[.int .i64 (R : Int), .int .u32 0, .int .i64 8, .iface 99 (.agg #[])] 131) = Wh := ⟨_, rfl⟩
            have hbh : Below W1.heap.size W1 Wh := by rw [← hWh]; exact (Below.refl _ _).alloc (Nat.le_refl _) _
            have HHh : Hid (HC Wh W1.heap.size (R : Int) 0 8 99) := by rw [← hWh]; exact HC.new W1 (R : Int) 0 8 99
            have hfh : ∀ i, Wh.frozen? ⟨W1.heap.size, i, none⟩ = false := fun i => by rw [← hWh]; simp
            have HFh : Hid (Fr4 Wh (w.heap.size + 1)) := HF1.out.on hbh
            have hBh : Below w.heap.size w Wh := hB1.trans (hbh.mono hB1.size)
            have hws : w.heap.size ≤ W1.heap.size := hB1.size
            have n1 : W1.heap.size ≠ w.heap.size + 1 := by have := Rp.cell_lt HF1.out.c0; have h : w.heap.size + 1 < W1.heap.size := this; omega
            have n2 : w.heap.size + 1 ≠ W1.heap.size := fun h => n1 h.symm
            clear hb1 hB1 HF1 hpe
            go_wp2_with (go_at_call 251; refine StopV.out ?_)
            refine ⟨Calls.mono (cL.out _) ?_⟩
            rintro e W2 ⟨rfl, hb2⟩
            have HH2 : Hid (HC W2 W1.heap.size (R : Int) 0 8 99) := HHh.out.on hb2
            have HF2 : Hid (Fr4 W2 (w.heap.size + 1)) := HFh.out.on hb2
            have hB2 : Below w.heap.size w W2 := hBh.trans (hb2.mono hBh.size)
            have hf2 : ∀ i, W2.frozen? ⟨W1.heap.size, i, none⟩ = false := fun i => (hb2.frozen (p := ⟨W1.heap.size, i, none⟩) (show W1.heap.size < _ from Rp.cell_lt HHh.out.h0)).trans (hfh i)
            clear hWh hbh HHh hfh HFh hBh hb2
            go_wp2_with (go_at_call 61; refine StopV.out ?_)
            refine ⟨Calls.mono (cNe.out _ hB2) ?_⟩
            rintro e W3 ⟨he, hb3⟩
            obtain rfl : e = .returned (.tuple #[]) := by rw [decide_eq_false HSH.out] at he; exact he
            have hB3 : Below w.heap.size w W3 := hB2.trans (hb3.mono hB2.size)
            have HH3 : Hid _ := HH2.out.on hb3
            have HF3 : Hid _ := HF2.out.on hb3
            have hf3 : ∀ i, W3.frozen? ⟨W1.heap.size, i, none⟩ = false := fun i => (hb3.frozen (p := ⟨W1.heap.size, i, none⟩) (show W1.heap.size < _ from Rp.cell_lt HH2.out.h0)).trans (hf2 i)
            go_wp2_with (go_at_call 64; refine StopV.out ?_)
            refine ⟨Calls.mono (cN8.out (by have := HSH.out; omega) _ hB3) ?_⟩
            rintro e W3 ⟨rfl, rfl⟩
            obtain ⟨x0, x1, x2, x3⟩ := HH3.out
            have g1 := hf3 1
            have g2 := hf3 2
            obtain ⟨W4, hW4⟩ : ∃ W4, (W3.setCell ⟨W1.heap.size, 2, none⟩ (.int .i64 12)).setCell ⟨W1.heap.size, 1, none⟩ (.int .u32 (numS ys (k + 8) : Int)) = W4 := ⟨_, rfl⟩
            have HH4 : Hid (HC W4 W1.heap.size (R : Int) (numS ys (k + 8)) 12 99) := by
              rw [← hW4]
              exact ⟨(Rp.cell_set_ne (by decide)).trans ((Rp.cell_set_ne (by decide)).trans x0), Rp.cell_set_eq ((Rp.cell_set_ne (by decide)).trans x1), (Rp.cell_set_ne (by decide)).trans (Rp.cell_set_eq x2), (Rp.cell_set_ne (by decide)).trans ((Rp.cell_set_ne (by decide)).trans x3)⟩
            have HF4 : Hid (Fr4 W4 (w.heap.size + 1)) := by rw [← hW4]; exact (HF3.out.off n1 _).off n1 _
            have hB4 : Below w.heap.size w W4 := by rw [← hW4]; exact (hB3.setCell (p := ⟨W1.heap.size, 2, none⟩) hws _).setCell (p := ⟨W1.heap.size, 1, none⟩) hws _
            go_wp2_with (go_at_call 254; refine StopV.out ?_)
            refine ⟨Calls.mono (cM.out _) ?_⟩
            rintro e W5 ⟨rfl, hb5⟩
            have HH5 : Hid _ := HH4.out.on hb5
            have HF5 : Hid _ := HF4.out.on hb5
            have hB5 : Below w.heap.size w W5 := hB4.trans (hb5.mono hB4.size)
            clear x0 x1 x2 x3 HH4 HF4
            obtain ⟨x0, x1, x2, x3⟩ := HH5.out
            obtain ⟨f0, f1, f2, f3, ff⟩ := HF5.out
            obtain ⟨u0, u1, u2, u3⟩ := Fr4.fill ⟨f0, f1, f2, f3, ff⟩ (.int .i64 (R : Int)) (.int .u32 (numS ys (k + 8) : Int)) (.int .i64 12) (.iface 99 (.agg #[]))
            go_wp2
            refine bodyPost_ret (v := .agg #[.int .i64 (R : Int), .int .u32 (numS ys (k + 8) : Int), .int .i64 12, .iface 99 (.agg #[])]) (by simp only [results, Tryz.results250]; simp [go_sem, u0, u1, u2, u3]) rfl ⟨?_, ?_⟩
            · rw [HQ1.out]
              rfl
            · exact below_fill hB5 (by omega) _ _ _ _
        · have hmay2 : mayT (tagS ys k) R = false := by rcases hx : mayT (tagS ys k) R with _ | _; rfl; exact absurd hx hmay
          rw [hmay2] at cM
          have HQ1 : Hid (Q = .inl 124) := by
            show _ = _
            rw [← HQ.out]
            unfold hdE
            rw [HVR.out, if_neg h0, if_neg (fun h => hsh h.2), if_pos hmay2]
          have H0 : Hid (¬ R = 0) := h0
          have HSH : Hid (¬ fin - k < 12) := hsh
          clear h0 hlo hsh hmay2 hmay
          go_enter Tryz.func250, Tryz.ntmps250
          go_wp2_with (go_at_call 76; refine StopV.out ?_)
          refine ⟨Calls.mono (cC.out _ HX.out) ?_⟩
          rintro e W0 ⟨rfl, rfl⟩
          have hcv := cS.out _ HX.out
          go_wp2_with (go_at_call 253; refine StopV.out ?_)
          refine ⟨Calls.mono (cV.out _) ?_⟩
          rintro e W1 ⟨ve, rfl, hpe, hb1⟩
          have hB1 : Below w.heap.size w W1 := HX.out.trans (hb1.mono HX.out.size)
          have HF1 : Hid (Fr4 W1 (w.heap.size + 1)) := HF.out.on hb1
          clear hcv
          obtain rfl : ve = .nilIface := by
            rw [decide_eq_false H0.out] at hpe
            exact hpe
          obtain ⟨Wh, hWh⟩ : ∃ Wh, W1.alloc (.cells #[.int .i64 (R : Int), .int .u32 0, .int .i64 8, .iface 99 (.agg #[])] 131) = Wh := ⟨_, rfl⟩
          have hbh : Below W1.heap.size W1 Wh := by rw [← hWh]; exact (Below.refl _ _).alloc (Nat.le_refl _) _
          have HHh : Hid (HC Wh W1.heap.size (R : Int) 0 8 99) := by rw [← hWh]; exact HC.new W1 (R : Int) 0 8 99
          have hfh : ∀ i, Wh.frozen? ⟨W1.heap.size, i, none⟩ = false := fun i => by rw [← hWh]; simp
          have HFh : Hid (Fr4 Wh (w.heap.size + 1)) := HF1.out.on hbh
          have hBh : Below w.heap.size w Wh := hB1.trans (hbh.mono hB1.size)
          have hws : w.heap.size ≤ W1.heap.size := hB1.size
          have n1 : W1.heap.size ≠ w.heap.size + 1 := by have := Rp.cell_lt HF1.out.c0; have h : w.heap.size + 1 < W1.heap.size := this; omega
          have n2 : w.heap.size + 1 ≠ W1.heap.size := fun h => n1 h.symm
          clear hb1 hB1 HF1 hpe
          go_wp2_with (go_at_call 251; refine StopV.out ?_)
          refine ⟨Calls.mono (cL.out _) ?_⟩
          rintro e W2 ⟨rfl, hb2⟩
          have HH2 : Hid (HC W2 W1.heap.size (R : Int) 0 8 99) := HHh.out.on hb2
          have HF2 : Hid (Fr4 W2 (w.heap.size + 1)) := HFh.out.on hb2
          have hB2 : Below w.heap.size w W2 := hBh.trans (hb2.mono hBh.size)
          have hf2 : ∀ i, W2.frozen? ⟨W1.heap.size, i, none⟩ = false := fun i => (hb2.frozen (p := ⟨W1.heap.size, i, none⟩) (show W1.heap.size < _ from Rp.cell_lt HHh.out.h0)).trans (hfh i)
          clear hWh hbh HHh hfh HFh hBh hb2
          go_wp2_with (go_at_call 61; refine StopV.out ?_)
          refine ⟨Calls.mono (cNe.out _ hB2) ?_⟩
          rintro e W3 ⟨he, hb3⟩
          obtain rfl : e = .returned (.tuple #[]) := by rw [decide_eq_false HSH.out] at he; exact he
          have hB3 : Below w.heap.size w W3 := hB2.trans (hb3.mono hB2.size)
          have HH3 : Hid _ := HH2.out.on hb3
          have HF3 : Hid _ := HF2.out.on hb3
          have hf3 : ∀ i, W3.frozen? ⟨W1.heap.size, i, none⟩ = false := fun i => (hb3.frozen (p := ⟨W1.heap.size, i, none⟩) (show W1.heap.size < _ from Rp.cell_lt HH2.out.h0)).trans (hf2 i)
          go_wp2_with (go_at_call 64; refine StopV.out ?_)
          refine ⟨Calls.mono (cN8.out (by have := HSH.out; omega) _ hB3) ?_⟩
          rintro e W3 ⟨rfl, rfl⟩
          obtain ⟨x0, x1, x2, x3⟩ := HH3.out
          have g1 := hf3 1
          have g2 := hf3 2
          obtain ⟨W4, hW4⟩ : ∃ W4, (W3.setCell ⟨W1.heap.size, 2, none⟩ (.int .i64 12)).setCell ⟨W1.heap.size, 1, none⟩ (.int .u32 (numS ys (k + 8) : Int)) = W4 := ⟨_, rfl⟩
          have HH4 : Hid (HC W4 W1.heap.size (R : Int) (numS ys (k + 8)) 12 99) := by
            rw [← hW4]
            exact ⟨(Rp.cell_set_ne (by decide)).trans ((Rp.cell_set_ne (by decide)).trans x0), Rp.cell_set_eq ((Rp.cell_set_ne (by decide)).trans x1), (Rp.cell_set_ne (by decide)).trans (Rp.cell_set_eq x2), (Rp.cell_set_ne (by decide)).trans ((Rp.cell_set_ne (by decide)).trans x3)⟩
          have HF4 : Hid (Fr4 W4 (w.heap.size + 1)) := by rw [← hW4]; exact (HF3.out.off n1 _).off n1 _
          have hB4 : Below w.heap.size w W4 := by rw [← hW4]; exact (hB3.setCell (p := ⟨W1.heap.size, 2, none⟩) hws _).setCell (p := ⟨W1.heap.size, 1, none⟩) hws _
          go_wp2_with (go_at_call 254; refine StopV.out ?_)
          refine ⟨Calls.mono (cM.out _) ?_⟩
          rintro e W5 ⟨rfl, hb5⟩
          have HH5 : Hid _ := HH4.out.on hb5
          have HF5 : Hid _ := HF4.out.on hb5
          have hB5 : Below w.heap.size w W5 := hB4.trans (hb5.mono hB4.size)
          clear x0 x1 x2 x3 HH4 HF4
          go_wp2_with (go_at_call 65; refine StopV.out ?_)
          refine ⟨Calls.mono (cG.out _ hB5) ?_⟩
          rintro e W6 ⟨⟨q, rfl, hc⟩, HB⟩
          refine ⟨rfl, ?_⟩
          rw [HQ1.out]
          exact ⟨⟨q, rfl, hc⟩, hB5.trans (HB.out.mono hB5.size)⟩
end Go.Proofs.YtfoodjhffehgpaaGreatDoor
