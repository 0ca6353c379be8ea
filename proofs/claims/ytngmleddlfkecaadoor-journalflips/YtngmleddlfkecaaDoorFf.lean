import Derived.Test.YtngmleddlfkecaaDoorFe
namespace Go.Proofs.YtngmleddlfkecaaDoor
open Go Go.Proofs Go.RowKit

/-- What the two stores into a fault's cell leave. -/
theorem Fc.sets {W : World} {g : Nat} (h : Fc W g) (x0 x1 : Value) :
    ((W.setCell ⟨g, 0, none⟩ x0).setCell ⟨g, 1, none⟩ x1).cell? ⟨g, 0, none⟩ = some x0 ∧ ((W.setCell ⟨g, 0, none⟩ x0).setCell ⟨g, 1, none⟩ x1).cell? ⟨g, 1, none⟩ = some x1 :=
  ⟨(cell_set_ne (by decide)).trans (cell_set_eq h.c0), cell_set_eq ((cell_set_ne (by decide)).trans h.c1)⟩

theorem RFault.off {W : World} {v : Value} {a c : Int} {g i : Nat} (h : RFault W v a c) (hlt : ∀ q, W.cell? ⟨q, 0, none⟩ = some (.string { data := #[106, 111, 117, 114, 110, 97, 108] }) → g ≠ q) (x : Value) : RFault (W.setCell ⟨g, i, none⟩ x) v a c := by
  obtain ⟨q, cp, rfl, q0, q1⟩ := h
  have hne := hlt q q0
  exact ⟨q, cp, rfl, (cell_set_off hne).trans q0, (cell_set_off hne).trans q1⟩

set_option maxRecDepth 100000 in
/-- The document's look at a base. -/
theorem baseNo_any {w : World} {v : Value} {bss : List (List Nat)} (h : VS w v bss) :
    Calls Tryd.prog 38 #[v] w fun e w' => ∃ vf, e = .returned vf ∧ RE w' vf (baseE bss) ∧ Below w.heap.size w w' := by
  obtain ⟨W1, hW1⟩ : ∃ W1, w.alloc (.cells #[.slice none 0 0, .int .i64 0] 41) = W1 := ⟨_, rfl⟩
  have hb1 : Below w.heap.size w W1 := hW1 ▸ (Below.refl _ _).alloc (Nat.le_refl _) _
  have HF1 : Hid (Fc W1 w.heap.size) := by
    rw [← hW1]
    exact ⟨by simp, by simp, fun i => by simp⟩
  have hs1 : w.heap.size < W1.heap.size := by rw [← hW1]; simp
  obtain ⟨ao, cap, rfl, hf⟩ := h.next hb1
  obtain ⟨n, hn⟩ : ∃ n, bss.length = n := ⟨_, rfl⟩
  have HN : Hid (bss.length = n) := hn
  have HC : Hid (0 < n → ∃ b off, ao = some ⟨b, off, none⟩ ∧ ∀ i, i < n → ∃ x, W1.cell? ⟨b, off + i, none⟩ = some x ∧ V W1 x (bss.getD i [])) := by rw [← hn]; exact hf
  have fin : ∀ (a c : Int) (W2 : World) (g : Nat), Below W1.heap.size W1 W2 → W2.cell? ⟨g, 0, none⟩ = some (.string { data := #[106, 111, 117, 114, 110, 97, 108] }) → W2.cell? ⟨g, 1, none⟩ = some (.int .i64 a) → W1.heap.size ≤ g →
      Fc W2 w.heap.size ∧ RFault ((W2.setCell ⟨w.heap.size, 0, none⟩ (.slice (some ⟨g, 0, none⟩) 1 1)).setCell ⟨w.heap.size, 1, none⟩ (.int .i64 c)) (.agg #[.slice (some ⟨g, 0, none⟩) 1 1, .int .i64 c]) a c ∧ Below w.heap.size w ((W2.setCell ⟨w.heap.size, 0, none⟩ (.slice (some ⟨g, 0, none⟩) 1 1)).setCell ⟨w.heap.size, 1, none⟩ (.int .i64 c)) := by
    intro a c W2 g hb2 q0 q1 hg
    have hne : w.heap.size ≠ g := by omega
    exact ⟨HF1.out.next hb2 hs1, ⟨g, 1, rfl, (cell_set_off hne).trans ((cell_set_off hne).trans q0), (cell_set_off hne).trans ((cell_set_off hne).trans q1)⟩, ((hb1.trans (hb2.mono hb1.size)).setCell (p := ⟨w.heap.size, 0, none⟩) (Nat.le_refl _) _).setCell (p := ⟨w.heap.size, 1, none⟩) (Nat.le_refl _) _⟩
  have HFIN : Hid (_) := fin
  unfold baseE
  rw [hn]
  by_cases h6 : n ≤ 600
  · rw [if_pos h6]
    clear hf hn h fin
    go_enter Tryd.func38, Tryd.ntmps38
    go_wp2
    go_loop [3] (fun i => ∃ k : Nat, k ≤ n ∧ i = .int .i64 k ∧ Hid (longAt 0 bss = longAt k (bss.drop k))) (fun i => n - (intOf i).toNat)
    case atStart => exact ⟨0, Nat.zero_le _, rfl, rfl⟩
    case round =>
      obtain ⟨k, hk, rfl, HK⟩ := hrel
      by_cases hkn : k < n
      · obtain ⟨b, off, rfl, hc⟩ := HC.out (by omega)
        obtain ⟨x, hx, hv⟩ := hc k hkn
        obtain ⟨a1, c1, rfl, _, _⟩ := hv.form
        obtain ⟨m, hm⟩ : ∃ m, (bss.getD k []).length = m := ⟨_, rfl⟩
        have hl := longAt_drop (k := k) (bss := bss) (by rw [HN.out]; exact hkn)
        rw [hm] at hx hl
        by_cases hm1 : m ≤ 131072
        · rw [if_pos hm1] at hl
          have HL : Hid (longAt 0 bss = longAt (k + 1) (bss.drop (k + 1))) := HK.out.trans hl
          clear hl hv hc hm
          go_wp2
          go_round
          case rel => exact ⟨k + 1, by omega, by go_num, HL⟩
          case measure => simp [intOf]; omega
        · rw [if_neg hm1] at hl
          have HL : Hid (longAt 0 bss = some ((k : Int), 40)) := HK.out.trans hl
          clear hl hv hc hm
          go_wp2_with (go_at_call 33; fail)
          refine (refNo_any _ _ _).mono ?_
          rintro e W2 ⟨g, rfl, hb2, q0, q1, hg, hg2⟩
          obtain ⟨⟨f0, f1, ff⟩, hRF, hbe⟩ := HFIN.out _ 40 W2 g hb2 q0 q1 hg
          go_wp2
          obtain ⟨u0, u1⟩ := Fc.sets ⟨f0, f1, ff⟩ (.slice (some ⟨g, 0, none⟩) 1 1) (.int .i64 40)
          refine bodyPost_ret (v := .agg #[.slice (some ⟨g, 0, none⟩) 1 1, .int .i64 40]) (by simp only [results, Tryd.results38]; simp [go_sem, u0, u1]) rfl ⟨_, rfl, ?_, hbe⟩
          rw [HL.out]
          exact hRF
      · have hkn' : k = n := by omega
        subst hkn'
        go_wp2_with (go_at_call 35; fail)
        refine (none_any _).mono ?_
        rintro e W2 ⟨rfl, hb2⟩
        obtain ⟨f0, f1, ff⟩ := HF1.out.next hb2 hs1
        go_wp2
        obtain ⟨u0, u1⟩ := Fc.sets ⟨f0, f1, ff⟩ (.slice none 0 0) (.int .i64 0)
        refine bodyPost_ret (v := .agg #[.slice none 0 0, .int .i64 0]) (by simp only [results, Tryd.results38]; simp [go_sem, u0, u1]) rfl ⟨_, rfl, ?_, ((hb1.trans (hb2.mono hb1.size)).setCell (p := ⟨w.heap.size, 0, none⟩) (Nat.le_refl _) _).setCell (p := ⟨w.heap.size, 1, none⟩) (Nat.le_refl _) _⟩
        rw [HK.out, List.drop_eq_nil_of_le (by rw [HN.out]; exact Nat.le_refl _)]
        rfl
  · rw [if_neg h6]
    clear hf HC hn h fin
    go_enter Tryd.func38, Tryd.ntmps38
    go_wp2_with (go_at_call 33; fail)
    refine (refNo_any _ _ _).mono ?_
    rintro e W2 ⟨g, rfl, hb2, q0, q1, hg, hg2⟩
    obtain ⟨⟨f0, f1, ff⟩, hRF, hbe⟩ := HFIN.out _ 42 W2 g hb2 q0 q1 hg
    go_wp2
    obtain ⟨u0, u1⟩ := Fc.sets ⟨f0, f1, ff⟩ (.slice (some ⟨g, 0, none⟩) 1 1) (.int .i64 42)
    exact bodyPost_ret (v := .agg #[.slice (some ⟨g, 0, none⟩) 1 1, .int .i64 42]) (by simp only [results, Tryd.results38]; simp [go_sem, u0, u1]) rfl ⟨_, rfl, hRF, hbe⟩

set_option maxRecDepth 100000 in
/-- The document's Frame. -/
theorem rFrame_any {w : World} {v : Value} {body : List Nat} (h : V w v body) (n : Nat) (hn : n < 4294967296) (hml : body.length ≤ 400000) :
    Calls Tryd.prog 21 #[.int .u32 (n : Int), v] w fun e w' => ∃ v' vf, e = .returned (.tuple #[v', vf]) ∧ Own w' (w.heap.size + 1) v' (frameO n body) ∧ RE w' vf (frameE body) ∧ Below w.heap.size w w' := by
  obtain ⟨W1, hW1⟩ : ∃ W1, w.alloc (.cells #[.slice none 0 0, .int .i64 0] 41) = W1 := ⟨_, rfl⟩
  have hb1 : Below w.heap.size w W1 := hW1 ▸ (Below.refl _ _).alloc (Nat.le_refl _) _
  have HF1 : Hid (Fc W1 w.heap.size) := by
    rw [← hW1]
    exact ⟨by simp, by simp, fun i => by simp⟩
  have hs1 : w.heap.size < W1.heap.size := by rw [← hW1]; simp
  have hV1 := h.next hb1
  obtain ⟨ao, cap, hv, _, _⟩ := h.form
  subst hv
  have c37 := rframe_any hV1 n hn hml
  unfold frameO frameE
  obtain ⟨m, hm⟩ : ∃ m, body.length = m := ⟨_, rfl⟩
  rw [hm] at hV1 c37 hml ⊢
  clear h hm hV1
  by_cases hm1 : m ≤ 131072
  · rw [if_pos hm1, if_pos hm1]
    go_enter Tryd.func21, Tryd.ntmps21
    go_wp2_with (go_at_call 37; fail)
    refine c37.mono ?_
    rintro e W2 ⟨v2, rfl, hO2, hb2⟩
    obtain ⟨a2, p2, rfl⟩ := hO2.shape
    have HO2 : Hid (Own W2 (w.heap.size + 1) (.slice a2 (frameL n body).length p2) (frameL n body)) := hO2.base (by omega)
    clear c37 hO2
    go_wp2_with (go_at_call 35; fail)
    refine (none_any _).mono ?_
    rintro e W3 ⟨rfl, hb3⟩
    have hb13 : Below W1.heap.size W1 W3 := hb2.trans (hb3.mono hb2.size)
    obtain ⟨f0, f1, ff⟩ := HF1.out.next hb13 hs1
    go_wp2
    obtain ⟨u0, u1⟩ := Fc.sets ⟨f0, f1, ff⟩ (.slice none 0 0) (.int .i64 0)
    refine bodyPost_ret (v := .tuple #[.slice a2 (frameL n body).length p2, .agg #[.slice none 0 0, .int .i64 0]]) (by simp only [results, Tryd.results21]; simp [go_sem, u0, u1]) rfl ⟨_, _, rfl, ?_, rfl, ((hb1.trans (hb13.mono hb1.size)).setCell (p := ⟨w.heap.size, 0, none⟩) (Nat.le_refl _) _).setCell (p := ⟨w.heap.size, 1, none⟩) (Nat.le_refl _) _⟩
    exact ((HO2.out.next hb3).set (by omega) _).set (by omega) _
  · rw [if_neg hm1, if_neg hm1]
    clear c37
    go_enter Tryd.func21, Tryd.ntmps21
    go_wp2_with (go_at_call 33; fail)
    refine (refNo_any _ _ _).mono ?_
    rintro e W2 ⟨g, rfl, hb2, q0, q1, hg, hg2⟩
    obtain ⟨f0, f1, ff⟩ := HF1.out.next hb2 hs1
    go_wp2
    obtain ⟨u0, u1⟩ := Fc.sets ⟨f0, f1, ff⟩ (.slice (some ⟨g, 0, none⟩) 1 1) (.int .i64 40)
    have hne : w.heap.size ≠ g := by omega
    exact bodyPost_ret (v := .tuple #[.slice none 0 0, .agg #[.slice (some ⟨g, 0, none⟩) 1 1, .int .i64 40]]) (by simp only [results, Tryd.results21]; simp [go_sem, u0, u1]) rfl ⟨_, _, rfl, Own.nil _ _, ⟨g, 1, rfl, (cell_set_off hne).trans ((cell_set_off hne).trans q0), (cell_set_off hne).trans ((cell_set_off hne).trans q1)⟩, ((hb1.trans (hb2.mono hb1.size)).setCell (p := ⟨w.heap.size, 0, none⟩) (Nat.le_refl _) _).setCell (p := ⟨w.heap.size, 1, none⟩) (Nat.le_refl _) _⟩
end Go.Proofs.YtngmleddlfkecaaDoor
