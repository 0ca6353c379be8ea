import Derived.Test.YtngmleddlfkecaaDoorFf
namespace Go.Proofs.YtngmleddlfkecaaDoor
open Go Go.Proofs Go.RowKit

/-- The value of what was lent. -/
def lentV (g n : Nat) : Value := .slice (some ⟨g, 0, none⟩) n (n + 3)

/-- A list of lent bytes: where each lies; no two in one block. -/
def LS (w : World) (B : Nat) (v : Value) (bss : List (List Nat)) (g : Nat → Nat) : Prop :=
  ∃ cells : List Value, w.ownsRow B 22 1 v bss.length cells ∧ (∀ i, i < bss.length → cells.getD i undef = lentV (g i) (bss.getD i []).length ∧ Lent w B (g i) (bss.getD i [])) ∧ ∀ i j, i < bss.length → j < bss.length → i ≠ j → g i ≠ g j

theorem LS.next {w w' : World} {B : Nat} {v : Value} {bss : List (List Nat)} {g : Nat → Nat} (h : LS w B v bss g) (hb : Below w.heap.size w w') : LS w' B v bss g := by
  obtain ⟨cells, h1, h2, h3⟩ := h
  exact ⟨cells, owns_next h1 hb, fun i hi => ⟨(h2 i hi).1, (h2 i hi).2.next hb⟩, h3⟩

theorem Lent.lt {w : World} {B g : Nat} {bs : List Nat} (h : Lent w B g bs) : B ≤ g ∧ g < w.heap.size := h.1.lt g rfl

theorem LS.form {w : World} {B : Nat} {v : Value} {l : List (List Nat)} {g : Nat → Nat} (h : LS w B v l g) : ∃ ao cap, v = .slice ao l.length cap ∧ (0 < l.length → ∃ b, ao = some ⟨b, 0, none⟩ ∧ ∀ i, i < l.length → w.cell? ⟨b, i, none⟩ = some (lentV (g i) (l.getD i []).length) ∧ Lent w B (g i) (l.getD i [])) := by
  obtain ⟨cells, h1, h2, _⟩ := h
  have hcl : cells.length = l.length := by simpa using h1.1
  rcases h1.2 with ⟨rfl, h0⟩ | ⟨b, cap, cur, rfl, hb, hg, hr⟩
  · exact ⟨none, 0, by rw [h0], by omega⟩
  · refine ⟨_, cap, rfl, fun _ => ⟨b, rfl, ?_⟩⟩
    intro i hi
    refine ⟨?_, (h2 i hi).2⟩
    rw [← (h2 i hi).1, h1.cellAt (g := b) (cap := cap) i (by omega)]
    simp [List.getD_eq_getElem?_getD, List.getElem?_eq_getElem (show i < cells.length by omega)]

theorem LS.vs {w : World} {B : Nat} {v : Value} {l : List (List Nat)} {g : Nat → Nat} (h : LS w B v l g) : VS w v l := by
  obtain ⟨ao, cap, rfl, hf⟩ := h.form
  refine ⟨ao, cap, rfl, fun hp => ?_⟩
  obtain ⟨b, rfl, hc⟩ := hf hp
  refine ⟨b, 0, rfl, fun i hi => ?_⟩
  obtain ⟨h1, h2⟩ := hc i hi
  exact ⟨_, by rw [Nat.zero_add]; exact h1, h2.v (by omega)⟩

set_option maxRecDepth 100000 in
set_option maxHeartbeats 1000000 in
/-- lend. -/
theorem lendAll_any {w : World} {v : Value} {bss : List (List Nat)} (h : VS w v bss) (hF : Few bss) :
    Calls Tryd.prog 20 #[v] w fun e w' => ∃ v' g, e = .returned v' ∧ LS w' w.heap.size v' bss g ∧ Below w.heap.size w w' := by
  obtain ⟨i1, hj1, hy0, hy1, hy2⟩ := info_parts Tryd.info22
  obtain ⟨ao, cap, rfl, hf⟩ := h
  obtain ⟨n, hn⟩ : ∃ n, bss.length = n := ⟨_, rfl⟩
  have HN : Hid (bss.length = n) := hn
  have HF : Hid (Few bss) := hF
  have hn7 : n ≤ 700 := by rw [← hn]; exact hF.1
  have HC : Hid (0 < n → ∃ b off, ao = some ⟨b, off, none⟩ ∧ ∀ i, i < n → ∃ x, w.cell? ⟨b, off + i, none⟩ = some x ∧ V w x (bss.getD i [])) := by rw [← hn]; exact hf
  rw [hn]
  obtain ⟨B, hB⟩ : ∃ B, B = w.heap.size := ⟨_, rfl⟩
  rw [← hB]
  have HB : Hid (B = w.heap.size) := hB
  clear hf hF hn hB
  go_enter Tryd.func20, Tryd.ntmps20
  go_wp2
  go_loopw [3, 4] (fun v i wr => ∃ (k : Nat) (cells : List Value) (g : Nat → Nat) (a : Option Addr) (p : Nat), k ≤ n ∧ i = .int .i64 k ∧ v = .slice a k p ∧ wr.ownsRow B 22 1 (.slice a k p) k cells ∧ Hid (∀ i, i < k → cells.getD i undef = lentV (g i) (bss.getD i []).length ∧ Lent wr B (g i) (bss.getD i [])) ∧ Hid (∀ i j, i < k → j < k → i ≠ j → g i ≠ g j) ∧ Below B w wr) (fun _ i _ => n - (intOf i).toNat)
  case atStart => exact ⟨0, [], fun _ => 0, none, 0, Nat.zero_le _, rfl, rfl, World.ownsRow_nil _ _ _ _, fun i hi => by omega, fun i j hi => by omega, Below.refl _ _⟩
  case round =>
    obtain ⟨k, cells, g, a, p, hk, rfl, rfl, hown, HI, HD, hbe⟩ := hrel
    have HBr : Hid (B ≤ wr.heap.size) := by have := hbe.size; rw [HB.out]; exact this
    by_cases hkn : k < n
    · obtain ⟨b, off, rfl, hc⟩ := HC.out (by omega)
      obtain ⟨x, hx, hv⟩ := hc k hkn
      have hbw : Below w.heap.size w wr := by rw [← HB.out]; exact hbe
      have hxr : wr.cell? ⟨b, off + k, none⟩ = some x := (hbw.cell (p := ⟨b, off + k, none⟩) (cell_lt hx)).trans hx
      have hlen := HF.out.len (show k < bss.length by rw [HN.out]; exact hkn)
      have c13 := lend_any (hv.next hbw) (by omega)
      obtain ⟨m, hm⟩ : ∃ m, (bss.getD k []).length = m := ⟨_, rfl⟩
      have HM : Hid ((bss.getD k []).length = m) := hm
      rw [hm] at c13 hlen
      obtain ⟨G, hG⟩ : ∃ G, wr.heap.size = G := ⟨_, rfl⟩
      have HG : Hid (wr.heap.size = G) := hG
      rw [hG] at c13
      clear hx hv hc hm hbw hG
      go_wp2_with (go_at_call 13; fail)
      refine c13.mono ?_
      rintro e W2 ⟨rfl, hL, hb2⟩
      have hL2 : Lent W2 G G (bss.getD k []) := by unfold Lent; rw [HM.out]; exact hL
      have hb2' : Below wr.heap.size wr W2 := by rw [HG.out]; exact hb2
      have hown2 : W2.ownsRow B 22 1 (.slice a k p) k cells := owns_next hown hb2'
      have HS2 : Hid (B ≤ W2.heap.size) := Nat.le_trans HBr.out hb2'.size
      have HP : Hid (∀ w4 v2, w4.ownsRow B 22 1 v2 (k + 1) (cells ++ [lentV G m]) → (W2.alloc (.cells #[lentV G m] 22)).grownBy w4 (Value.slice a k p).ownBlock →
          ∃ (a3 : Option Addr) (p3 : Nat) (g3 : Nat → Nat), v2 = .slice a3 (k + 1) p3 ∧ w4.ownsRow B 22 1 (.slice a3 (k + 1) p3) (k + 1) (cells ++ [lentV G m]) ∧ (∀ i, i < k + 1 → (cells ++ [lentV G m]).getD i undef = lentV (g3 i) (bss.getD i []).length ∧ Lent w4 B (g3 i) (bss.getD i [])) ∧ (∀ i j, i < k + 1 → j < k + 1 → i ≠ j → g3 i ≠ g3 j) ∧ Below B w w4) := by
        intro w4 v2 ho4 hg4
        have ha : Below W2.heap.size W2 (W2.alloc (.cells #[lentV G m] 22)) := (Below.refl _ _).alloc (Nat.le_refl _) _
        have hb3 : Below B w (W2.alloc (.cells #[lentV G m] 22)) := (hbe.trans (hb2'.mono HBr.out)).alloc HS2.out _
        have hsh : ∃ a3 p3, v2 = .slice a3 (k + 1) p3 := by
          rcases ho4.2 with ⟨_, h0⟩ | ⟨g, p, cur, rfl, _⟩
          · omega
          · exact ⟨_, _, rfl⟩
        obtain ⟨a3, p3, rfl⟩ := hsh
        have hcl : cells.length = k := by simpa using hown.1
        refine ⟨a3, p3, fun i => if i < k then g i else G, rfl, ho4, ?_, ?_, hb3.grown hg4 (by have := HS2.out; simp; omega) (fun j hj => (hown2.lt j hj).1)⟩
        · intro i hi
          by_cases hik : i < k
          · simp only [if_pos hik]
            have e1 : (cells ++ [lentV G m]).getD i undef = cells.getD i undef := by simp [List.getD_eq_getElem?_getD, List.getElem?_append_left (show i < cells.length by omega)]
            rw [e1]
            refine ⟨(HI.out i hik).1, ?_⟩
            have := ((HI.out i hik).2.next hb2').next ha
            exact Own.grown this (hown2.alloc _) hg4
          · obtain rfl : i = k := by omega
            simp only [if_neg hik]
            have e1 : (cells ++ [lentV G m]).getD i undef = lentV G m := by rw [← hcl]; simp [List.getD_eq_getElem?_getD]
            rw [e1, HM.out]
            refine ⟨rfl, ?_⟩
            have hLB : Lent W2 B G (bss.getD i []) := Own.base hL2 (by have := HBr.out; rw [HG.out] at this; exact this)
            have := hLB.next ha
            exact Own.grown this (hown2.alloc _) hg4
        · intro i j hi hj hij
          have hlt : ∀ t, t < k → g t < G := fun t ht => by rw [← HG.out]; exact (HI.out t ht).2.lt.2
          by_cases hik : i < k
          · by_cases hjk : j < k
            · simp only [if_pos hik, if_pos hjk]; exact HD.out i j hik hjk hij
            · simp only [if_pos hik, if_neg hjk]; exact Nat.ne_of_lt (hlt i hik)
          · by_cases hjk : j < k
            · simp only [if_neg hik, if_pos hjk]; exact Nat.ne_of_gt (hlt j hjk)
            · omega
      unfold lentV at HP
      clear hown c13 hL hL2 hb2 hb2'
      go_wp2_with (first | (at_builtin; refine wpList_append_own _ rfl _ _ 31 rfl B 22 i1 (.slice none 0 0) 1 24 Tryd.underlying31 hj1 hy0 hy1 hy2 rfl (by decide) (.slice a k p) k cells rfl (hown2.alloc _) ⟨W2.heap.size, 0, none⟩ 1 1 [.slice (some ⟨G, 0, none⟩) m (m + 3)] rfl rfl ?_ ?_ ?_ ?_ ?_ ?_) | fail)
      · exact cell_one_new _ _ _
      · intro u hu; simp at hu; subst hu; rfl
      · unfold maxLen; omega
      · omega
      · have := HS2.out; simp; omega
      · intro v4 W4 hown4 hgrow4 _
        obtain ⟨a3, p3, g3, rfl, ho4, hI4, hD4, hb4⟩ := HP.out W4 v4 hown4 hgrow4
        clear hown4 hgrow4 HP hown2
        go_wp2
        go_roundw
        case rel => exact ⟨k + 1, _, g3, a3, p3, by omega, by go_num, rfl, ho4, hI4, hD4, hb4⟩
        case measure => simp [intOf]; omega
    · have hkn' : k = n := by omega
      subst hkn'
      go_wp2
      go_ret
      refine ⟨_, g, rfl, ⟨cells, by rw [HN.out]; exact hown, ?_, ?_⟩, hbe⟩
      · rw [HN.out]; exact HI.out
      · rw [HN.out]; exact HD.out

set_option maxRecDepth 100000 in
/-- kept: yes. -/
theorem keptAll_any {w : World} {B : Nat} {v1 v2 : Value} {l : List (List Nat)} {g : Nat → Nat} (h1 : LS w B v1 l g) (h2 : VS w v2 l) (hF : Few l) :
    Calls Tryd.prog 24 #[v1, v2] w fun e w' => e = .returned (.bool true) ∧ ∃ m, w' = w.drewN m := by
  obtain ⟨a1, c1, rfl, f1⟩ := h1.form
  obtain ⟨a2, c2, rfl, f2⟩ := h2
  obtain ⟨n, hn⟩ : ∃ n, l.length = n := ⟨_, rfl⟩
  have hn7 : n ≤ 700 := by rw [← hn]; exact hF.1
  have HFw : Hid (Few l) := hF
  have HN : Hid (l.length = n) := hn
  rw [hn] at f1 f2 ⊢
  have F1 : Hid (_) := f1
  have F2 : Hid (_) := f2
  clear f1 f2 h1 hn hF
  go_enter Tryd.func24, Tryd.ntmps24
  go_wp2
  go_loopw [5] (fun i wr => ∃ k m : Nat, k ≤ n ∧ i = .int .i64 k ∧ wr = w.drewN m) (fun i _ => n - (intOf i).toNat)
  case atStart => exact ⟨0, 0, Nat.zero_le _, rfl, rfl⟩
  case round =>
    obtain ⟨k, m, hk, rfl, rfl⟩ := hrel
    by_cases hkn : k < n
    · obtain ⟨g1, rfl, e1⟩ := F1.out (by omega)
      obtain ⟨g2, o2, rfl, e2⟩ := F2.out (by omega)
      obtain ⟨hx1, hL⟩ := e1 k hkn
      obtain ⟨x2, hx2, hv2⟩ := e2 k hkn
      have hlen := HFw.out.len (show k < l.length by rw [HN.out]; exact hkn)
      have c : ∀ j, Calls Tryd.prog 17 #[lentV (g k) (l.getD k []).length, x2] ((w.drewN m).drewN j) fun e w' => e = .returned (.bool true) ∧ ∃ i, w' = ((w.drewN m).drewN j).drewN i := by
        intro j
        exact kept_any (w := (w.drewN m).drewN j) hL hv2 (by omega)
      have HW : Hid (∃ i, w.drewN m = w.drewN i) := ⟨m, rfl⟩
      have hy1 : (w.drewN m).cell? ⟨g1, k, none⟩ = some (lentV (g k) (l.getD k []).length) := hx1
      have hy2 : (w.drewN m).cell? ⟨g2, o2 + k, none⟩ = some x2 := hx2
      unfold lentV at c hy1
      clear hx1 hx2 hv2 e1 e2 hL
      generalize w.drewN m = W at c HW hy1 hy2 ⊢
      go_wp2
      go_quiet (first | (go_at_call 17; exact Calls.quiet_of (c _)) | fail)
      go_wp2
      go_roundw
      case rel =>
        obtain ⟨i, hi⟩ := HW.out
        exact ⟨k + 1, i + nq, by omega, by go_num, by rw [hi, World.drewN_drewN]⟩
      case measure => simp [intOf]; omega
    · have hkn' : k = n := by omega
      subst hkn'
      go_wp2
      go_ret
      exact ⟨rfl, _, rfl⟩
end Go.Proofs.YtngmleddlfkecaaDoor
