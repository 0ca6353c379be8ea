import Derived.Test.YtngmleddlfkecaaDoorP
namespace Go.Proofs.YtngmleddlfkecaaDoor
open Go Go.Proofs Go.RowKit

theorem runP_back {d : List Nat} {k : Nat} {x : Nat × List (List Nat)} (h : runP d (k + 1) = some x) : ∃ pos bs, runP d k = some (pos, bs) ∧ frameP (d.drop pos) k = true := by
  simp only [runP] at h
  cases hr : runP d k with
  | none => rw [hr] at h; simp at h
  | some pb =>
    obtain ⟨p, b⟩ := pb
    rw [hr] at h
    simp only at h
    by_cases hf : frameP (d.drop p) k = true
    · exact ⟨p, b, rfl, hf⟩
    · rw [if_neg hf] at h; simp at h

theorem runP_down {d : List Nat} {j k : Nat} : ∀ {x : Nat × List (List Nat)}, runP d k = some x → j < k → ∃ pos bs, runP d j = some (pos, bs) ∧ frameP (d.drop pos) j = true := by
  induction k with
  | zero => intro x _ h; omega
  | succ k ih =>
    intro x h hj
    obtain ⟨pos, bs, h1, h2⟩ := runP_back h
    by_cases hjk : j = k
    · subst hjk; exact ⟨pos, bs, h1, h2⟩
    · exact ih h1 (by omega)

theorem EndP.unique {d : List Nat} {k1 p1 k2 p2 : Nat} {b1 b2 : List (List Nat)} (h1 : EndP d k1 p1 b1) (h2 : EndP d k2 p2 b2) : k1 = k2 ∧ p1 = p2 ∧ b1 = b2 := by
  have key : ∀ {k1 p1 k2 p2 : Nat} {b1 b2 : List (List Nat)}, EndP d k1 p1 b1 → EndP d k2 p2 b2 → ¬ k1 < k2 := by
    intro k1 p1 k2 p2 b1 b2 h1 h2 hlt
    obtain ⟨pos, bs, h3, h4⟩ := runP_down h2.1 hlt
    rw [h1.1] at h3
    simp only [Option.some.injEq, Prod.mk.injEq] at h3
    obtain ⟨rfl, rfl⟩ := h3
    rw [h1.2] at h4
    exact absurd h4 (by decide)
  have e : k1 = k2 := by
    have := key h1 h2
    have := key h2 h1
    omega
  subst e
  have := h1.1.symm.trans h2.1
  simp only [Option.some.injEq, Prod.mk.injEq] at this
  exact ⟨rfl, this.1, this.2⟩

theorem owns_base {w : World} {B B' n : Nat} {e : TypeId} {v : Value} {xs : List Value} (h : w.ownsRow B e 1 v n xs) (hb : B' ≤ B) : w.ownsRow B' e 1 v n xs := by
  refine ⟨h.1, ?_⟩
  rcases h.2 with h2 | ⟨g, cap, cur, rfl, h1, h2⟩
  · exact .inl h2
  · exact .inr ⟨g, cap, cur, rfl, by omega, h2⟩

theorem Own.base {w : World} {B B' : Nat} {v : Value} {bs : List Nat} (h : Own w B v bs) (hb : B' ≤ B) : Own w B' v bs := ⟨owns_base h.1 hb, h.2⟩
theorem Own.set {w : World} {B g i : Nat} {v : Value} {bs : List Nat} (h : Own w B v bs) (hg : g < B) (x : Value) : Own (w.setCell ⟨g, i, none⟩ x) B v bs := ⟨ownsRow_setCell_below h.1 (a := ⟨g, i, none⟩) hg x, h.2⟩
theorem VV.base {w : World} {B B' : Nat} {v : Value} {bss : List (List Nat)} (h : VV w B v bss) (hb : B' ≤ B) : VV w B' v bss := by
  obtain ⟨cells, h1, h2⟩ := h
  exact ⟨cells, owns_base h1 hb, fun i hi => (h2 i hi).base hb⟩
theorem VV.set {w : World} {B g i : Nat} {v : Value} {bss : List (List Nat)} (h : VV w B v bss) (hg : g < B) (x : Value) : VV (w.setCell ⟨g, i, none⟩ x) B v bss := by
  obtain ⟨cells, h1, h2⟩ := h
  exact ⟨cells, ownsRow_setCell_below h1 (a := ⟨g, i, none⟩) hg x, fun j hj => (h2 j hj).set hg x⟩

set_option maxRecDepth 100000 in
theorem scan_yes {w : World} {b off l cap : Nat} {d : List Nat} {bss : List (List Nat)} (h : At w b off d) (hT : Tab w) (hlen : d.length = l) (hc : l < cap) (hl : l ≤ 400000) (hH : headP d = true)
    (hyes : EndP ((d.drop 24).take (sizeP d)) (countP d) (sizeP d) bss) :
    Calls Tryd.prog 10 #[.slice (some ⟨b, off, none⟩) l cap] w fun e w' => ∃ k2 pos2 rss v1 v2, e = .returned (.tuple #[.agg #[.int .u64 (genP d : Nat), v1, v2, .int .i64 ((24 + sizeP d + pos2 : Nat) : Int)], .nilIface]) ∧ EndP ((d.drop 24).drop (sizeP d)) k2 pos2 rss ∧ VV w' (w.heap.size + 1) v1 bss ∧ VV w' (w.heap.size + 1) v2 rss ∧ Below w.heap.size w w' := by
  obtain ⟨W1, hW1⟩ : ∃ W1, w.alloc (.cells #[.int .u64 0, .slice none 0 0, .slice none 0 0, .int .i64 0] 34) = W1 := ⟨_, rfl⟩
  have hb1 : Below w.heap.size w W1 := hW1 ▸ (Below.refl _ _).alloc (Nat.le_refl _) _
  have c := head_yes (h.next hb1) (hT.next hb1) hlen hc hl hH
  have hs1 : w.heap.size < W1.heap.size := by rw [← hW1]; simp
  have HRC : Hid (Rc W1 w.heap.size) := by
    rw [← hW1]
    exact ⟨by simp, by simp, by simp, by simp, fun i => by simp⟩
  have h24 : 24 ≤ l := by
    unfold headP at hH
    simp only [Bool.and_eq_true, decide_eq_true_eq] at hH
    have := summedP_len hH.1.1.1
    omega
  have HA : Hid (At W1 b off d) := h.next hb1
  have HT : Hid (Tab W1) := hT.next hb1
  have HL : Hid (d.length = l) := hlen
  obtain ⟨G, hG⟩ : ∃ G, genP d = G := ⟨_, rfl⟩
  obtain ⟨N, hN⟩ : ∃ N, countP d = N := ⟨_, rfl⟩
  obtain ⟨S, hS⟩ : ∃ S, sizeP d = S := ⟨_, rfl⟩
  have hS32 : S < 4294967296 := by rw [← hS]; exact le4_lt h.2 16
  have hN6 : N ≤ 600 := by
    unfold headP at hH
    simp only [Bool.and_eq_true, decide_eq_true_eq] at hH
    rw [← hN]; exact hH.2
  rw [hG, hN, hS] at c
  rw [hN, hS] at hyes
  rw [hG, hS]
  have HYES : Hid (EndP ((d.drop 24).take S) N S bss) := hyes
  have hSl : S ≤ l - 24 := by
    have := (runP_facts hyes.1).2.1
    rw [List.length_take, List.length_drop, hlen] at this
    omega
  clear h hT hlen hH hG hN hS hyes
  have e24 : ¬ cap = 24 := by omega
  have ew := wrap_u64_small S (by omega)
  have eS : ¬ cap - 24 = S := by omega
  have cf : ∀ m, Calls Tryd.prog 31 #[.slice (some ⟨b, off + 24, none⟩) S (cap - 24)] (W1.drewN m) fun e w' => ∃ k pos bss v, e = .returned (.tuple #[v, .int .i64 (pos : Nat)]) ∧ EndP ((d.drop 24).take S) k pos bss ∧ VV w' (W1.drewN m).heap.size v bss ∧ Below (W1.drewN m).heap.size (W1.drewN m) w' := by
    intro m
    exact frames_some (W1.drewN m) b (off + 24) S (cap - 24) _ ((HA.out.drop 24).take S) HT.out (by rw [List.length_take, List.length_drop, HL.out]; omega) (by omega) (by omega)
  go_enter Tryd.func10, Tryd.ntmps10
  go_wp2_with (first | (go_at_call 30; refine c.mono ?_; rintro e w' ⟨rfl, m, rfl⟩) | fail)
  refine (cf m).mono ?_
  rintro e W2 ⟨k, pos, bss', v, rfl, HE, HV, hb2⟩
  obtain ⟨rfl, rfl, rfl⟩ := HE.unique HYES.out
  obtain ⟨a1, p1, rfl⟩ := frames_shape HE HV
  have hb2' : Below W1.heap.size W1 W2 := (below_drewN (Below.refl _ _) m).trans hb2
  have HB2 : Hid (Below W1.heap.size W1 W2) := hb2'
  have HR2 : Hid (Rc W2 w.heap.size) := HRC.out.next hb2'
  have hs2 : w.heap.size < W2.heap.size := Nat.lt_of_lt_of_le hs1 hb2'.size
  have cf2 : Calls Tryd.prog 31 #[.slice (some ⟨b, off + 24 + pos, none⟩) (l - 24 - pos) (cap - 24 - pos)] W2 fun e w' => ∃ k2 pos2 rss v, e = .returned (.tuple #[v, .int .i64 (pos2 : Nat)]) ∧ EndP ((d.drop 24).drop pos) k2 pos2 rss ∧ VV w' W2.heap.size v rss ∧ Below W2.heap.size W2 w' := 
    frames_some W2 b (off + 24 + pos) (l - 24 - pos) (cap - 24 - pos) _ (((HA.out.next hb2').drop 24).drop pos) (HT.out.next hb2') (by rw [List.length_drop, List.length_drop, HL.out]) (by omega) (by omega)
  have HV2 : Hid (VV W2 (w.heap.size + 1) (.slice a1 k p1) bss') := HV.base (by simp; omega)
  clear hb2' hb2 HV HE cf c
  go_wp2_with (go_at_call 31; fail)
  refine cf2.mono ?_
  rintro e W3 ⟨k2, pos2, rss, v2, rfl, HE2, HV3, hb3⟩
  obtain ⟨a2, p2, rfl⟩ := frames_shape HE2 HV3
  have hpos2 := (runP_facts HE2.1).2.1
  rw [List.length_drop, List.length_drop, HL.out] at hpos2
  obtain ⟨b0, b1, b2, b3, bf⟩ := HR2.out.next hb3
  have HE3 : Hid (EndP ((d.drop 24).drop pos) k2 pos2 rss) := HE2
  have HVa : Hid (VV W3 (w.heap.size + 1) (.slice a1 k p1) bss') := HV2.out.next hb3
  have HVb : Hid (VV W3 (w.heap.size + 1) (.slice a2 k2 p2) rss) := HV3.base (by omega)
  have HB3 : Hid (Below W2.heap.size W2 W3) := hb3
  clear cf2 HE2 HV3 hb3
  go_wp2
  have hsets := Rc.set ⟨b0, b1, b2, b3, bf⟩ (.int .u64 (G : Int)) (.slice a1 k p1) (.slice a2 k2 p2) (.int .i64 (24 + (pos : Int) + (pos2 : Int)))
  simp only at hsets
  obtain ⟨u0, u1, u2, u3⟩ := hsets
  refine bodyPost_ret (v := .tuple #[.agg #[.int .u64 (G : Int), .slice a1 k p1, .slice a2 k2 p2, .int .i64 (24 + (pos : Int) + (pos2 : Int))], .nilIface]) (by simp only [results, Tryd.results10]; simp [go_sem, u0, u1, u2, u3]) rfl ?_
  refine ⟨k2, pos2, rss, .slice a1 k p1, .slice a2 k2 p2, by simp, HE3, ?_, ?_, ?_⟩
  · exact (((HVa.out.set (by omega) _).set (by omega) _).set (by omega) _).set (by omega) _
  · exact (((HVb.out.set (by omega) _).set (by omega) _).set (by omega) _).set (by omega) _
  · exact (((((hb1.trans (HB2.out.mono hb1.size)).trans (HB3.out.mono (by omega))).setCell (p := ⟨w.heap.size, 0, none⟩) (Nat.le_refl _) _).setCell (p := ⟨w.heap.size, 1, none⟩) (Nat.le_refl _) _).setCell (p := ⟨w.heap.size, 2, none⟩) (Nat.le_refl _) _).setCell (p := ⟨w.heap.size, 3, none⟩) (Nat.le_refl _) _
end Go.Proofs.YtngmleddlfkecaaDoor
