import Derived.Test.YtngmleddlfkecaaDoorY
namespace Go.Proofs.YtngmleddlfkecaaDoor
open Go Go.Proofs Go.RowKit

/-- What a slot's bytes hold. -/
def GoodP (d : List Nat) (bss rss : List (List Nat)) (n : Nat) : Prop :=
  headP d = true ∧ runP (d.drop 24) (countP d) = some (sizeP d, bss) ∧ ∃ k p, EndP ((d.drop 24).drop (sizeP d)) k p rss ∧ n = 24 + sizeP d + p

/-- What a scan tells. -/
def OutP (d : List Nat) (G : Nat) (bss rss : List (List Nat)) (n : Nat) (bad : Bool) : Prop :=
  (bad = true ∧ (headP d = false ∨ ∀ b, runP (d.drop 24) (countP d) ≠ some (sizeP d, b)) ∧ G = 0 ∧ bss = [] ∧ rss = [] ∧ n = 0) ∨ (bad = false ∧ GoodP d bss rss n ∧ G = genP d)

theorem OutP.unique {d : List Nat} {G1 G2 n1 n2 : Nat} {b1 r1 b2 r2 : List (List Nat)} {x1 x2 : Bool} (h1 : OutP d G1 b1 r1 n1 x1) (h2 : OutP d G2 b2 r2 n2 x2) : G1 = G2 ∧ b1 = b2 ∧ r1 = r2 ∧ n1 = n2 ∧ x1 = x2 := by
  have no : ∀ {b r : List (List Nat)} {n : Nat}, (headP d = false ∨ ∀ b, runP (d.drop 24) (countP d) ≠ some (sizeP d, b)) → GoodP d b r n → False := by
    intro b r n h g
    rcases h with h | h
    · rw [g.1] at h; exact absurd h (by decide)
    · exact h b g.2.1
  rcases h1 with ⟨rfl, ha, rfl, rfl, rfl, rfl⟩ | ⟨rfl, ha, rfl⟩ <;> rcases h2 with ⟨rfl, hb, rfl, rfl, rfl, rfl⟩ | ⟨rfl, hb, rfl⟩
  · exact ⟨rfl, rfl, rfl, rfl, rfl⟩
  · exact (no ha hb).elim
  · exact (no hb ha).elim
  · obtain ⟨_, hr1, k1, p1, he1, rfl⟩ := ha
    obtain ⟨_, hr2, k2, p2, he2, rfl⟩ := hb
    have e1 := hr1.symm.trans hr2
    simp only [Option.some.injEq, Prod.mk.injEq, true_and] at e1
    obtain ⟨rfl, rfl, rfl⟩ := he1.unique he2
    exact ⟨rfl, e1, rfl, rfl, rfl⟩

theorem runP_small {d : List Nat} : ∀ {k pos : Nat} {bs : List (List Nat)}, runP d k = some (pos, bs) → ∀ x ∈ bs, x.length ≤ 131072
  | 0, pos, bs, h => by
    simp only [runP, Option.some.injEq, Prod.mk.injEq] at h
    obtain ⟨rfl, rfl⟩ := h
    simp
  | k + 1, pos, bs, h => by
    obtain ⟨p, b, h1, h2⟩ := runP_back h
    have hst := runP_step h1 h2
    rw [h] at hst
    simp only [Option.some.injEq, Prod.mk.injEq] at hst
    rw [hst.2]
    intro x hx
    rcases List.mem_append.1 hx with hx | hx
    · exact runP_small h1 x hx
    · have := (frameP_len h2).2
      simp at hx
      subst hx
      unfold bodyP
      rw [List.length_take]
      omega

theorem OutP.small {d : List Nat} {G n : Nat} {b r : List (List Nat)} {x : Bool} (h : OutP d G b r n x) : (∀ y ∈ b, y.length ≤ 131072) ∧ (∀ y ∈ r, y.length ≤ 131072) ∧ 17 * b.length ≤ d.length ∧ 17 * r.length ≤ d.length ∧ n ≤ d.length + 24 := by
  rcases h with ⟨rfl, ha, rfl, rfl, rfl, rfl⟩ | ⟨rfl, ⟨_, h1, k, p, h2, rfl⟩, rfl⟩
  · simp
  · have f1 := runP_facts h1
    have f2 := runP_facts h2.1
    rw [List.length_drop] at f1
    rw [List.length_drop, List.length_drop] at f2
    exact ⟨runP_small h1, runP_small h2.1, by omega, by omega, by omega⟩

/-- The program's error, the document's. -/
def PErr (w : World) (v : Value) (bad : Bool) : Prop := if bad then ∃ q, v = .iface 67 (.pointer (some ⟨q, 0, none⟩)) ∧ FaultAt w q 0 43 else v = .nilIface
def RErr (w : World) (v : Value) (bad : Bool) : Prop := if bad then RFault w v 0 43 else v = .agg #[.slice none 0 0, .int .i64 0]

theorem PErr.next {w w' : World} {v : Value} {bad : Bool} (h : PErr w v bad) (hb : Below w.heap.size w w') : PErr w' v bad := by
  unfold PErr at *
  cases bad with
  | true => obtain ⟨q, rfl, hf⟩ := h; exact ⟨q, rfl, hf.next hb⟩
  | false => exact h
theorem RErr.next {w w' : World} {v : Value} {bad : Bool} (h : RErr w v bad) (hb : Below w.heap.size w w') : RErr w' v bad := by
  unfold RErr at *
  cases bad with
  | true => exact RFault.next h hb
  | false => exact h

theorem VV.nil (w : World) (B : Nat) : VV w B (.slice none 0 0) [] := ⟨[], World.ownsRow_nil _ _ _ _, by intro i hi; simp at hi⟩

theorem gen_eq {d : List Nat} (h : 24 ≤ d.length) : le ((d.drop 4).take 8) = genP d := by
  rcases le8 (d := d) 4 with h1 | h1
  · exact h1.symm
  · omega

/-- Scan. -/
theorem scan_any {w : World} {b off l cap : Nat} {d : List Nat} (h : At w b off d) (hT : Tab w) (hlen : d.length = l) (hc : l < cap) (hl : l ≤ 400000) :
    Calls Tryd.prog 10 #[.slice (some ⟨b, off, none⟩) l cap] w fun e w' => ∃ G bss rss n bad v1 v2 ve, OutP d G bss rss n bad ∧ e = .returned (.tuple #[.agg #[.int .u64 (G : Nat), v1, v2, .int .i64 (n : Nat)], ve]) ∧ VV w' (w.heap.size + 1) v1 bss ∧ VV w' (w.heap.size + 1) v2 rss ∧ PErr w' ve bad ∧ Below w.heap.size w w' := by
  cases hH : headP d with
  | false =>
    refine (scan_no1 h hT hlen hc hl hH).mono ?_
    rintro e w' ⟨q, rfl, hf, hb⟩
    exact ⟨0, [], [], 0, true, _, _, _, .inl ⟨rfl, .inl hH, rfl, rfl, rfl, rfl⟩, rfl, VV.nil _ _, VV.nil _ _, ⟨q, rfl, hf⟩, hb⟩
  | true =>
    by_cases hy : ∃ bss, runP (d.drop 24) (countP d) = some (sizeP d, bss)
    · obtain ⟨bss, hy⟩ := hy
      refine (scan_yes h hT hlen hc hl hH (end_iff.2 hy)).mono ?_
      rintro e w' ⟨k2, pos2, rss, v1, v2, rfl, hE, hV1, hV2, hb⟩
      exact ⟨genP d, bss, rss, 24 + sizeP d + pos2, false, v1, v2, _, .inr ⟨rfl, ⟨hH, hy, k2, pos2, hE, rfl⟩, rfl⟩, rfl, hV1, hV2, rfl, hb⟩
    · have hno : ∀ b, runP (d.drop 24) (countP d) ≠ some (sizeP d, b) := fun b hb => hy ⟨b, hb⟩
      refine (scan_no2 h hT hlen hc hl hH ?_).mono ?_
      · rintro k pos bss hE ⟨rfl, rfl⟩
        exact hno bss (end_iff.1 hE)
      · rintro e w' ⟨q, rfl, hf, hb⟩
        exact ⟨0, [], [], 0, true, _, _, _, .inl ⟨rfl, .inr hno, rfl, rfl, rfl, rfl⟩, rfl, VV.nil _ _, VV.nil _ _, ⟨q, rfl, hf⟩, hb⟩

theorem head_false {d : List Nat} (h : ¬ (le (d.take 4) = 21649229 ∧ le ((d.drop 20).take 4) = crc (d.take 20) ∧ le ((d.drop 4).take 8) ≠ 0 ∧ countP d ≤ 600)) (h24 : 24 ≤ d.length) (hd : ∀ x ∈ d, x < 256) : headP d = false := by
  cases hH : headP d with
  | false => rfl
  | true =>
    unfold headP summedP at hH
    simp only [Bool.and_eq_true, decide_eq_true_eq] at hH
    obtain ⟨⟨⟨hS, hm⟩, hG⟩, hC⟩ := hH
    exact absurd ⟨(magic_le hd (by omega)).2 hm, hS.2, by rw [gen_eq h24]; exact hG, hC⟩ h

theorem head_true {d : List Nat} (h : le (d.take 4) = 21649229 ∧ le ((d.drop 20).take 4) = crc (d.take 20) ∧ le ((d.drop 4).take 8) ≠ 0 ∧ countP d ≤ 600) (h24 : 24 ≤ d.length) (hd : ∀ x ∈ d, x < 256) : headP d = true := by
  unfold headP summedP
  simp only [Bool.and_eq_true, decide_eq_true_eq]
  exact ⟨⟨⟨⟨by omega, h.2.1⟩, (magic_le hd (by omega)).1 h.1⟩, by rw [← gen_eq h24]; exact h.2.2.1⟩, h.2.2.2⟩

/-- The document's Scan. -/
theorem rscan_any {w : World} {v : Value} {d : List Nat} (h : V w v d) (hl : d.length ≤ 400000) :
    Calls Tryd.prog 14 #[v] w fun e w' => ∃ G bss rss n bad v1 v2 vf, OutP d G bss rss n bad ∧ e = .returned (.tuple #[.agg #[.int .u64 (G : Nat), v1, v2, .int .i64 (n : Nat)], vf]) ∧ VV w' (w.heap.size + 3) v1 bss ∧ VV w' (w.heap.size + 3) v2 rss ∧ RErr w' vf bad ∧ Below w.heap.size w w' := by
  have fin : headP d = false → ∀ (e : Ending) (w' : World), (∃ vf, e = .returned (.tuple #[noScan, vf]) ∧ RFault w' vf 0 43 ∧ Below w.heap.size w w') → ∃ G bss rss n bad v1 v2 vf, OutP d G bss rss n bad ∧ e = .returned (.tuple #[.agg #[.int .u64 (G : Nat), v1, v2, .int .i64 (n : Nat)], vf]) ∧ VV w' (w.heap.size + 3) v1 bss ∧ VV w' (w.heap.size + 3) v2 rss ∧ RErr w' vf bad ∧ Below w.heap.size w w' := by
    rintro hH e w' ⟨vf, rfl, hf, hb⟩
    exact ⟨0, [], [], 0, true, _, _, vf, .inl ⟨rfl, .inl hH, rfl, rfl, rfl, rfl⟩, rfl, VV.nil _ _, VV.nil _ _, hf, hb⟩
  by_cases h24 : 24 ≤ d.length
  · rcases h with ⟨a1, c1, rfl, rfl⟩ | ⟨b, off, cap, rfl, hp1, hc, h⟩
    · exact absurd h24 (by decide)
    · by_cases hm : le (d.take 4) = 21649229
      · by_cases hs : le ((d.drop 20).take 4) = crc (d.take 20)
        · by_cases hg : le ((d.drop 4).take 8) = 0 ∨ 600 < countP d
          · refine (rscan_gen h rfl hc hl h24 hm hs hg).mono fun e w' => fin (head_false ?_ h24 h.2) e w'
            rintro ⟨_, _, h1, h2⟩
            rcases hg with hg | hg
            · exact h1 hg
            · omega
          · have hg1 : le ((d.drop 4).take 8) ≠ 0 := fun hh => hg (.inl hh)
            have hg2 : countP d ≤ 600 := by
              by_cases hh : countP d ≤ 600
              · exact hh
              · exact (hg (.inr (by omega))).elim
            have hH := head_true ⟨hm, hs, hg1, hg2⟩ h24 h.2
            refine (rscan_frames h rfl hc hl h24 hm hs hg1 hg2).mono ?_
            rintro e w' (⟨⟨vf, rfl, hf, hb⟩, hno⟩ | ⟨bss, k2, pos2, rss, v1, v2, rfl, hr, hE, hV1, hV2, hb⟩)
            · exact ⟨0, [], [], 0, true, _, _, vf, .inl ⟨rfl, .inr hno, rfl, rfl, rfl, rfl⟩, rfl, VV.nil _ _, VV.nil _ _, hf, hb⟩
            · exact ⟨_, bss, rss, _, false, v1, v2, _, .inr ⟨rfl, ⟨hH, hr, k2, pos2, hE, rfl⟩, gen_eq h24⟩, rfl, hV1, hV2, rfl, hb⟩
        · exact (rscan_sum h rfl hc hl h24 hm hs).mono fun e w' => fin (head_false (fun hh => hs hh.2.1) h24 h.2) e w'
      · exact (rscan_magic h rfl hc hl h24 hm).mono fun e w' => fin (head_false (fun hh => hm hh.1) h24 h.2) e w'
  · obtain ⟨ao, cap, rfl, _, _⟩ := h.form
    refine (rscan_short w ao d.length cap (by omega)).mono fun e w' => fin ?_ e w'
    cases hH : headP d with
    | false => rfl
    | true =>
      unfold headP at hH
      simp only [Bool.and_eq_true, decide_eq_true_eq] at hH
      have := summedP_len hH.1.1.1
      omega

/-- Is: yes. -/
theorem is_yes {w : World} {ve vf : Value} {bad : Bool} (h1 : PErr w ve bad) (h2 : RErr w vf bad) :
    Calls Tryd.prog 15 #[ve, vf] w fun e w' => e = .returned (.bool true) ∧ Below w.heap.size w w' := by
  cases bad with
  | false =>
    unfold PErr at h1
    unfold RErr at h2
    simp only [Bool.false_eq_true, if_false] at h1 h2
    subst h1 h2
    exact is_nil w
  | true =>
    obtain ⟨q, rfl, hf⟩ := h1
    obtain ⟨g, cg, rfl, g0, g1⟩ := h2
    exact is_one 43 (by decide) q g cg 0 w hf.1 hf.2.1 hf.2.2 g0 g1
end Go.Proofs.YtngmleddlfkecaaDoor
