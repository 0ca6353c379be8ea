import Derived.Test.YtohojghndnfgdaaDoorPg
/-
  DERIVED. A group read in two ways: no program in it; where the document's answer lies.
-/
namespace Go.Proofs.YtohojghndnfgdaaDoor
open Go Go.Proofs Go.RowKit

/-- The first byte that may not be there. -/
def scE (G : ByteArray) : Nat → Nat → Nat → Option (Nat × Int)
  | 0, _, _ => none
  | f + 1, p, c =>
    if barI ((G.get! p).toNat : Int) = true then some (p, 100)
    else if (G.get! p).toNat = 94 then (if c = 4 then some (p, 104) else scE G f (p + 1) (c + 1))
    else scE G f (p + 1) c
theorem scn_err (G : ByteArray) : ∀ (f p c fr : Nat) (acc : List ByteArray), (scn G f p c fr acc).1 = scE G f p c
  | 0, p, c, fr, acc => rfl
  | f + 1, p, c, fr, acc => by
    rw [scn, scE]
    split
    · rfl
    · split
      · split
        · rfl
        · exact scn_err G f _ _ _ _
      · exact scn_err G f _ _ _ _
theorem scn_pcs (G : ByteArray) : ∀ (f p c fr : Nat) (acc : List ByteArray), p + f = G.size → fr ≤ p → (∀ j, fr ≤ j → j < p → (G.get! j).toNat ≠ 94) → scE G f p c = none → c ≤ 4 → scn G f p c fr acc = (none, acc ++ cx G 94 fr) ∧ (cx G 94 fr).length + c ≤ 5
  | 0, p, c, fr, acc, hp, hf, hj, _, hc => by
    have hfx : fx G 94 fr = G.size := fx_is G 94 _ fr G.size rfl (by omega) (Nat.le_refl _) (fun j h1 h2 => hj j h1 (by omega)) (fun h => absurd h (Nat.lt_irrefl _))
    rw [scn, cx_last G 94 fr (by omega)]
    exact ⟨rfl, by simp; omega⟩
  | f + 1, p, c, fr, acc, hp, hf, hj, he, hc => by
    rw [scE] at he
    rw [scn]
    split at he
    · cases he
    · rename_i hb
      rw [if_neg hb]
      split at he
      · rename_i h94
        split at he
        · cases he
        · rename_i h4
          rw [if_pos h94, if_neg h4]
          have hfx : fx G 94 fr = p := fx_is G 94 _ fr p rfl hf (by omega) (fun j h1 h2 => hj j h1 h2) (fun _ => h94)
          obtain ⟨h1, h2⟩ := scn_pcs G f (p + 1) (c + 1) (p + 1) (acc ++ [G.extract fr p]) (by omega) (Nat.le_refl _) (fun j a b => absurd b (by omega)) he (by omega)
          rw [h1, cx_more G 94 fr (by omega), hfx, List.append_assoc]
          exact ⟨rfl, by rw [List.length_cons]; omega⟩
      · rename_i h94
        rw [if_neg h94]
        exact scn_pcs G f (p + 1) c fr acc (by omega) (by omega) (fun j a b => by
          by_cases hjp : j = p
          · subst hjp; exact h94
          · exact hj j a (by omega)) he hc
/-- What a group tells, as the document asks it. -/
theorem gR_doc (G : ByteArray) : ((scE G G.size 0 0 ≠ none) ∧ (gR G).1 = scE G G.size 0 0) ∨ (scE G G.size 0 0 = none ∧ 64 < rn G 0 ∧ (gR G).1 = some (0, 103)) ∨ (scE G G.size 0 0 = none ∧ ¬ 64 < rn G 0 ∧ gR G = (none, cx G 94 0) ∧ (cx G 94 0).length ≤ 5) := by
  by_cases h : scE G G.size 0 0 = none
  · obtain ⟨h1, h2⟩ := scn_pcs G G.size 0 0 0 [] (by omega) (Nat.le_refl _) (fun j a b => absurd b (by omega)) h (by omega)
    rw [List.nil_append] at h1
    by_cases h64 : 64 < rn G 0
    · exact .inr (.inl ⟨h, h64, gR_long h1 h64⟩)
    · exact .inr (.inr ⟨h, h64, gR_ok h1 h64, by omega⟩)
  · refine .inl ⟨h, ?_⟩
    unfold gR
    have := scn_err G G.size 0 0 0 []
    rw [this, if_pos h]
theorem rn_elems (G : ByteArray) : (relems G).length = rn G 0 := rfl

/-- Where the document's answer lies: the name, the fault, the name that is being filled, the groups. -/
structure DI (w wx : World) (B gb : Nat) (Gs : List ByteArray) (f : Nat → Value) : Prop where
  res : wx.rowIs B 25 15 (f15 [])
  flt : wx.rowIs (B + 1) 32 2 fN
  prt : wx.rowIs (B + 2) 25 15 f
  grp : ∀ k x, Gs[k]? = some x → wx.cell? ⟨gb, k, none⟩ = some (.string x)
  gbl : B + 2 < gb
  bel : Below B w wx
theorem DI.on {w wx wy : World} {B gb : Nat} {Gs : List ByteArray} {f : Nat → Value} (h : DI w wx B gb Gs f) (hb : Below wx.heap.size wx wy) : DI w wy B gb Gs f :=
  ⟨h.res.of_block (hb.block _ h.res.lt), h.flt.of_block (hb.block _ h.flt.lt), h.prt.of_block (hb.block _ h.prt.lt), fun k x hk => (hb.cell (cell_lt (h.grp k x hk))).trans (h.grp k x hk), h.gbl, h.bel.trans (hb.mono (Nat.le_of_lt h.res.lt))⟩
theorem DI.set {w wx : World} {B gb : Nat} {Gs : List ByteArray} {f : Nat → Value} (h : DI w wx B gb Gs f) (i : Nat) (v : Value) : DI w (wx.setCell ⟨B + 2, i, none⟩ v) B gb Gs (fun j => if j = i then v else f j) :=
  ⟨h.res.setOther (by show B ≠ B + 2; omega) _, h.flt.setOther (by show B + 1 ≠ B + 2; omega) _, h.prt.set i v, fun k x hk => (cell_set_off (by have := h.gbl; omega)).trans (h.grp k x hk), h.gbl, h.bel.setCell (p := ⟨B + 2, i, none⟩) (by show B ≤ B + 2; omega) _⟩
theorem DI.congr {w wx : World} {B gb : Nat} {Gs : List ByteArray} {f g : Nat → Value} (h : DI w wx B gb Gs f) (he : ∀ i, i < 15 → f i = g i) : DI w wx B gb Gs g :=
  ⟨h.res, h.flt, h.prt.congr he, h.grp, h.gbl, h.bel⟩
/-- One more piece of the group that is being filled. -/
theorem t15_next (acc : List (List ByteArray)) (L : List ByteArray) (c : Nat) (x : ByteArray) (hx : L[c]? = some x) (hc : c < 5) (i : Nat) : (if i = acc.length * 5 + c then Value.string x else f15 (acc ++ [L.take c]) i) = f15 (acc ++ [L.take (c + 1)]) i := by
  unfold f15
  rw [t15_app, t15_app]
  have hlt := (List.getElem?_eq_some_iff.1 hx).1
  by_cases hi : i = acc.length * 5 + c
  · rw [if_pos hi, if_pos (by omega), show i % 5 = c by omega]
    unfold t5
    rw [List.getD, List.getElem?_take, if_pos (by omega), hx]
    rfl
  · rw [if_neg hi]
    by_cases hd : i / 5 = acc.length
    · rw [if_pos hd, if_pos hd]
      unfold t5
      have hne : i % 5 ≠ c := by omega
      rw [List.getD, List.getD, List.getElem?_take, List.getElem?_take]
      by_cases h2 : i % 5 < c
      · rw [if_pos h2, if_pos (by omega)]
      · rw [if_neg h2, if_neg (by omega)]
    · rw [if_neg hd, if_neg hd]
theorem t15_start (acc : List (List ByteArray)) (L : List ByteArray) (i : Nat) : f15 acc i = f15 (acc ++ [L.take 0]) i := by
  unfold f15
  rw [t15_app]
  by_cases hd : i / 5 = acc.length
  · rw [if_pos hd]
    unfold t15
    rw [hd]
    simp [t5, List.getD]
  · rw [if_neg hd]
/-- Two results, each in a cell. -/
theorem results_row_cell {P : Program} {fn : Func} {p q : Tmp} {ty ty2 : TypeId} (h : fn.results = #[.cell p ty, .cell q ty2]) (tmps : Array Value) (w : World) (g : Nat) (t : TypeId) (cs : Array Value) (fr : Nat × Nat) (d : TypeDesc)
    (hp : tmps.getD p undef = .pointer (some ⟨g, 0, none⟩)) (hg : w.heap[g]? = some (.cells cs t fr))
    (hu : P.underlying ty = some d) (hd : (match d with | .struct _ | .array _ _ => true | _ => false) = true) (hi : (P.info? ty).map (·.size) = some cs.size)
    (g2 : Nat) (t2 : TypeId) (cs2 : Array Value) (fr2 : Nat × Nat) (d2 : TypeDesc)
    (hp2 : tmps.getD q undef = .pointer (some ⟨g2, 0, none⟩)) (hg2 : w.heap[g2]? = some (.cells cs2 t2 fr2))
    (hu2 : P.underlying ty2 = some d2) (hd2 : (match d2 with | .struct _ | .array _ _ => true | _ => false) = true) (hi2 : (P.info? ty2).map (·.size) = some cs2.size) :
    (results fn tmps).run P w = .ok (.tuple #[.agg cs, .agg cs2]) w := by
  have hp' : tmps[p]?.getD undef = .pointer (some ⟨g, 0, none⟩) := by simpa using hp
  have hq' : tmps[q]?.getD undef = .pointer (some ⟨g2, 0, none⟩) := by simpa using hp2
  simp [results, h, hp', hq', asAddr, run_loadVar_row w g t ty cs fr d hg hu hd hi, run_loadVar_row w g2 t2 ty2 cs2 fr2 d2 hg2 hu2 hd2 hi2]
/-- The answer laid down: the name whole, the fault. -/
def putD (W : World) (B : Nat) (cs : Array Value) (a b : Value) : World := (W.setRow B cs).setRow (B + 1) #[a, b]
theorem flt_block {W : World} {q : Nat} (h : W.rowIs q 32 2 fN) : W.heap[q]? = some (.cells #[.slice none 0 0, .int .i64 0] 32 (0, 0)) := by
  obtain ⟨c, hb, hn, hc⟩ := h
  have : c = #[.slice none 0 0, .int .i64 0] := by
    apply Array.ext_getElem?
    intro i
    by_cases hi : i < 2
    · rw [hc i hi]
      have : i = 0 ∨ i = 1 := by omega
      rcases this with rfl | rfl <;> rfl
    · rw [Array.getElem?_eq_none (by omega), Array.getElem?_eq_none (by show 2 ≤ i; omega)]
  rw [← this]
  exact hb
theorem RErr.other {W W' : World} {v : Value} {o : Option (Int × Int)} (h : RErr W v o) {B : Nat} (hn : ∀ q, W.cell? ⟨q, 1, none⟩ = W.cell? ⟨B, 1, none⟩ → W.cell? ⟨q, 0, none⟩ = W.cell? ⟨B, 0, none⟩ → ∀ a, W.cell? ⟨q, 1, none⟩ = some (.int .i64 a) → W.cell? ⟨q, 0, none⟩ = some (.string ⟨#[118, 97, 108, 117, 101]⟩) → False) (hk : ∀ k, k ≠ B → W'.heap[k]? = W.heap[k]?) : RErr W' v o := by
  cases o with
  | none => exact h
  | some y =>
    obtain ⟨q, k, rfl, h1, h2⟩ := h
    have hne : q ≠ B := by rintro rfl; exact hn q rfl rfl _ h2 h1
    exact ⟨q, k, rfl, (World.cell?_of_block (w := W) (hk q hne)).trans h1, (World.cell?_of_block (w := W) (hk q hne)).trans h2⟩
theorem putD_all {w W : World} {B gb : Nat} {Gs : List ByteArray} {f : Nat → Value} (h : DI w W B gb Gs f) (cs : Array Value) (a b : Value) :
    (putD W B cs a b).heap[B]? = some (.cells cs 25 (0, 0)) ∧ (putD W B cs a b).heap[B + 1]? = some (.cells #[a, b] 32 (0, 0)) ∧ W.heap[B]? = some (.cells (a15 []) 25 (0, 0)) ∧ (W.setRow B cs).heap[B + 1]? = some (.cells #[.slice none 0 0, .int .i64 0] 32 (0, 0)) ∧ (∀ {v o}, RErr W v o → RErr (putD W B cs a b) v o) ∧ Below B w (putD W B cs a b) := by
  have k0 := row_block h.res
  have k1 := flt_block h.flt
  have k2 := setRow_heap W B (a15 []) cs 25 (0, 0) k0
  have k3 : (W.setRow B cs).heap[B + 1]? = some (.cells #[.slice none 0 0, .int .i64 0] 32 (0, 0)) := (setRow_other W B (B + 1) cs (by omega)).trans k1
  refine ⟨?_, setRow_heap _ (B + 1) _ _ 32 (0, 0) k3, k0, k3, fun hv => ?_, ?_⟩
  · exact (setRow_other _ (B + 1) B _ (by omega)).trans k2
  · have e1 : RErr (W.setRow B cs) _ _ := hv.other (B := B) (fun q h1 _ x hx _ => by
      rw [h1, h.res.cell (i := 1) (by omega)] at hx
      cases hx) (fun k hk => setRow_other W B k cs hk)
    refine e1.other (B := B + 1) (fun q _ h2 x _ hs => ?_) (fun k hk => setRow_other _ (B + 1) k _ hk)
    have hc : (W.setRow B cs).cell? ⟨B + 1, 0, none⟩ = some (.slice none 0 0) := by simp [World.cell?, k3]
    rw [h2, hc] at hs
    cases hs
  · have b1 := below_setRow h.bel cs
    exact ⟨b1.os, b1.tape, b1.output, by show _ ≤ ((W.setRow B cs).setRow (B + 1) #[a, b]).heap.size; simp [World.setRow]; exact h.bel.size, fun k hk => (setRow_other _ (B + 1) k _ (by omega)).trans (b1.block k hk)⟩
theorem info32 : (Tryd.prog.info? 32).map (·.size) = some 2 := by kernel_rfl
end Go.Proofs.YtohojghndnfgdaaDoor
