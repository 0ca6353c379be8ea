import Derived.Test.YtohojghndnfgdaaGreatDoorPd
import Derived.Deep.MidRow
import Derived.Great.BuildSlice
/-
  DERIVED. ParseName.
-/
namespace Go.Proofs.YtohojghndnfgdaaGreatDoor
open Go Go.Proofs Go.RowKit

/-- Group by group: the first fault, else what the groups hold. -/
def pn : Nat → Nat → List ByteArray → List (List ByteArray) → Option (Int × Int) × List (List ByteArray)
  | _, _, [], acc => (none, acc)
  | g, fr, G :: Gs, acc =>
    if g = 3 then (some ((fr : Int) - 1, 104), [])
    else match (gR G).1 with
      | some x => (some ((fr : Int) + (x.1 : Int), x.2), [])
      | none => pn (g + 1) (fr + G.size + 1) Gs (acc ++ [(gR G).2])
/-- Fifteen texts. -/
def t15 (acc : List (List ByteArray)) (i : Nat) : ByteArray := t5 (acc.getD (i / 5) []) (i % 5)
def f15 (acc : List (List ByteArray)) : Nat → Value := fun i => .string (t15 acc i)
def a15 (acc : List (List ByteArray)) : Array Value := ((List.range 15).map (f15 acc)).toArray
theorem a15_size (acc : List (List ByteArray)) : (a15 acc).size = 15 := by simp [a15]
theorem a15_one (acc : List (List ByteArray)) : (a15 acc).all (·.oneCell') = true := by
  rw [Array.all_eq_true]
  intro i hi
  rw [a15_size] at hi
  simp only [a15, List.getElem_toArray, List.getElem_map]
  rfl
theorem row_block {w : World} {q : Nat} {acc : List (List ByteArray)} (h : w.rowIs q 42 15 (f15 acc)) : w.heap[q]? = some (.cells (a15 acc) 42 (0, 0)) := by
  obtain ⟨c, hb, hn, hc⟩ := h
  have : c = a15 acc := by
    apply Array.ext_getElem?
    intro i
    by_cases hi : i < 15
    · rw [hc i hi]
      simp [a15, hi]
    · rw [Array.getElem?_eq_none (by omega), Array.getElem?_eq_none (by rw [a15_size]; omega)]
  rw [← this]
  exact hb
theorem block_row {w : World} {q : Nat} {acc : List (List ByteArray)} (h : w.heap[q]? = some (.cells (a15 acc) 42 (0, 0))) : w.rowIs q 42 15 (f15 acc) :=
  ⟨a15 acc, h, a15_size acc, fun i hi => by simp [a15, hi]⟩
theorem t15_app (acc : List (List ByteArray)) (L : List ByteArray) (i : Nat) : t15 (acc ++ [L]) i = if i / 5 = acc.length then t5 L (i % 5) else t15 acc i := by
  unfold t15
  by_cases h : i / 5 = acc.length
  · rw [if_pos h, h]; simp [List.getD]
  · rw [if_neg h]
    by_cases h2 : i / 5 < acc.length
    · simp [List.getD, List.getElem?_append_left h2]
    · have e1 : (acc ++ [L])[i / 5]? = none := List.getElem?_eq_none (by simp; omega)
      have e2 : acc[i / 5]? = none := List.getElem?_eq_none (by omega)
      simp only [List.getD, e1, e2]
structure NI (w wx : World) (B : Nat) (acc : List (List ByteArray)) : Prop where
  res : wx.rowIs B 42 15 (f15 [])
  prt : wx.rowIs (B + 1) 42 15 (f15 acc)
  bel : Below B w wx
theorem NI.on {w wx wy : World} {B : Nat} {acc : List (List ByteArray)} (h : NI w wx B acc) (hb : Below wx.heap.size wx wy) : NI w wy B acc :=
  ⟨h.res.of_block (hb.block _ h.res.lt), h.prt.of_block (hb.block _ h.prt.lt), h.bel.trans (hb.mono (Nat.le_of_lt h.res.lt))⟩
theorem a5_list (L : List ByteArray) : (a5 L).toList = [.string (t5 L 0), .string (t5 L 1), .string (t5 L 2), .string (t5 L 3), .string (t5 L 4)] := rfl
theorem NI.put {w wx : World} {B : Nat} {acc : List (List ByteArray)} (h : NI w wx B acc) (L : List ByteArray) : NI w (wx.setCells (B + 1) (acc.length * 5) (a5 L).toList) B (acc ++ [L]) := by
  rw [a5_list]
  simp only [World.setCells]
  obtain ⟨k, hk⟩ : ∃ k, acc.length * 5 = k := ⟨_, rfl⟩
  rw [hk]
  have r := ((((h.prt.set k (.string (t5 L 0))).set (k + 1) (.string (t5 L 1))).set (k + 1 + 1) (.string (t5 L 2))).set (k + 1 + 1 + 1) (.string (t5 L 3))).set (k + 1 + 1 + 1 + 1) (.string (t5 L 4))
  have hB : ∀ {W : World} {i : Nat} {v : Value}, W.rowIs B 42 15 (f15 []) → (W.setCell ⟨B + 1, i, none⟩ v).rowIs B 42 15 (f15 []) := fun q => q.setOther (by show B ≠ B + 1; omega) _
  have hL : ∀ {W : World} {i : Nat} {v : Value}, Below B w W → Below B w (W.setCell ⟨B + 1, i, none⟩ v) := fun q => q.setCell (p := ⟨B + 1, _, none⟩) (by show B ≤ B + 1; omega) _
  refine ⟨hB (hB (hB (hB (hB h.res)))), r.congr (fun i hi => ?_), hL (hL (hL (hL (hL h.bel))))⟩
  show (if i = k + 1 + 1 + 1 + 1 then Value.string (t5 L 4) else if i = k + 1 + 1 + 1 then .string (t5 L 3) else if i = k + 1 + 1 then .string (t5 L 2) else if i = k + 1 then .string (t5 L 1) else if i = k then .string (t5 L 0) else f15 acc i) = f15 (acc ++ [L]) i
  unfold f15
  rw [t15_app]
  by_cases hd : i / 5 = acc.length
  · rw [if_pos hd]
    have hm : i = k + i % 5 := by omega
    have h5 : i % 5 = 0 ∨ i % 5 = 1 ∨ i % 5 = 2 ∨ i % 5 = 3 ∨ i % 5 = 4 := by omega
    rcases h5 with h5 | h5 | h5 | h5 | h5 <;> rw [h5] at hm ⊢
    · rw [if_neg (by omega), if_neg (by omega), if_neg (by omega), if_neg (by omega), if_pos (by omega)]
    · rw [if_neg (by omega), if_neg (by omega), if_neg (by omega), if_pos (by omega)]
    · rw [if_neg (by omega), if_neg (by omega), if_pos (by omega)]
    · rw [if_neg (by omega), if_pos (by omega)]
    · rw [if_pos (by omega)]
  · rw [if_neg hd, if_neg (by omega), if_neg (by omega), if_neg (by omega), if_neg (by omega), if_neg (by omega)]
theorem NI.there {w wx : World} {B : Nat} {acc : List (List ByteArray)} (h : NI w wx B acc) (hl : acc.length < 3) : wx.there (B + 1) (acc.length * 5) 5 := fun j hj =>
  ⟨by rw [h.prt.cell (i := acc.length * 5 + j) (by omega)]; rfl, h.prt.frozen _⟩
/-- A result that lies in a cell, beside one that lies in a slot. -/
theorem results_row_slot {P : Program} {fn : Func} {p q : Tmp} {ty : TypeId} (h : fn.results = #[.cell p ty, .tmp q]) (tmps : Array Value) (w : World) (g : Nat) (t : TypeId) (cs : Array Value) (fr : Nat × Nat) (d : TypeDesc)
    (hp : tmps.getD p undef = .pointer (some ⟨g, 0, none⟩)) (hg : w.heap[g]? = some (.cells cs t fr)) (v : Value) (hq : tmps.getD q undef = v)
    (hu : P.underlying ty = some d) (hd : (match d with | .struct _ | .array _ _ => true | _ => false) = true) (hi : (P.info? ty).map (·.size) = some cs.size) :
    (results fn tmps).run P w = .ok (.tuple #[.agg cs, v]) w := by
  have hp' : tmps[p]?.getD undef = .pointer (some ⟨g, 0, none⟩) := by simpa using hp
  have hq' : tmps[q]?.getD undef = v := by simpa using hq
  simp [results, h, hp', hq', asAddr, run_loadVar_row w g t ty cs fr d hg hu hd hi]
theorem info25 : (Tryz.prog.info? 42).map (·.size) = some 15 := by kernel_rfl
theorem info22 : (Tryz.prog.info? 39).map (·.size) = some 5 := by kernel_rfl
end Go.Proofs.YtohojghndnfgdaaGreatDoor
