import Derived.Test.YtohojghndnfgdaaGreatDoorPl
/-
  DERIVED. PrintName.
-/
namespace Go.Proofs.YtohojghndnfgdaaGreatDoor
open Go Go.Proofs Go.RowKit

/-- Group by group: the first fault, else the texts. -/
def prn : Nat → List (List ByteArray) → List ByteArray → Option (Int × Int) × List ByteArray
  | _, [], ts => (none, ts)
  | g, L :: Ls, ts => match (GT L).1 with
    | some x => (some ((5 * g : Nat) + (x.1 : Int), x.2), [])
    | none => prn (g + 1) Ls (ts ++ [(GT L).2])
def l3 (ts : List ByteArray) : List (List UInt8) := [(t5 ts 0).data.toList, (t5 ts 1).data.toList, (t5 ts 2).data.toList]
def topB (ts : List ByteArray) : ByteArray := ⟨(Lib.join (dropE (l3 ts)) [61]).toArray⟩
/-- What PrintName tells. -/
def PRN (P : List (List ByteArray)) : Option (Int × Int) × ByteArray := match prn 0 P [] with
  | (some e, _) => (some e, ⟨#[]⟩)
  | (none, ts) => (none, topB ts)
theorem GT_none {L : List ByteArray} (h : (GT L).1 = none) : (GT L).2 = gB L ∧ ∀ j, j < 5 → okc (t5 L j) = true := by
  unfold GT at h ⊢
  cases he : gE L with
  | some c => rw [he] at h; cases h
  | none =>
    rw [he] at h
    dsimp only at h ⊢
    by_cases h64 : 64 < rn (gB L) 0
    · rw [if_pos h64] at h; cases h
    · rw [if_neg h64]
      refine ⟨rfl, fun j hj => ?_⟩
      unfold gE at he
      split at he
      · cases he
      · rename_i h0
        split at he
        · cases he
        · rename_i h1
          split at he
          · cases he
          · rename_i h2
            split at he
            · cases he
            · rename_i h3
              split at he
              · cases he
              · rename_i h4
                rcases (by omega : j = 0 ∨ j = 1 ∨ j = 2 ∨ j = 3 ∨ j = 4) with rfl | rfl | rfl | rfl | rfl
                · simpa using h0
                · simpa using h1
                · simpa using h2
                · simpa using h3
                · simpa using h4
theorem join_no (c : UInt8) (sep : List UInt8) (hs : c ∉ sep) : ∀ (xs : List (List UInt8)), (∀ x ∈ xs, c ∉ x) → c ∉ Lib.join xs sep
  | [], _ => by simp [Lib.join, List.intercalate]
  | [x], h => by rw [Lib.join_one]; exact h x (by simp)
  | x :: y :: l, h => by
    have ih := join_no c sep hs (y :: l) (fun z hz => h z (by simp [hz]))
    have e : Lib.join (x :: y :: l) sep = x ++ (sep ++ Lib.join (y :: l) sep) := by simp [Lib.join, List.intercalate, List.intersperse]
    rw [e, List.mem_append, List.mem_append]
    rintro (h1 | h1 | h1)
    · exact h x (by simp) h1
    · exact hs h1
    · exact ih h1
theorem dropE_mem {xs : List (List UInt8)} {x : List UInt8} (h : x ∈ dropE xs) : x ∈ xs := by
  unfold dropE at h
  rw [List.mem_reverse] at h
  exact List.mem_reverse.1 ((List.dropWhile_sublist _).mem h)
theorem gB_no {L : List ByteArray} (h : ∀ j, j < 5 → okc (t5 L j) = true) : (61 : UInt8) ∉ (gB L).data.toList := by
  show (61 : UInt8) ∉ (Lib.join (dropE (l5 L)) [94]).toArray.toList
  rw [List.toList_toArray]
  exact join_no 61 [94] (by decide) _ (fun x hx => ((l5_no h) x (dropE_mem hx)).2)
theorem idx15 (P : List (List ByteArray)) (g : Nat) (hg : g < 3) (w : World) : (Instr.index 40 (.agg (a15 P)) (.int .i64 (g : Int))).run Tryz.prog w = .ok (.agg #[.string (t5 (P.getD g []) 0), .string (t5 (P.getD g []) 1), .string (t5 (P.getD g []) 2), .string (t5 (P.getD g []) 3), .string (t5 (P.getD g []) 4)]) w :=
  match g, hg with
  | 0, _ => by kernel_rfl
  | 1, _ => by kernel_rfl
  | 2, _ => by kernel_rfl
theorem row3_new (w : World) : (w.alloc (.cells #[.string ⟨#[]⟩, .string ⟨#[]⟩, .string ⟨#[]⟩] 63)).rowIs w.heap.size 63 3 (f5 []) :=
  World.rowIs_alloc w #[.string ⟨#[]⟩, .string ⟨#[]⟩, .string ⟨#[]⟩] 63 (f5 []) (fun i hi => by
    have h3 : i = 0 ∨ i = 1 ∨ i = 2 := by simp at hi; omega
    rcases h3 with rfl | rfl | rfl <;> rfl)
structure TX (w wx : World) (B : Nat) (ts : List ByteArray) : Prop where
  row : wx.rowIs (B + 1) 63 3 (f5 ts)
  bel : Below B w wx
  lt : B < wx.heap.size
theorem TX.on {w wx wy : World} {B : Nat} {ts : List ByteArray} (h : TX w wx B ts) (hb : Below wx.heap.size wx wy) : TX w wy B ts := ⟨h.row.of_block (hb.block _ h.row.lt), h.bel.trans (hb.mono (Nat.le_of_lt h.lt)), Nat.lt_of_lt_of_le h.lt hb.size⟩
theorem TX.put {w wx : World} {B : Nat} {ts : List ByteArray} (h : TX w wx B ts) (x : ByteArray) : TX w (wx.setCell ⟨B + 1, ts.length, none⟩ (.string x)) B (ts ++ [x]) := by
  refine ⟨?_, h.bel.setCell (p := ⟨B + 1, ts.length, none⟩) (by show B ≤ B + 1; omega) _, by rw [World.size_setCell]; exact h.lt⟩
  refine (h.row.set ts.length (.string x)).congr (fun i _ => ?_)
  show (if i = ts.length then Value.string x else f5 ts i) = f5 (ts ++ [x]) i
  unfold f5 t5
  rw [getD_app]
  by_cases hi : i = ts.length
  · rw [if_pos hi, if_pos hi]
  · rw [if_neg hi, if_neg hi]
theorem prn_len : ∀ (Ls : List (List ByteArray)) (g : Nat) (ts us : List ByteArray), prn g Ls ts = (none, us) → us.length = ts.length + Ls.length
  | [], g, ts, us, h => by rw [prn] at h; obtain ⟨_, rfl⟩ := Prod.mk.inj h; rfl
  | L :: Ls, g, ts, us, h => by
    rw [prn] at h
    cases hL : (GT L).1 with
    | some x => rw [hL] at h; cases h
    | none =>
      rw [hL] at h
      have := prn_len Ls (g + 1) _ us h
      rw [this, List.length_append, List.length_singleton, List.length_cons]
      omega
end Go.Proofs.YtohojghndnfgdaaGreatDoor
