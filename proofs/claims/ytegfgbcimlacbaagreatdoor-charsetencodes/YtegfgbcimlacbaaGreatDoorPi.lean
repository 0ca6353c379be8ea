
import Derived.Test.YtegfgbcimlacbaaGreatDoorPg
import Derived.Test.YtegfgbcimlacbaaGreatDoorPh
import Derived.Lib.QuietBelow
/-
  DERIVED. Bytes read as a text.
-/
namespace Go.Proofs.YtegfgbcimlacbaaGreatDoor
open Go Go.Proofs Go.RowKit

def cellsZ (out : List Int) : List Value := out.map (Value.int .u8)

/-- What bytes are as a text, from a place on: the bytes of it, or where they are refused and why. -/
def rdS (x : Bool) (kc ke : ByteArray) (a : Row) (R : List Row) (s : ByteArray) : Nat → Nat → Row → List Int → Except (Nat × Int) (List Int)
  | 0, _, _, out => .ok out
  | f + 1, at', h, out =>
    if hat : at' < s.size then
      if (x && decide ((s[at']'hat).toNat = 27)) = true then
        if (turnS (s.extract at' s.size) (a :: R) h).2 = true then rdS x kc ke a R s f (at' + 3) (turnS (s.extract at' s.size) (a :: R) h).1 out else .error (at', 87)
      else if (headS (a.1 == 6) kc h (s[at']'hat).toNat (s.extract at' s.size)).2 = 0 then .error (at', 86)
      else rdS x kc ke a R s f (at' + (headS (a.1 == 6) kc h (s[at']'hat).toNat (s.extract at' s.size)).2)
        (if hasR ke ((headS (a.1 == 6) kc h (s[at']'hat).toNat (s.extract at' s.size)).1 : Nat) = true then a else h)
        (out ++ Lib.encodeRuneZ ((headS (a.1 == 6) kc h (s[at']'hat).toNat (s.extract at' s.size)).1 : Nat))
    else .ok out

theorem rdS_past (x : Bool) (kc ke : ByteArray) (a : Row) (R : List Row) (s : ByteArray) (f at' : Nat) (h : Row) (out : List Int) (hp : s.size ≤ at') : rdS x kc ke a R s f at' h out = .ok out := by
  cases f with
  | zero => rfl
  | succ f => rw [rdS, dif_neg (by omega)]

/-- So much is enough. -/
theorem rdS_fuel (x : Bool) (kc ke : ByteArray) (a : Row) (R : List Row) (s : ByteArray) : ∀ (f g at' : Nat) (h : Row) (out : List Int), s.size - at' ≤ f → s.size - at' ≤ g → rdS x kc ke a R s f at' h out = rdS x kc ke a R s g at' h out
  | 0, g, at', h, out, hf, _ => by rw [rdS_past x kc ke a R s g at' h out (by omega)]; rfl
  | f + 1, 0, at', h, out, _, hg => by rw [rdS_past x kc ke a R s (f + 1) at' h out (by omega)]; rfl
  | f + 1, g + 1, at', h, out, hf, hg => by
    rw [rdS, rdS]
    by_cases hat : at' < s.size
    · rw [dif_pos hat, dif_pos hat]
      split
      · split
        · exact rdS_fuel x kc ke a R s f g _ _ _ (by omega) (by omega)
        · rfl
      · split
        · rfl
        · exact rdS_fuel x kc ke a R s f g _ _ _ (by omega) (by omega)
    · rw [dif_neg hat, dif_neg hat]

structure RdI (w : World) (Bk Bh : Nat) (kc ke : ByteArray) (h : Row) (wx : World) : Prop where
  b : Below w.heap.size w wx
  k0 : wx.cell? ⟨Bk, 0, none⟩ = some (.string kc)
  k1 : wx.cell? ⟨Bk, 1, none⟩ = some (.string ke)
  r : Row5 wx Bh 0 h
  f : ∀ i, wx.frozen? ⟨Bh, i, none⟩ = false
theorem RdI.on {w wx wy : World} {Bk Bh : Nat} {kc ke : ByteArray} {h : Row} (i : RdI w Bk Bh kc ke h wx) (hb : Below wx.heap.size wx wy) : RdI w Bk Bh kc ke h wy :=
  ⟨i.b.trans (hb.mono i.b.size), (hb.cell (p := ⟨Bk, 0, none⟩) (cell_lt i.k0)).trans i.k0, (hb.cell (p := ⟨Bk, 1, none⟩) (cell_lt i.k1)).trans i.k1, i.r.on hb (cell_lt i.r.c0), fun j => (hb.frozen (p := ⟨Bh, j, none⟩) (show Bh < _ from cell_lt i.r.c0)).trans (i.f j)⟩
theorem row5_grown {w w' : World} {g o : Nat} {r : Row} {row : Option Nat} (h : Row5 w g o r) (hg : w.grownBy w' row) (hne : some g ≠ row) : Row5 w' g o r :=
  have hb : w'.heap[g]? = w.heap[g]? := hg.block g (cell_lt h.c0) hne
  ⟨(World.cell?_of_block (a := ⟨g, o, none⟩) hb).trans h.c0, (World.cell?_of_block (a := ⟨g, o + 1, none⟩) hb).trans h.c1, (World.cell?_of_block (a := ⟨g, o + 2, none⟩) hb).trans h.c2, (World.cell?_of_block (a := ⟨g, o + 3, none⟩) hb).trans h.c3, (World.cell?_of_block (a := ⟨g, o + 4, none⟩) hb).trans h.c4⟩
theorem RdI.grown {w wx wy : World} {Bk Bh : Nat} {kc ke : ByteArray} {h : Row} {row : Option Nat} (i : RdI w Bk Bh kc ke h wx) (hg : wx.grownBy wy row) (hr : ∀ r, row = some r → w.heap.size ≤ r ∧ r ≠ Bk ∧ r ≠ Bh) : RdI w Bk Bh kc ke h wy := by
  have hk : wy.heap[Bk]? = wx.heap[Bk]? := hg.block Bk (cell_lt i.k0) (fun e => (hr Bk e.symm).2.1 rfl)
  have hne : some Bh ≠ row := fun e => (hr Bh e.symm).2.2 rfl
  have hh : wy.heap[Bh]? = wx.heap[Bh]? := hg.block Bh (cell_lt i.r.c0) hne
  exact ⟨i.b.grown hg i.b.size (fun r e => (hr r e).1), (World.cell?_of_block (a := ⟨Bk, 0, none⟩) hk).trans i.k0, (World.cell?_of_block (a := ⟨Bk, 1, none⟩) hk).trans i.k1, row5_grown i.r hg hne, fun j => (World.frozen?_of_block (a := ⟨Bh, j, none⟩) hh).trans (i.f j)⟩

/-- A row written over another. -/
def rowSet (W : World) (g : Nat) (r : Row) : World := ((((W.setCell ⟨g, 0, none⟩ (.int .i64 (r.1 : Int))).setCell ⟨g, 1, none⟩ (.string r.2.1)).setCell ⟨g, 2, none⟩ (.string (sp (3 * r.1 + 2)))).setCell ⟨g, 3, none⟩ (.func (.func (mfN r.1)) #[] #[])).setCell ⟨g, 4, none⟩ (.func (.func 75) #[] (caps r.2.2))
theorem set_grown (W : World) (g i : Nat) (v : Value) : W.grownBy (W.setCell ⟨g, i, none⟩ v) (some g) :=
  ⟨rfl, rfl, rfl, by simp, fun k _ hk => Below.heap_setCell _ _ _ k (fun e => hk (by rw [e]))⟩
theorem rowSet_grown (W : World) (g : Nat) (r : Row) : W.grownBy (rowSet W g r) (some g) :=
  ((((set_grown W g 0 _).trans (set_grown _ g 1 _)).trans (set_grown _ g 2 _)).trans (set_grown _ g 3 _)).trans (set_grown _ g 4 _)
theorem RdI.turn {w wx : World} {Bk Bh : Nat} {kc ke : ByteArray} {h : Row} (i : RdI w Bk Bh kc ke h wx) (hne : Bk ≠ Bh) (hle : w.heap.size ≤ Bh) (r : Row) : RdI w Bk Bh kc ke r (rowSet wx Bh r) := by
  have hg := rowSet_grown wx Bh r
  have hk : (rowSet wx Bh r).heap[Bk]? = wx.heap[Bk]? := hg.block Bk (cell_lt i.k0) (fun e => hne (by cases e; rfl))
  refine ⟨i.b.grown hg i.b.size (fun k e => by cases e; exact hle), (World.cell?_of_block (a := ⟨Bk, 0, none⟩) hk).trans i.k0, (World.cell?_of_block (a := ⟨Bk, 1, none⟩) hk).trans i.k1, row_written r i.r.c0 i.r.c1 i.r.c2 i.r.c3 i.r.c4, fun j => ?_⟩
  unfold rowSet
  rw [World.frozen?_setCell, World.frozen?_setCell, World.frozen?_setCell, World.frozen?_setCell, World.frozen?_setCell]
  exact i.f j

end Go.Proofs.YtegfgbcimlacbaaGreatDoor
