
import Derived.Test.YtegfgbcimlacbaaGreatDoorTa
import Derived.Lib.OthersKept
/-
  DERIVED. The loop that writes a text.
-/
namespace Go.Proofs.YtegfgbcimlacbaaGreatDoor
open Go Go.Proofs Go.RowKit

def fffd : ByteArray := ⟨#[239, 191, 189]⟩
def brk (T : ByteArray) (r : Int) : Bool := decide (r = 65533) && !(pre T fffd)

set_option maxRecDepth 100000 in
theorem broken_any (w : World) (T : ByteArray) (r : Int) : Calls Tryz.prog 36 #[.string T, .int .i32 r] w fun e w' => e = .returned (.bool (brk T r)) ∧ w = w' := by
  have c := pre_any w T fffd
  unfold brk
  by_cases hr : r = 65533
  · subst hr
    unfold fffd at *
    generalize pre T ⟨#[239, 191, 189]⟩ = b at *
    go_enter Tryz.func36, Tryz.ntmps36
    go_wp2_with (go_at_call 52; refine c.mono ?_; rintro e w' ⟨rfl, rfl⟩)
    go_ret
    exact ⟨by simp, rfl⟩
  · have hd : (r == 65533) = false := by simpa using hr
    go_enter Tryz.func36, Tryz.ntmps36
    go_wp2
    go_ret
    exact ⟨by simp [hr], rfl⟩

/-- What is written of a text, from a place on. -/
def wrS (P : Row → Int → List Int × Row) (kc ke : ByteArray) (a : Row) (R : List Row) (s : ByteArray) : Nat → Nat → Row → List Int → Except (Nat × Int) (List Int)
  | 0, _, _, out => .ok out
  | f + 1, at', h, out =>
    if at' < s.size then
      if plainR kc ((Utf8.decode s at').1 : Nat) = true then wrS P kc ke a R s f (at' + (Utf8.decode s at').2) (if hasR ke ((Utf8.decode s at').1 : Nat) = true then a else h) (out ++ [((Utf8.decode s at').1 : Int)])
      else if (!(hasS a R ((Utf8.decode s at').1 : Nat)) || brk (s.extract at' s.size) ((Utf8.decode s at').1 : Nat)) = true then .error (at', 88)
      else wrS P kc ke a R s f (at' + (Utf8.decode s at').2) (P h ((Utf8.decode s at').1 : Nat)).2 (out ++ (P h ((Utf8.decode s at').1 : Nat)).1)
    else .ok out
theorem wrS_past (P : Row → Int → List Int × Row) (kc ke : ByteArray) (a : Row) (R : List Row) (s : ByteArray) (f at' : Nat) (h : Row) (out : List Int) (hp : s.size ≤ at') : wrS P kc ke a R s f at' h out = .ok out := by
  cases f with
  | zero => rfl
  | succ f => rw [wrS, if_neg (by omega)]
theorem dec_pos (s : ByteArray) (at' : Nat) (h : at' < s.size) : 1 ≤ (Utf8.decode s at').2 := by
  rcases Nat.lt_or_ge (s[at']'h).toNat 128 with hb | hb
  · rw [decode_ascii s at' h hb]; exact Nat.le_refl _
  · exact (decode_high s at' h hb).2
theorem wrS_fuel (P : Row → Int → List Int × Row) (kc ke : ByteArray) (a : Row) (R : List Row) (s : ByteArray) : ∀ (f g at' : Nat) (h : Row) (out : List Int), s.size - at' ≤ f → s.size - at' ≤ g → wrS P kc ke a R s f at' h out = wrS P kc ke a R s g at' h out
  | 0, g, at', h, out, hf, _ => by rw [wrS_past P kc ke a R s g at' h out (by omega)]; rfl
  | f + 1, 0, at', h, out, _, hg => by rw [wrS_past P kc ke a R s (f + 1) at' h out (by omega)]; rfl
  | f + 1, g + 1, at', h, out, hf, hg => by
    rw [wrS, wrS]
    by_cases hat : at' < s.size
    · have hw := dec_pos s at' hat
      rw [if_pos hat, if_pos hat]
      split
      · exact wrS_fuel P kc ke a R s f g _ _ _ (by omega) (by omega)
      · split
        · rfl
        · exact wrS_fuel P kc ke a R s f g _ _ _ (by omega) (by omega)
    · rw [if_neg hat, if_neg hat]

/-- What writing one rune does. -/
def PutOK (q : Nat) (v : Value) (a : Row) (R : List Row) (x : Bool) (P : Row → Int → List Int × Row) : Prop :=
  ∀ (w : World) (h : Row) (u : Value) (base : Nat) (out : List Int) (r : Int), 0 ≤ r → r ≤ 1114111 → SetIn w q v (a :: R) x → h ∈ a :: R → hasS a R r = true → asc r = false → Tabs w → w.ownsRow base 5 1 u out.length (cellsZ out) → (u = .slice none 0 0 ∨ 0 < out.length) → out.length ≤ 300000 → base ≤ w.heap.size → (∀ b ∈ a :: R, b.2.2 + 1 < base) →
    (Calls Tryz.prog 37 #[.pointer (some ⟨q, 0, none⟩), u, rowV h, .int .i32 r] w fun e w' => ∃ v', e = .returned (.tuple #[v', rowV (P h r).2]) ∧ w'.ownsRow base 5 1 v' (out ++ (P h r).1).length (cellsZ (out ++ (P h r).1)) ∧ SetIn w' q v (a :: R) x ∧ KB (a :: R) base w w') ∧ (P h r).2 ∈ a :: R ∧ 0 < (P h r).1.length ∧ (P h r).1.length ≤ 4 ∧ ByteZ (P h r).1

structure WrI (w : World) (B0 B1 B2 q : Nat) (v : Value) (a : Row) (R : List Row) (x : Bool) (kc ke : ByteArray) (h : Row) (s : ByteArray) (pos : Nat) (wx : World) : Prop where
  kb : KB (a :: R) w.heap.size w wx
  st : SetIn wx q v (a :: R) x
  k0 : wx.cell? ⟨B0, 0, none⟩ = some (.string kc)
  k1 : wx.cell? ⟨B0, 1, none⟩ = some (.string ke)
  r : Row5 wx B1 0 h
  f : ∀ i, wx.frozen? ⟨B1, i, none⟩ = false
  i : wx.heap[B2]? = some (.stringIter s pos)

section
variable {w : World} {B0 B1 B2 q : Nat} {v : Value} {a : Row} {R : List Row} {x : Bool} {kc ke : ByteArray} {h : Row} {s : ByteArray} {pos : Nat} {wx wy : World}
theorem WrI.size (i : WrI w B0 B1 B2 q v a R x kc ke h s pos wx) : B2 < wx.heap.size := (Array.getElem?_eq_some_iff.1 i.i).1
theorem row5_same {g : Nat} {r : Row} (i : Row5 wx g 0 r) (e : wy.heap[g]? = wx.heap[g]?) : Row5 wy g 0 r :=
  ⟨(World.cell?_of_block e).trans i.c0, (World.cell?_of_block e).trans i.c1, (World.cell?_of_block e).trans i.c2, (World.cell?_of_block e).trans i.c3, (World.cell?_of_block e).trans i.c4⟩
theorem WrI.step (i : WrI w B0 B1 B2 q v a R x kc ke h s pos wx) (h0 : w.heap.size ≤ B0) (h01 : B0 < B1) (h12 : B1 < B2) (hfar : ∀ b ∈ a :: R, b.2.2 + 1 < w.heap.size) (hs : SetIn wy q v (a :: R) x) (hk : KB (a :: R) (B2 + 1) wx wy) : WrI w B0 B1 B2 q v a R x kc ke h s pos wy := by
  have hn : ∀ j, w.heap.size ≤ j → ∀ b ∈ a :: R, j ≠ b.2.2 + 1 := fun j hj b hb => by have := hfar b hb; omega
  have e0 := hk.block B0 (by omega) (hn _ (by omega))
  have e1 := hk.block B1 (by omega) (hn _ (by omega))
  have e2 := hk.block B2 (by omega) (hn _ (by omega))
  exact ⟨i.kb.trans (hk.mono (by omega)), hs, (World.cell?_of_block e0).trans i.k0, (World.cell?_of_block e0).trans i.k1, row5_same i.r e1, fun j => (World.frozen?_of_block e1).trans (i.f j), e2.trans i.i⟩
theorem WrI.next (i : WrI w B0 B1 B2 q v a R x kc ke h s pos wx) (h0 : w.heap.size ≤ B0) (h01 : B0 < B1) (h12 : B1 < B2) (pos' : Nat) : WrI w B0 B1 B2 q v a R x kc ke h s pos' (wx.iterAt B2 s pos') := by
  have ho : ∀ j, j ≠ B2 → (wx.iterAt B2 s pos').heap[j]? = wx.heap[j]? := fun j hj => Lib.iterAt_other _ _ _ _ _ hj
  have e0 := ho B0 (by omega)
  have e1 := ho B1 (by omega)
  exact ⟨i.kb.trans ⟨rfl, rfl, rfl, by rw [Lib.iterAt_size]; exact Nat.le_refl _, fun j hj _ => ho j (by omega)⟩, i.st.iter (by simp) i.i (fun j _ hj => ho j hj), (World.cell?_of_block e0).trans i.k0, (World.cell?_of_block e0).trans i.k1, row5_same i.r e1, fun j => (World.frozen?_of_block e1).trans (i.f j), Lib.iterAt_heap _ _ _ _ _ i.i⟩
theorem rowSet_frozen (wx : World) (g : Nat) (r : Row) (j : Nat) : (rowSet wx g r).frozen? ⟨g, j, none⟩ = wx.frozen? ⟨g, j, none⟩ := by
  unfold rowSet
  rw [World.frozen?_setCell, World.frozen?_setCell, World.frozen?_setCell, World.frozen?_setCell, World.frozen?_setCell]
theorem row5_set (i : Row5 wx B1 0 h) (h' : Row) : Row5 (rowSet wx B1 h') B1 0 h' := row_written h' i.c0 i.c1 i.c2 i.c3 i.c4
theorem WrI.turn (i : WrI w B0 B1 B2 q v a R x kc ke h s pos wx) (h0 : w.heap.size ≤ B0) (h01 : B0 < B1) (h12 : B1 < B2) (hq : q < w.heap.size) (ho : ∀ g, v.ownBlock = some g → g < w.heap.size) (h' : Row) : WrI w B0 B1 B2 q v a R x kc ke h' s pos (rowSet wx B1 h') := by
  have hg := rowSet_grown wx B1 h'
  have hr := row5_set i.r h'
  have hf := fun j => (rowSet_frozen wx B1 h' j).trans (i.f j)
  generalize rowSet wx B1 h' = wz at *
  have hz := i.size
  have hb : ∀ j, j < wx.heap.size → j ≠ B1 → wz.heap[j]? = wx.heap[j]? := fun j hj hn => hg.block j hj (by simp; omega)
  have e0 := hb B0 (by omega) (by omega)
  exact ⟨i.kb.trans (KB.of_grown hg (by omega) (fun r e => by cases e; omega)), i.st.beside i.r.c0 (by omega) (fun g hg => by have := ho g hg; omega) hb, (World.cell?_of_block e0).trans i.k0, (World.cell?_of_block e0).trans i.k1, hr, hf, (hb _ (by omega) (by omega)).trans i.i⟩
end

theorem own_iter {w : World} {B k : Nat} {e : TypeId} {sz : Nat} {v : Value} {n : Nat} {xs : List Value} (h : w.ownsRow B e sz v n xs) (hk : k < B) (s : ByteArray) (p : Nat) : (w.iterAt k s p).ownsRow B e sz v n xs :=
  own_keep h (fun g hg => Lib.iterAt_other w k g s p (by have := (h.lt g hg).1; omega))
theorem own_kb {R : List Row} {B : Nat} {w w' : World} {e : TypeId} {sz : Nat} {v : Value} {n : Nat} {xs : List Value} (h : w.ownsRow B e sz v n xs) (hk : Keep R w w') (hfar : ∀ b ∈ R, b.2.2 + 1 < B) : w'.ownsRow B e sz v n xs :=
  own_keep h (fun g hg => hk.block g (h.lt g hg).2 (fun b hb => by have := hfar b hb; have := (h.lt g hg).1; omega))
theorem plain_low {kc : ByteArray} {r : Int} (h : plainR kc r = true) : 0 ≤ r ∧ r < 128 := by
  unfold plainR asc hasR at h
  simp only [Bool.or_eq_true, Bool.and_eq_true, decide_eq_true_eq] at h
  omega

def PostW (w : World) (q : Nat) (v : Value) (a : Row) (R : List Row) (x : Bool) (F : Except (Nat × Int) (List Int)) (e : Ending) (w' : World) : Prop :=
  KB (a :: R) w.heap.size w w' ∧ SetIn w' q v (a :: R) x ∧ match F with
    | .ok out => ∃ v', e = .returned (.tuple #[v', .nilIface]) ∧ w'.ownsRow w.heap.size 5 1 v' out.length (cellsZ out) ∧ ByteZ out ∧ (v' = .slice none 0 0 ∨ 0 < out.length)
    | .error (i, c) => ∃ er, e = .returned (.tuple #[.slice none 0 0, er]) ∧ PErr w' er (some ((i : Int), c))
end Go.Proofs.YtegfgbcimlacbaaGreatDoor
