import Derived.Test.YtidcjobokfgeoaaF
/-
  DERIVED. Keys for all that is known at the top, read.
-/
namespace Go.Proofs.Ytidcjobokfgeoaa
open Go Go.Proofs Go.RowKit

theorem own_apart {w : World} {b b' : Nat} {e e' : TypeId} {s s' : Nat} {v v' : Value} {n n' : Nat} {xs xs' : List Value} (h : w.ownsRow b e s v n xs) (h' : w.ownsRow b' e' s' v' n' xs') (he : e ≠ e') : ∀ g, v.ownBlock = some g → v'.ownBlock ≠ some g := by
  intro g hg hg'
  rcases h.2 with ⟨rfl, -⟩ | ⟨g1, c1, cur, rfl, -, hh, -⟩
  · cases hg
  · rcases h'.2 with ⟨rfl, -⟩ | ⟨g2, c2, cur2, rfl, -, hh2, -⟩
    · cases hg'
    · cases hg
      cases hg'
      rw [hh] at hh2
      cases hh2
      exact he rfl
theorem own_grown {w w' : World} {b : Nat} {e : TypeId} {s : Nat} {v : Value} {n : Nat} {xs : List Value} {row : Option Nat} (h : w.ownsRow b e s v n xs) (hg : w.grownBy w' row) (hr : ∀ k, v.ownBlock = some k → row ≠ some k) : w'.ownsRow b e s v n xs :=
  own_keep h (fun g hv => hg.block g (h.lt g hv).2 (fun q => hr g hv q.symm))

theorem own_cap {w : World} {b : Nat} {e : TypeId} {s n c : Nat} {a : Option Addr} {xs : List Value} (h : w.ownsRow b e s (.slice a n c) n xs) : n ≤ c := by
  rcases h.2 with ⟨hv, hn⟩ | ⟨g1, c1, cur, hv, -, -, hc, -⟩
  · cases hv; omega
  · cases hv; exact hc
abbrev Z41 : Obj := .cells #[.int .u32 0, .int .i64 0, .int .i64 0, .string { data := #[] }] 41
structure Arm (wr W : World) : Prop where
  b : Below wr.heap.size wr W
  z0 : W.cell? ⟨wr.heap.size, 0, none⟩ = some (.int .u32 0)
  z1 : W.cell? ⟨wr.heap.size, 1, none⟩ = some (.int .i64 0)
  z2 : W.cell? ⟨wr.heap.size, 2, none⟩ = some (.int .i64 0)
  z3 : W.cell? ⟨wr.heap.size, 3, none⟩ = some (.string { data := #[] })
  zf : ∀ j, W.frozen? ⟨wr.heap.size, j, none⟩ = false
  l : wr.heap.size < W.heap.size
  hh : W.heap[wr.heap.size]? = some Z41
theorem Arm.of {wr W : World} (hb : Below (wr.alloc Z41).drew.heap.size (wr.alloc Z41).drew W) : Arm wr W := by
  have hb2 : Below (wr.alloc Z41).heap.size (wr.alloc Z41) W := ⟨hb.os, hb.tape, hb.output, hb.size, hb.block⟩
  have hl : wr.heap.size < (wr.alloc Z41).heap.size := by rw [size_alloc]; exact Nat.lt_succ_self _
  have hh : W.heap[wr.heap.size]? = some Z41 := (hb2.block _ hl).trans (heap_new wr _)
  exact ⟨((Below.refl _ _).alloc (Nat.le_refl _) _).trans (hb2.mono (Nat.le_of_lt hl)), by simp [World.cell?, hh], by simp [World.cell?, hh], by simp [World.cell?, hh], by simp [World.cell?, hh], fun j => by simp [World.frozen?, hh], Nat.lt_of_lt_of_le hl hb2.size, hh⟩

theorem Arm.it {wr W : World} {gi ci : Nat} (ho : W.ownsRow (wr.alloc Z41).drew.heap.size 41 4 (.slice (some ⟨gi, 0, none⟩) 11 ci) 11 itm) : It gi ci (wr.heap.size + 1) W :=
  own_base ho (by rw [← size_alloc wr Z41]; exact Nat.le_refl _)

theorem cell_set_ne {W : World} {b i j : Nat} {v : Value} (h : i ≠ j) : (W.setCell ⟨b, i, none⟩ v).cell? ⟨b, j, none⟩ = W.cell? ⟨b, j, none⟩ := by
  apply World.cell?_setCell_other; simp
theorem cell_set_eq {W : World} {b i : Nat} {v u : Value} (h : W.cell? ⟨b, i, none⟩ = some u) : (W.setCell ⟨b, i, none⟩ v).cell? ⟨b, i, none⟩ = some v := by
  apply World.cell?_setCell_same; exact h
theorem own_set {w : World} {b : Nat} {e : TypeId} {s : Nat} {v : Value} {n : Nat} {xs : List Value} {p : Addr} {u : Value} (h : w.ownsRow b e s v n xs) (hr : ∀ k, v.ownBlock = some k → p.block ≠ k) : (w.setCell p u).ownsRow b e s v n xs :=
  own_keep h (fun g hv => Below.heap_setCell _ _ _ g (fun q => hr g hv q.symm))
/-- A sequence's node in block gs, its items in block gi. -/
structure Mid (wr : World) (gs gi ci : Nat) (n : Int) (wx : World) : Prop where
  it : It gi ci wr.heap.size wx
  b : Below wr.heap.size wr wx
  k0 : wx.cell? ⟨gs, 0, none⟩ = some (.int .u32 4194560)
  k1 : wx.cell? ⟨gs, 1, none⟩ = some (.int .i64 18)
  k2 : wx.cell? ⟨gs, 2, none⟩ = some (.int .i64 n)
  k3 : wx.cell? ⟨gs, 3, none⟩ = some (.string { data := #[] })
  kf : ∀ j, wx.frozen? ⟨gs, j, none⟩ = false
  ge : wr.heap.size ≤ gs
  ne : gs ≠ gi
theorem Mid.a {wr W : World} {gi ci : Nat} (ho : It gi ci wr.heap.size W) (hb : Below wr.heap.size wr W) : Mid wr W.heap.size gi ci 0 (W.alloc (.cells #[.int .u32 4194560, .int .i64 18, .int .i64 0, .string { data := #[] }] 41)) := by
  have hh := heap_new W (.cells #[.int .u32 4194560, .int .i64 18, .int .i64 0, .string { data := #[] }] 41)
  have hl := (World.ownsRow.lt ho gi rfl).2
  exact ⟨World.ownsRow.alloc ho _, hb.alloc hb.size _, by simp only [World.cell?, hh]; rfl, by simp only [World.cell?, hh]; rfl, by simp only [World.cell?, hh]; rfl, by simp only [World.cell?, hh]; rfl, fun j => by simp only [World.frozen?, hh]; simp, hb.size, by omega⟩
theorem Mid.b' {wr W : World} {gi ci : Nat} (ho : It gi ci (wr.heap.size + 1) W) (ha : Arm wr W) : Mid wr wr.heap.size gi ci 0 ((((W.setCell ⟨wr.heap.size, 0, none⟩ (.int .u32 4194560)).setCell ⟨wr.heap.size, 1, none⟩ (.int .i64 18)).setCell ⟨wr.heap.size, 2, none⟩ (.int .i64 0)).setCell ⟨wr.heap.size, 3, none⟩ (.string { data := #[] })) := by
  have hg := (World.ownsRow.lt ho gi rfl).1
  have hne : ∀ k, (Value.slice (some ⟨gi, 0, none⟩) 11 ci).ownBlock = some k → wr.heap.size ≠ k := fun k hk => by cases hk; intro q; exact absurd hg (by show ¬ _ ≤ _; rw [q]; show ¬ gi + 1 ≤ gi; omega)
  have z0 := ha.z0
  have z1 := ha.z1
  have z2 := ha.z2
  have z3 := ha.z3
  refine ⟨own_set (own_set (own_set (own_set (own_base ho (by omega)) hne) hne) hne) hne, (((ha.b.setCell (Nat.le_refl _) _).setCell (Nat.le_refl _) _).setCell (Nat.le_refl _) _).setCell (Nat.le_refl _) _, ?_, ?_, ?_, ?_, fun j => ?_, Nat.le_refl _, ?_⟩
  · rw [cell_set_ne (by decide), cell_set_ne (by decide), cell_set_ne (by decide), cell_set_eq z0]
  · rw [cell_set_ne (by decide), cell_set_ne (by decide), cell_set_eq (u := .int .i64 0)]
    rw [cell_set_ne (by decide), z1]
  · rw [cell_set_ne (by decide), cell_set_eq (u := .int .i64 0)]
    rw [cell_set_ne (by decide), cell_set_ne (by decide), z2]
  · rw [cell_set_eq (u := .string { data := #[] })]
    rw [cell_set_ne (by decide), cell_set_ne (by decide), cell_set_ne (by decide), z3]
  · simp [ha.zf]
  · omega
/-- The node says that it has one item. -/
theorem Mid.one {wr wc : World} {gs gi ci : Nat} (h : Mid wr gs gi ci 0 wc) : Mid wr gs gi ci 1 (wc.setCell ⟨gs, 2, none⟩ (.int .i64 1)) :=
  ⟨own_set h.it (fun k hk => by cases hk; exact h.ne), h.b.setCell h.ge _, by rw [cell_set_ne (by decide), h.k0], by rw [cell_set_ne (by decide), h.k1], by rw [cell_set_eq h.k2], by rw [cell_set_ne (by decide), h.k3], fun j => by simp [h.kf], h.ge, h.ne⟩

end Go.Proofs.Ytidcjobokfgeoaa
