import Derived.Test.YtggdlagopgpnhaaDoorW
/-
  DERIVED. The law of days.
-/
namespace Go.Proofs.YtggdlagopgpnhaaDoor
open Go Go.Proofs Go.RowKit

structure Kst (w wx : World) (R : List (Nat × TypeId × Nat × (Nat → Value))) (P Q : List (Value × Option (Int × Int))) : Prop where
  r : ∀ x ∈ R, wx.rowIs x.1 x.2.1 x.2.2.1 x.2.2.2
  p : ∀ x ∈ P, PErr wx x.1 x.2
  q : ∀ x ∈ Q, RErr wx x.1 x.2
  b : Below w.heap.size w wx
variable {w wx wy : World} {R : List (Nat × TypeId × Nat × (Nat → Value))} {P Q : List (Value × Option (Int × Int))}
theorem Kst.on (h : Kst w wx R P Q) (hb : Below wx.heap.size wx wy) : Kst w wy R P Q :=
  ⟨fun x hx => row_on (h.r x hx) hb, fun x hx => (h.p x hx).next hb, fun x hx => (h.q x hx).next hb, h.b.trans (hb.mono h.b.size)⟩
theorem Kst.addP {v : Value} {o : Option (Int × Int)} (h : Kst w wx R P Q) (hv : PErr wx v o) : Kst w wx R ((v, o) :: P) Q :=
  ⟨h.r, fun x hx => by rcases List.mem_cons.1 hx with rfl | hx; exact hv; exact h.p x hx, h.q, h.b⟩
theorem Kst.addQ {v : Value} {o : Option (Int × Int)} (h : Kst w wx R P Q) (hv : RErr wx v o) : Kst w wx R P ((v, o) :: Q) :=
  ⟨h.r, h.p, fun x hx => by rcases List.mem_cons.1 hx with rfl | hx; exact hv; exact h.q x hx, h.b⟩
theorem Kst.date (h : Kst w wx R P Q) (y m d : Int) : Kst w (wx.alloc (.cells #[.int .i64 y, .int .i64 m, .int .i64 d] 23)) ((wx.heap.size, 23, 3, f3 y m d) :: R) P Q := by
  have k := h.on ((Below.refl _ wx).alloc (Nat.le_refl _) (.cells #[.int .i64 y, .int .i64 m, .int .i64 d] 23))
  refine ⟨fun x hx => ?_, k.p, k.q, k.b⟩
  rcases List.mem_cons.1 hx with rfl | hx
  · exact World.rowIs_alloc wx _ 23 _ (fun i hi => by
      rcases (by simp at hi; omega : i = 0 ∨ i = 1 ∨ i = 2) with rfl | rfl | rfl <;> rfl)
  · exact k.r x hx
def f2 (a b : Value) : Nat → Value := fun k => if k = 0 then a else b
theorem Kst.fault (h : Kst w wx R P Q) (a b : Value) : Kst w (wx.alloc (.cells #[a, b] 37)) ((wx.heap.size, 37, 2, f2 a b) :: R) P Q := by
  have k := h.on ((Below.refl _ wx).alloc (Nat.le_refl _) (.cells #[a, b] 37))
  refine ⟨fun x hx => ?_, k.p, k.q, k.b⟩
  rcases List.mem_cons.1 hx with rfl | hx
  · exact World.rowIs_alloc wx _ 37 _ (fun i hi => by
      rcases (by simp at hi; omega : i = 0 ∨ i = 1) with rfl | rfl <;> rfl)
  · exact k.r x hx
theorem Kst.d3 {q : Nat} {y m d : Int} (h : Kst w wx R P Q) (hx : (q, 23, 3, f3 y m d) ∈ R) : wx.cell? ⟨q, 0, none⟩ = some (.int .i64 y) ∧ wx.cell? ⟨q, 1, none⟩ = some (.int .i64 m) ∧ wx.cell? ⟨q, 2, none⟩ = some (.int .i64 d) :=
  ⟨(h.r _ hx).cell (i := 0) (by simp), (h.r _ hx).cell (i := 1) (by simp), (h.r _ hx).cell (i := 2) (by simp)⟩
theorem Kst.f2c {q : Nat} {a b : Value} (h : Kst w wx R P Q) (hx : (q, 37, 2, f2 a b) ∈ R) : wx.cell? ⟨q, 0, none⟩ = some a ∧ wx.cell? ⟨q, 1, none⟩ = some b :=
  ⟨(h.r _ hx).cell (i := 0) (by simp), (h.r _ hx).cell (i := 1) (by simp)⟩
theorem RErr.shape {v : Value} {o : Option (Int × Int)} (h : RErr wx v o) : ∃ (p : Option Addr) (l k : Nat) (c : Int), v = .agg #[.slice p l k, .int .i64 c] := by
  cases o with
  | none => exact ⟨_, _, _, _, h⟩
  | some x => obtain ⟨g, k, rfl, _⟩ := h; exact ⟨_, _, _, _, rfl⟩

theorem rd_is (s : ByteArray) : ∃ y m d : Int, rd s = dv y m d := by
  unfold rd
  split
  · exact ⟨_, _, _, rfl⟩
  · exact ⟨_, _, _, rfl⟩

def nz (o : Option (Int × Int)) : Prop := ∀ a c, o = some (a, c) → (c != 0) = true
theorem nz_wo (y m d : Int) : nz (wo y m d) := by
  intro a c h
  unfold wo at h
  split at h
  · cases h
  · simp only [Option.some.injEq, Prod.mk.injEq] at h
    rw [← h.2]; rfl
theorem nextD_c {o : Option (Int × Int)} (h : ∀ a c, o = some (a, c) → c = 101) (b : Bool) (p : Nat) : ∀ a c, nextD o b p = some (a, c) → c = 101 := by
  intro a c hc
  unfold nextD at hc
  split at hc
  · split at hc
    · simp only [Option.some.injEq, Prod.mk.injEq] at hc
      exact hc.2.symm
    · exact h a c hc
  · exact h a c hc
theorem nz_oP (s : ByteArray) : nz (oP s) := by
  intro a c h
  unfold oP at h
  by_cases hh : oe s = none
  · rw [hh, Option.none_or] at h
    have := nextD_c (nextD_c (nextD_c (o := none) (fun _ _ h => by cases h) _ _) _ _) _ _ a c h
    rw [this]; rfl
  · unfold oe at h hh
    split at h
    · simp only [Option.some_or, Option.some.injEq, Prod.mk.injEq] at h
      rw [← h.2]; rfl
    · rename_i hn
      rw [if_neg hn] at hh
      exact absurd rfl hh

/-- The day of a number, by both. -/
def dO (n : Int) : Option (Int × Int) := if n < 0 ∨ 3652058 < n then some (0, 101) else none
def PD (n : Int) (y m d : Int) : Prop := if n < 0 ∨ 3652058 < n then y = 0 ∧ m = 0 ∧ d = 0 else ∃ a b c : Nat, y = a ∧ m = b ∧ d = c ∧ IsDay n.toNat a b c
theorem PD_one {n y m d y' m' d' : Int} (h : PD n y m d) (h' : PD n y' m' d') : y = y' ∧ m = m' ∧ d = d' := by
  unfold PD at h h'
  split at h
  · rename_i hn
    rw [if_pos hn] at h'
    omega
  · rename_i hn
    rw [if_neg hn] at h'
    obtain ⟨a, b, c, rfl, rfl, rfl, hi⟩ := h
    obtain ⟨a', b', c', rfl, rfl, rfl, hi'⟩ := h'
    have := isDay_one hi hi'
    omega
def Post6 (w : World) (n : Int) (e : Ending) (w' : World) : Prop := ∃ v y m d, e = .returned (.tuple #[dv y m d, v]) ∧ PD n y m d ∧ PErr w' v (dO n) ∧ Below w.heap.size w w'
def Post14 (w : World) (n : Int) (e : Ending) (w' : World) : Prop := ∃ v y m d, e = .returned (.tuple #[dv y m d, v]) ∧ PD n y m d ∧ RErr w' v (dO n) ∧ Below w.heap.size w w'
theorem of6 (w : World) (n : Int) (hT : Mt w) : Calls Tryd.prog 6 #[.int .i64 n] w (Post6 w n) := by
  unfold Post6 PD dO
  by_cases h : n < 0 ∨ 3652058 < n
  · simp only [if_pos h]
    exact (dateOf_no w n h).mono fun e w' ⟨v, h1, h2, h3⟩ => ⟨v, 0, 0, 0, h1, ⟨rfl, rfl, rfl⟩, h2, h3⟩
  · simp only [if_neg h]
    obtain ⟨k, rfl⟩ : ∃ k : Nat, n = k := ⟨n.toNat, by omega⟩
    exact (dateOf_any w k (by omega) hT).mono fun e w' ⟨y, m, d, h1, h2, h3⟩ => ⟨_, y, m, d, h1, ⟨y, m, d, rfl, rfl, rfl, h2⟩, rfl, h3⟩
theorem of14 (w : World) (n : Int) : Calls Tryd.prog 14 #[.int .i64 n] w (Post14 w n) := by
  unfold Post14 PD dO
  by_cases h : n < 0 ∨ 3652058 < n
  · simp only [if_pos h]
    exact (dateOf14_no w n h).mono fun e w' ⟨v, h1, h2, h3⟩ => ⟨v, 0, 0, 0, h1, ⟨rfl, rfl, rfl⟩, h2, h3⟩
  · simp only [if_neg h]
    obtain ⟨k, rfl⟩ : ∃ k : Nat, n = k := ⟨n.toNat, by omega⟩
    exact (dateOf14_any w k (by omega)).mono fun e w' ⟨y, m, d, h1, h2, h3⟩ => ⟨_, y, m, d, h1, ⟨y, m, d, rfl, rfl, rfl, h2⟩, rfl, h3⟩
theorem nz_dO (n : Int) : nz (dO n) := by
  intro a c h
  unfold dO at h
  split at h
  · simp only [Option.some.injEq, Prod.mk.injEq] at h
    rw [← h.2]; rfl
  · cases h
end Go.Proofs.YtggdlagopgpnhaaDoor
