
import Derived.Test.YtegfgbcimlacbaaGreatDoorO
/-
  DERIVED. The document's New.
-/
namespace Go.Proofs.YtegfgbcimlacbaaGreatDoor
open Go Go.Proofs Go.RowKit

def intsC (N : List (Nat × ByteArray)) : List Value := N.map fun r => .int .i64 (repN r.1 : Nat)

/-- The document's set, as it lies in memory. -/
structure RSetAt (w : World) (H q : Nat) (v : Value) (N : List (Nat × ByteArray)) (x : Bool) : Prop where
  c0 : w.cell? ⟨q, 0, none⟩ = some v
  c1 : w.cell? ⟨q, 1, none⟩ = some (.bool x)
  cf : ∀ i, w.frozen? ⟨q, i, none⟩ = false
  own : w.ownsRow H 3 1 v N.length (intsC N)

theorem RSetAt.lt {w : World} {H q : Nat} {v : Value} {N : List (Nat × ByteArray)} {x : Bool} (h : RSetAt w H q v N x) : q < w.heap.size := cell_lt h.c0
theorem RSetAt.on {w w' : World} {H q : Nat} {v : Value} {N : List (Nat × ByteArray)} {x : Bool} (h : RSetAt w H q v N x) (hb : Below w.heap.size w w') : RSetAt w' H q v N x :=
  ⟨(hb.cell (p := ⟨q, 0, none⟩) h.lt).trans h.c0, (hb.cell (p := ⟨q, 1, none⟩) h.lt).trans h.c1, fun i => (hb.frozen (p := ⟨q, i, none⟩) h.lt).trans (h.cf i), ownsRow_below h.own hb (Nat.le_refl _)⟩
theorem RSetAt.val {w : World} {H q : Nat} {v : Value} {N : List (Nat × ByteArray)} {x : Bool} (h : RSetAt w H q v N x) : ∃ a cap, v = .slice a N.length cap := by
  rcases h.own.2 with ⟨rfl, h0⟩ | ⟨g, cap, cur, hv, _⟩
  · exact ⟨none, 0, by rw [h0]⟩
  · exact ⟨_, _, hv⟩
theorem RSetAt.cell {w : World} {H q : Nat} {a : Option Addr} {n cap : Nat} {N : List (Nat × ByteArray)} {x : Bool} (h : RSetAt w H q (.slice a n cap) N x) (k : Nat) (r : Nat × ByteArray) (hr : N[k]? = some r) :
    ∃ g, a = some ⟨g, 0, none⟩ ∧ n = N.length ∧ w.cell? ⟨g, k, none⟩ = some (.int .i64 (repN r.1 : Nat)) := by
  have hk : k < N.length := (List.getElem?_eq_some_iff.1 hr).1
  rcases h.own.2 with ⟨_, h0⟩ | ⟨g, cap', cur, hv, _⟩
  · omega
  · simp only [Value.slice.injEq] at hv
    obtain ⟨rfl, rfl, rfl⟩ := hv
    refine ⟨g, rfl, rfl, ?_⟩
    rw [h.own.cellAt k (by omega)]
    unfold intsC
    rw [List.getElem?_map, hr]
    rfl

theorem RSetAt.mono {w : World} {H H' q : Nat} {v : Value} {N : List (Nat × ByteArray)} {x : Bool} (h : RSetAt w H q v N x) (hb : H' ≤ H) : RSetAt w H' q v N x := by
  refine ⟨h.c0, h.c1, h.cf, h.own.1, ?_⟩
  rcases h.own.2 with h2 | ⟨g, cap, cur, hv, hg, r⟩
  · exact .inl h2
  · exact .inr ⟨g, cap, cur, hv, Nat.le_trans hb hg, r⟩
theorem RSetAt.off {w : World} {H q b i : Nat} {v : Value} {N : List (Nat × ByteArray)} {x : Bool} (h : RSetAt w H q v N x) (hb : b < H) (hq : b ≠ q) (u : Value) : RSetAt (w.setCell ⟨b, i, none⟩ u) H q v N x :=
  ⟨(cell_set_off hq).trans h.c0, (cell_set_off hq).trans h.c1, fun j => by rw [World.frozen?_setCell]; exact h.cf j, own_set h.own _ hb⟩
theorem SetAt.off {w : World} {q b i : Nat} {v : Value} {R : List Row} {x : Bool} (h : SetAt w q v R x) (hb : b < q) (u : Value) : SetAt (w.setCell ⟨b, i, none⟩ u) q v R x :=
  ⟨(cell_set_off (by omega)).trans h.c0, (cell_set_off (by omega)).trans h.c1, fun j => by rw [World.frozen?_setCell]; exact h.cf j, own_set h.own _ (by omega), fun r hr => ⟨(h.fresh r hr).1.off _ (by have := (h.fresh r hr).2; omega), (h.fresh r hr).2⟩⟩

/-- The document's answer, in memory. -/
def RNewAt (w : World) (H : Nat) (v f : Value) : (Int × Int) ⊕ (List (Nat × ByteArray) × Bool) → Prop
  | .inl (a, c) => v = .pointer none ∧ RErr w f (some (a, c))
  | .inr (N, x) => ∃ q u, v = .pointer (some ⟨q, 0, none⟩) ∧ f = .agg #[.slice none 0 0, .int .i64 0] ∧ H ≤ q ∧ RSetAt w H q u N x

theorem none_any (w : World) : Calls Tryz.prog 24 #[] w fun e w' => e = .returned (.agg #[.slice none 0 0, .int .i64 0]) ∧ Below w.heap.size w w' := by
  go_enter Tryz.func24, Tryz.ntmps24
  go_wp2
  exact bodyPost_ret (v := .agg #[.slice none 0 0, .int .i64 0]) (by simp [results, Tryz.results24, go_sem]) rfl ⟨rfl, (Below.refl _ _).alloc (Nat.le_refl _) _⟩

theorem intInfo : (Tryz.prog.info? 3).map (fun i => (i.zero, i.size, i.bytes)) = some (some (.int .i64 0), 1, 8) := by kernel_rfl

/-- The first result's cell of a struct, written over: what is read then. -/
theorem res_cells {U : World} {q : Nat} {u0 u1 v0 v1 : Value} (h0 : U.cell? ⟨q, 0, none⟩ = some u0) (h1 : U.cell? ⟨q, 1, none⟩ = some u1) :
    ((U.setCell ⟨q, 0, none⟩ v0).setCell ⟨q, 1, none⟩ v1).cell? ⟨q, 0, none⟩ = some v0 ∧ ((U.setCell ⟨q, 0, none⟩ v0).setCell ⟨q, 1, none⟩ v1).cell? ⟨q, 1, none⟩ = some v1 :=
  ⟨(cell_set_ne (by decide)).trans (cell_set_eq h0), cell_set_eq ((cell_set_ne (by decide)).trans h1)⟩

theorem RErr.off {U : World} {q i : Nat} {f x : Value} {a c : Int} (h : RErr U f (some (a, c))) (hq : ∀ g k, f = .agg #[.slice (some ⟨g, 0, none⟩) 1 k, .int .i64 c] → q ≠ g) : RErr (U.setCell ⟨q, i, none⟩ x) f (some (a, c)) := by
  obtain ⟨g, k, rfl, h0, h1⟩ := h
  have := hq g k rfl
  exact ⟨g, k, rfl, (cell_set_off this).trans h0, (cell_set_off this).trans h1⟩

/-- A refusal of the document, with the place where its link lies. -/
theorem no_at (a c : Int) (w : World) : Calls Tryz.prog 17 #[.int .i64 c, .int .i64 a] w fun e w' => ∃ g k, e = .returned (.agg #[.slice (some ⟨g, 0, none⟩) 1 k, .int .i64 c]) ∧ w'.cell? ⟨g, 0, none⟩ = some (.string { data := #[99, 104, 97, 114, 115, 101, 116] }) ∧ w'.cell? ⟨g, 1, none⟩ = some (.int .i64 a) ∧ w.heap.size ≤ g ∧ Below w.heap.size w w' := by
  have hn := fun W => new0_any c a W
  obtain ⟨W0, hW0⟩ : ∃ W0, w.alloc (.cells #[.slice none 0 0, .int .i64 0] 34) = W0 := ⟨_, rfl⟩
  have hb0 : Below w.heap.size w W0 := hW0 ▸ (Below.refl _ _).alloc (Nat.le_refl _) _
  have hs0 : W0.heap.size = w.heap.size + 1 := by rw [← hW0]; simp
  have a0 : W0.cell? ⟨w.heap.size, 0, none⟩ = some (.slice none 0 0) := by rw [← hW0]; simp
  have a1 : W0.cell? ⟨w.heap.size, 1, none⟩ = some (.int .i64 0) := by rw [← hW0]; simp
  have af : ∀ i, W0.frozen? ⟨w.heap.size, i, none⟩ = false := fun i => by rw [← hW0]; simp
  go_enter Tryz.func17, Tryz.ntmps17
  go_wp2_with (go_at_call 38; fail)
  refine (hn _).mono ?_
  rintro e W1 ⟨rfl, hb, h0, h1, h2⟩
  have hlt : w.heap.size < W0.heap.size := by omega
  have b0 := (hb.cell (p := ⟨w.heap.size, 0, none⟩) hlt).trans a0
  have b1 := (hb.cell (p := ⟨w.heap.size, 1, none⟩) hlt).trans a1
  have bf := fun i => (hb.frozen (p := ⟨w.heap.size, i, none⟩) hlt).trans (af i)
  have HB : Hid (Below w.heap.size w W1) := hb0.trans (hb.mono hb0.size)
  clear hn a0 a1 af hW0
  go_wp2
  refine bodyPost_ret (v := .agg #[.slice (some ⟨W0.heap.size + 1, 0, none⟩) 1 1, .int .i64 c]) (by simp [results, Tryz.results17, go_sem, b0, b1]) rfl ?_
  exact ⟨W0.heap.size + 1, 1, rfl, (cell_set_off (by omega)).trans ((cell_set_off (by omega)).trans h0), (cell_set_off (by omega)).trans ((cell_set_off (by omega)).trans h1), by omega, (HB.out.setCell (p := ⟨w.heap.size, 0, none⟩) (Nat.le_refl _) _).setCell (p := ⟨w.heap.size, 1, none⟩) (Nat.le_refl _) _⟩

set_option maxRecDepth 100000 in
theorem rnew_many (w : World) (ao : Option Addr) (n cap : Nat) (hn : 6 < n) :
    Calls Tryz.prog 12 #[.slice ao n cap] w fun e w' => ∃ p f, e = .returned (.tuple #[p, f]) ∧ RNewAt w' w.heap.size p f (.inl (6, 81)) ∧ Below w.heap.size w w' := by
  obtain ⟨W0, hW0⟩ : ∃ W0, w.alloc (.cells #[.slice none 0 0, .int .i64 0] 34) = W0 := ⟨_, rfl⟩
  have hb0 : Below w.heap.size w W0 := hW0 ▸ (Below.refl _ _).alloc (Nat.le_refl _) _
  have hs0 : W0.heap.size = w.heap.size + 1 := by rw [← hW0]; simp
  have a0 : W0.cell? ⟨w.heap.size, 0, none⟩ = some (.slice none 0 0) := by rw [← hW0]; simp
  have a1 : W0.cell? ⟨w.heap.size, 1, none⟩ = some (.int .i64 0) := by rw [← hW0]; simp
  have af : ∀ i, W0.frozen? ⟨w.heap.size, i, none⟩ = false := fun i => by rw [← hW0]; simp
  have hni : (6 : Int) < (n : Int) := by omega
  have c30 := no_at 6 81 W0
  go_enter Tryz.func12, Tryz.ntmps12
  go_wp2_with (go_at_call 17; fail)
  refine c30.mono ?_
  rintro e W1 ⟨g, k, rfl, g0, g1, hg, hb⟩
  have hlt : w.heap.size < W0.heap.size := by omega
  have b0 := (hb.cell (p := ⟨w.heap.size, 0, none⟩) hlt).trans a0
  have b1 := (hb.cell (p := ⟨w.heap.size, 1, none⟩) hlt).trans a1
  have bf := fun i => (hb.frozen (p := ⟨w.heap.size, i, none⟩) hlt).trans (af i)
  have HB : Hid (Below w.heap.size w W1) := hb0.trans (hb.mono hb0.size)
  clear c30 a0 a1 af hW0
  go_wp2
  obtain ⟨r0, r1⟩ := res_cells (v0 := .slice (some ⟨g, 0, none⟩) 1 k) (v1 := .int .i64 81) b0 b1
  exact bodyPost_ret (v := .tuple #[.pointer none, .agg #[.slice (some ⟨g, 0, none⟩) 1 k, .int .i64 81]]) (by simp [results, Tryz.results12, go_sem, r0, r1]) rfl ⟨_, _, rfl, ⟨rfl, g, k, rfl, (cell_set_off (by omega)).trans ((cell_set_off (by omega)).trans g0), (cell_set_off (by omega)).trans ((cell_set_off (by omega)).trans g1)⟩, (HB.out.setCell (p := ⟨w.heap.size, 0, none⟩) (Nat.le_refl _) _).setCell (p := ⟨w.heap.size, 1, none⟩) (Nat.le_refl _) _⟩

set_option maxRecDepth 100000 in
set_option maxHeartbeats 1000000 in
/-- No terms, or an empty one alone. -/
theorem rnew_plain (w : World) (ao : Option Addr) (n cap : Nat) (h : n = 0 ∨ n = 1 ∧ ∃ b off s, ao = some ⟨b, off, none⟩ ∧ w.cell? ⟨b, off, none⟩ = some (.string s) ∧ s.size ≤ 140737488351232 ∧ (trim s).size = 0) :
    Calls Tryz.prog 12 #[.slice ao n cap] w fun e w' => ∃ p f, e = .returned (.tuple #[p, f]) ∧ RNewAt w' w.heap.size p f (.inr ([(0, sp 0)], false)) ∧ Below w.heap.size w w' := by
  obtain ⟨W0, hW0⟩ : ∃ W0, w.alloc (.cells #[.slice none 0 0, .int .i64 0] 34) = W0 := ⟨_, rfl⟩
  have hb0 : Below w.heap.size w W0 := hW0 ▸ (Below.refl _ _).alloc (Nat.le_refl _) _
  have hs0 : W0.heap.size = w.heap.size + 1 := by rw [← hW0]; simp
  have a0 : W0.cell? ⟨w.heap.size, 0, none⟩ = some (.slice none 0 0) := by rw [← hW0]; simp
  have a1 : W0.cell? ⟨w.heap.size, 1, none⟩ = some (.int .i64 0) := by rw [← hW0]; simp
  have af : ∀ i, W0.frozen? ⟨w.heap.size, i, none⟩ = false := fun i => by rw [← hW0]; simp
  obtain ⟨W1, hW1⟩ : ∃ W1, W0.alloc (.cells #[.int .i64 6] 3) = W1 := ⟨_, rfl⟩
  have hb1 : Below W0.heap.size W0 W1 := hW1 ▸ (Below.refl _ _).alloc (Nat.le_refl _) _
  have hs1 : W1.heap.size = W0.heap.size + 1 := by rw [← hW1]; simp
  obtain ⟨W2, hW2⟩ : ∃ W2, W1.alloc (.cells #[.slice (some ⟨W0.heap.size, 0, none⟩) 1 1, .bool false] 57) = W2 := ⟨_, rfl⟩
  have hb2 : Below W1.heap.size W1 W2 := hW2 ▸ (Below.refl _ _).alloc (Nat.le_refl _) _
  have hset : RSetAt W2 (w.heap.size + 1) W1.heap.size (.slice (some ⟨W0.heap.size, 0, none⟩) 1 1) [(0, sp 0)] false := by
    refine ⟨by rw [← hW2]; simp, by rw [← hW2]; simp, fun i => by rw [← hW2]; simp, rfl, .inr ⟨W0.heap.size, 1, #[.int .i64 6], rfl, by omega, ?_, by decide, by unfold maxLen; decide, rfl, rfl⟩⟩
    rw [hb2.block _ (by omega), ← hW1]
    exact heap_alloc_new W0 _
  have c32 := none_any W2
  have hlt : w.heap.size < W0.heap.size := by omega
  have hB2 : Below W0.heap.size W0 W2 := hb1.trans (hb2.mono hb1.size)
  have d0 := (hB2.cell (p := ⟨w.heap.size, 0, none⟩) hlt).trans a0
  have d1 := (hB2.cell (p := ⟨w.heap.size, 1, none⟩) hlt).trans a1
  have df := fun i => (hB2.frozen (p := ⟨w.heap.size, i, none⟩) hlt).trans (af i)
  have HBW : Hid (Below w.heap.size w W2) := hb0.trans (hB2.mono hb0.size)
  have HSet : Hid _ := hset
  have c31 := fun s (hs : ByteArray.size s ≤ 140737488351232) => bare_any W0 s hs
  have HB0 : Hid (Below w.heap.size w W0) := hb0
  have hw2 : w.heap.size < W2.heap.size := by have := hB2.size; omega
  have HS01 : Hid (W0.heap.size = w.heap.size + 1 ∧ W1.heap.size = W0.heap.size + 1) := ⟨hs0, hs1⟩
  clear hb0 hb1 hb2 hset hB2 a0 a1 af hs0 hs1
  rcases h with rfl | ⟨rfl, b, off, s, rfl, hc, hs, htr⟩
  · go_enter Tryz.func12, Tryz.ntmps12
    go_wp2_with (go_at_call 24; fail)
    refine c32.mono ?_
    rintro e W3 ⟨rfl, hb3⟩
    have e0 := (hb3.cell (p := ⟨w.heap.size, 0, none⟩) hw2).trans d0
    have e1 := (hb3.cell (p := ⟨w.heap.size, 1, none⟩) hw2).trans d1
    have ef := fun i => (hb3.frozen (p := ⟨w.heap.size, i, none⟩) hw2).trans (df i)
    have HS3 : Hid _ := HSet.out.on hb3
    have HB3 : Hid (Below w.heap.size w W3) := HBW.out.trans (hb3.mono HBW.out.size)
    clear d0 d1 df c31 c32 hW1 hW2 hW0
    go_wp2
    obtain ⟨hs0, hs1⟩ := HS01.out
    obtain ⟨r0, r1⟩ := res_cells (v0 := .slice none 0 0) (v1 := .int .i64 0) e0 e1
    refine bodyPost_ret (v := .tuple #[.pointer (some ⟨W1.heap.size, 0, none⟩), .agg #[.slice none 0 0, .int .i64 0]]) (by simp [results, Tryz.results12, go_sem, r0, r1]) rfl ⟨_, _, rfl, ⟨W1.heap.size, .slice (some ⟨W0.heap.size, 0, none⟩) 1 1, rfl, rfl, by omega, ?_⟩, (HB3.out.setCell (p := ⟨w.heap.size, 0, none⟩) (Nat.le_refl _) _).setCell (p := ⟨w.heap.size, 1, none⟩) (Nat.le_refl _) _⟩
    exact ((HS3.out.off (by omega) (by omega) _).off (by omega) (by omega) _).mono (by omega)
  · have hc0 := (HB0.out.cell (p := ⟨b, off, none⟩) (cell_lt hc)).trans hc
    have hnb := nil_beq htr
    have c31s := c31 s hs
    generalize trim s = t at hnb c31s
    go_enter Tryz.func12, Tryz.ntmps12
    go_wp2_with (first | (go_at_call 30; refine c31s.mono ?_; rintro e W ⟨rfl, rfl⟩) | (go_at_call 24; fail))
    refine c32.mono ?_
    rintro e W3 ⟨rfl, hb3⟩
    have e0 := (hb3.cell (p := ⟨w.heap.size, 0, none⟩) hw2).trans d0
    have e1 := (hb3.cell (p := ⟨w.heap.size, 1, none⟩) hw2).trans d1
    have ef := fun i => (hb3.frozen (p := ⟨w.heap.size, i, none⟩) hw2).trans (df i)
    have HS3 : Hid _ := HSet.out.on hb3
    have HB3 : Hid (Below w.heap.size w W3) := HBW.out.trans (hb3.mono HBW.out.size)
    clear d0 d1 df c31 c31s c32 hW1 hW2 hW0
    go_wp2
    obtain ⟨hs0, hs1⟩ := HS01.out
    obtain ⟨r0, r1⟩ := res_cells (v0 := .slice none 0 0) (v1 := .int .i64 0) e0 e1
    refine bodyPost_ret (v := .tuple #[.pointer (some ⟨W1.heap.size, 0, none⟩), .agg #[.slice none 0 0, .int .i64 0]]) (by simp [results, Tryz.results12, go_sem, r0, r1]) rfl ⟨_, _, rfl, ⟨W1.heap.size, .slice (some ⟨W0.heap.size, 0, none⟩) 1 1, rfl, rfl, by omega, ?_⟩, (HB3.out.setCell (p := ⟨w.heap.size, 0, none⟩) (Nat.le_refl _) _).setCell (p := ⟨w.heap.size, 1, none⟩) (Nat.le_refl _) _⟩
    exact ((HS3.out.off (by omega) (by omega) _).off (by omega) (by omega) _).mono (by omega)

theorem RSetAt.own_n {w : World} {H q : Nat} {v : Value} {N : List (Nat × ByteArray)} {x : Bool} (h : RSetAt w H q v N x) {n : Nat} (hn : N.length = n) (o : Obj) : (w.alloc o).ownsRow H 3 1 v n (intsC N) := by
  subst hn
  exact h.own.alloc o
theorem RSetAt.base {w : World} {q : Nat} {v : Value} {N : List (Nat × ByteArray)} {x : Bool} (h : RSetAt w (q + 1) q v N x) (o : Obj) : q + 1 ≤ (w.alloc o).heap.size := by
  have := h.lt
  simp
  omega
theorem RSetAt.past {w w' : World} {q : Nat} {v : Value} {N : List (Nat × ByteArray)} {x : Bool} {o : Obj} (h : RSetAt w (q + 1) q v N x) (hg : (w.alloc o).grownBy w' v.ownBlock) :
    w'.cell? ⟨q, 0, none⟩ = some v ∧ w'.cell? ⟨q, 1, none⟩ = some (.bool x) ∧ (∀ i, w'.frozen? ⟨q, i, none⟩ = false) ∧ Below (q + 1) w w' := by
  have hba : Below w.heap.size w (w.alloc o) := (Below.refl _ _).alloc (Nat.le_refl _) _
  have ha := h.on hba
  have hne : ∀ k, k < q + 1 → some k ≠ v.ownBlock := fun k hk e => by
    have := (h.own.lt k e.symm).1
    omega
  have hl := ha.lt
  refine ⟨(hg.cell_far ⟨q, 0, none⟩ hl (hne q (by omega))).trans ha.c0, (hg.cell_far ⟨q, 1, none⟩ hl (hne q (by omega))).trans ha.c1, fun i => (hg.frozen_far ⟨q, i, none⟩ hl (hne q (by omega))).trans (ha.cf i), ?_⟩
  have hlw := h.lt
  exact ⟨hg.os.trans hba.os, hg.tape.trans hba.tape, hg.output.trans hba.output, Nat.le_trans hba.size hg.size, fun k hk => (hg.block k (by simp; omega) (hne k hk)).trans (hba.block k (by omega))⟩
theorem RSetAt.more {w w' : World} {q n ρ : Nat} {v v' : Value} {N : List (Nat × ByteArray)} {x y : Bool} {o : Obj} {r : Nat × ByteArray} (h : RSetAt w (q + 1) q v N x) (hn : N.length = n) (hr : repN r.1 = ρ) (hg : (w.alloc o).grownBy w' v.ownBlock)
    (hown : w'.ownsRow (q + 1) 3 1 v' (n + 1) (intsC N ++ [.int .i64 (ρ : Int)])) : RSetAt ((w'.setCell ⟨q, 0, none⟩ v').setCell ⟨q, 1, none⟩ (.bool y)) (q + 1) q v' (N ++ [r]) y ∧ Below q w ((w'.setCell ⟨q, 0, none⟩ v').setCell ⟨q, 1, none⟩ (.bool y)) := by
  obtain ⟨f0, f1, ff, hb⟩ := h.past hg
  refine ⟨⟨(cell_set_ne (by decide)).trans (cell_set_eq f0), cell_set_eq ((cell_set_ne (by decide)).trans f1), fun i => ?_, ?_⟩, ((hb.mono (show q ≤ q + 1 by omega)).setCell (p := ⟨q, 0, none⟩) (Nat.le_refl _) _).setCell (p := ⟨q, 1, none⟩) (Nat.le_refl _) _⟩
  · rw [World.frozen?_setCell, World.frozen?_setCell]; exact ff i
  · have e : intsC (N ++ [r]) = intsC N ++ [.int .i64 (ρ : Int)] := by unfold intsC; simp [hr]
    rw [List.length_append, List.length_singleton, hn, e]
    exact own_set (own_set hown _ (by omega)) _ (by omega)

/-- What holds ahead of each round of the document's New. -/
def RInv (p : Nat) (W1 : World) (n : Nat) (T : List ByteArray) (RES : (Int × Int) ⊕ (List (Nat × ByteArray) × Bool)) (y : Value) (wr : World) : Prop :=
  ∃ k : Nat, y = .int .i64 (k : Int) ∧ k ≤ n ∧ Below p W1 wr ∧ ∃ u N x, N.length = k ∧ RSetAt wr (p + 1) p u N x ∧ (∀ r ∈ N, r.1 < 7) ∧ newL n (T.drop k) k N x = RES

/-- What a term is for the document: its number (0: none), with code extensions or not. -/
theorem term_read (s : ByteArray) (k n : Nat) (hA : (trim s).size ≠ 0 ∨ 0 < k) : fullB s k n = trim s := by
  unfold fullB
  rw [if_pos (by rcases hA with h | h; exact .inl h; exact .inr (by omega))]
theorem term_first (s : ByteArray) (n : Nat) (h0 : (trim s).size = 0) (hn : 1 < n) : fullB s (0 : Nat) n = sp 1 := by
  unfold fullB
  rw [if_neg (by rintro (h | h); exact h h0; simp at h), if_pos (by omega)]
theorem nmd_one : nmd (sp 1) 7 0 = some (0, true) := by decide +kernel
theorem nmd_empty {t : ByteArray} (h : t.size = 0) : nmd t 7 0 = none := by
  have : t = ⟨#[]⟩ := by
    have h2 : t.data = #[] := Array.eq_empty_of_size_eq_zero h
    cases t; simp_all
  rw [this]
  decide +kernel

set_option maxRecDepth 100000 in
set_option maxHeartbeats 4000000 in
theorem rnew_any (w : World) (v : Value) (T : List ByteArray) (hT : TS w v T) (hsz : ∀ s ∈ T, s.size ≤ 140737488351232) (hn0 : 0 < T.length) (hn6 : T.length ≤ 6) (hne : ∀ s, T = [s] → (trim s).size ≠ 0) :
    Calls Tryz.prog 12 #[v] w fun e w' => ∃ p f, e = .returned (.tuple #[p, f]) ∧ RNewAt w' w.heap.size p f (newL T.length T 0 [] false) ∧ Below w.heap.size w w' := by
  obtain ⟨ao, cap, rfl, hf⟩ := hT
  obtain ⟨b, off, rfl, hc⟩ := hf hn0
  obtain ⟨n, hn⟩ : ∃ n, T.length = n := ⟨_, rfl⟩
  have HN : Hid (T.length = n) := hn
  obtain ⟨RES, hRES⟩ : ∃ RES, newL T.length T 0 [] false = RES := ⟨_, rfl⟩
  rw [hRES]
  have HRES : Hid (newL n (T.drop 0) 0 [] false = RES) := by show _ = _; rw [← hRES, hn]; rfl
  have HNE : Hid (∀ s, T = [s] → (trim s).size ≠ 0) := hne
  have HC : Hid (∀ k s, T[k]? = some s → w.cell? ⟨b, off + k, none⟩ = some (.string s)) := hc
  have HSZ : Hid (∀ s ∈ T, s.size ≤ 140737488351232) := hsz
  rw [hn] at hn0 hn6 ⊢
  obtain ⟨W0, hW0⟩ : ∃ W0, w.alloc (.cells #[.slice none 0 0, .int .i64 0] 34) = W0 := ⟨_, rfl⟩
  have hb0 : Below w.heap.size w W0 := hW0 ▸ (Below.refl _ _).alloc (Nat.le_refl _) _
  have hs0 : W0.heap.size = w.heap.size + 1 := by rw [← hW0]; simp
  have a0 : W0.cell? ⟨w.heap.size, 0, none⟩ = some (.slice none 0 0) := by rw [← hW0]; simp
  have a1 : W0.cell? ⟨w.heap.size, 1, none⟩ = some (.int .i64 0) := by rw [← hW0]; simp
  have af : ∀ i, W0.frozen? ⟨w.heap.size, i, none⟩ = false := fun i => by rw [← hW0]; simp
  obtain ⟨W1, hW1⟩ : ∃ W1, W0.alloc (.cells #[.slice none 0 0, .bool false] 57) = W1 := ⟨_, rfl⟩
  have hb1 : Below W0.heap.size W0 W1 := hW1 ▸ (Below.refl _ _).alloc (Nat.le_refl _) _
  have hset : RSetAt W1 (W0.heap.size + 1) W0.heap.size (.slice none 0 0) [] false := by
    refine ⟨by rw [← hW1]; simp, by rw [← hW1]; simp, fun i => by rw [← hW1]; simp, World.ownsRow_nil _ _ _ _⟩
  have hlt : w.heap.size < W0.heap.size := by omega
  have HLT : Hid (W0.heap.size = w.heap.size + 1 ∧ Below w.heap.size w W0 ∧ Below W0.heap.size W0 W1) := ⟨hs0, hb0, hb1⟩
  have HA0 : Hid (∀ wr, Below W0.heap.size W1 wr → wr.cell? ⟨w.heap.size, 0, none⟩ = some (.slice none 0 0) ∧ wr.cell? ⟨w.heap.size, 1, none⟩ = some (.int .i64 0) ∧ (∀ i, wr.frozen? ⟨w.heap.size, i, none⟩ = false) ∧ Below w.heap.size w wr) := fun wr hb =>
    have hb' : Below W0.heap.size W0 wr := hb1.trans hb
    ⟨(hb'.cell (p := ⟨w.heap.size, 0, none⟩) hlt).trans a0, (hb'.cell (p := ⟨w.heap.size, 1, none⟩) hlt).trans a1, fun i => (hb'.frozen (p := ⟨w.heap.size, i, none⟩) hlt).trans (af i), hb0.trans (hb'.mono hb0.size)⟩
  have HSet1 : Hid _ := hset
  have hnI : (0 : Int) < (n : Int) := by omega
  have hn6I : (n : Int) ≤ 6 := by omega
  have hne0 : ((n : Int) == 0) = false := by simp; omega
  have hd6 : decide ((6 : Int) < (n : Int)) = false := by simp; omega
  have hT0 : ∃ s0, T[0]? = some s0 := ⟨T[0]'(by rw [HN.out]; omega), List.getElem?_eq_getElem _⟩
  obtain ⟨s0, hs00⟩ := hT0
  have hcs0 := (hb0.cell (p := ⟨b, off + 0, none⟩) (cell_lt (HC.out 0 s0 hs00))).trans (HC.out 0 s0 hs00)
  rw [Nat.add_zero] at hcs0
  have c31a := bare_any W0 s0 (HSZ.out s0 (List.mem_of_getElem? hs00))
  have hone : ((n : Int) == 1) = false ∨ (((n : Int) == 1) = true ∧ ((trim s0).toList == []) = false) := by
    by_cases h1 : n = 1
    · refine .inr ⟨by rw [h1]; rfl, nil_beq_ne (HNE.out s0 ?_)⟩
      have : T.length = 1 := by rw [HN.out, h1]
      match T, this, hs00 with
      | [x], _, h => simp at h; rw [h]
    · exact .inl (by simp; omega)
  generalize trim s0 = t0 at c31a hone
  obtain ⟨i0, hi, hz0, hz1, hz2⟩ := info_parts intInfo
  clear hc hsz hRES hf hn hset hb0 hb1 hs0 a0 a1 af hs00 hne
  rcases hone with hone | ⟨hone, htb⟩
  all_goals go_enter Tryz.func12, Tryz.ntmps12
  all_goals go_wp2_with (go_at_call 30; refine c31a.mono ?_; rintro e W ⟨rfl, rfl⟩)
  all_goals (
    go_loopw [5] (fun y wr => RInv W0.heap.size W1 n T RES y wr) (fun y _ => n - (intOf y).toNat)
    case atStart => exact ⟨0, rfl, by omega, Below.refl _ _, _, [], false, rfl, HSet1.out, by simp, HRES.out⟩
    case round =>
      obtain ⟨k, rfl, hk, hbr, u, N, x, hNl, hset, hN7, hres⟩ := hrel
      have hzz := HA0.out wr hbr
      obtain ⟨z0, z1, zf, hbw⟩ := hzz
      have HBR : Hid (Below W0.heap.size W1 wr) := hbr
      have HBW : Hid (Below w.heap.size w wr) := hbw
      clear hbr hbw
      by_cases hkn : k < n
      · have hkT : k < T.length := by rw [HN.out]; exact hkn
        obtain ⟨s, hs⟩ : ∃ s, T[k]? = some s := ⟨T[k], List.getElem?_eq_getElem hkT⟩
        have hcell := (HBW.out.cell (p := ⟨b, off + k, none⟩) (cell_lt (HC.out k s hs))).trans (HC.out k s hs)
        have hds : T.drop k = s :: T.drop (k + 1) := by
          rw [List.drop_eq_getElem_cons hkT]
          have := (List.getElem?_eq_some_iff.1 hs).2
          rw [this]
        rw [hds, newL] at hres
        have c31 := bare_any wr s (HSZ.out s (List.mem_of_getElem? hs))
        have c33 := fun W => read_any W (trim s)
        have hkI : (k : Int) < (n : Int) := by omega
        by_cases hA : (trim s).size ≠ 0 ∨ 0 < k
        · rw [term_read s k n hA] at hres
          have hcond : ((trim s).toList == []) = false ∨ (((trim s).toList == []) = true ∧ ((k : Int) == 0) = false) := by
            by_cases h0 : (trim s).size = 0
            · exact .inr ⟨nil_beq h0, by have := hA.resolve_left (fun h => h h0); simp; omega⟩
            · exact .inl (nil_beq_ne h0)
          cases hnm : nmd (trim s) 7 0 with
          | none =>
            rw [hnm] at hres
            simp only at hres
            subst hres
            have hr0 := readS_none hnm
            rw [hr0] at c33
            generalize (readS (trim s)).2 = ξ at c33
            generalize trim s = tt at c31 c33 hcond
            clear hA hnm hset hds hs hkT hN7 hNl
            rcases hcond with hcond | ⟨hcond, hk0⟩
            all_goals go_wp2_with (first | (go_at_call 30; refine c31.mono ?_; rintro e W ⟨rfl, rfl⟩) | (go_at_call 31; refine (c33 _).mono ?_; rintro e W ⟨rfl, rfl⟩) | (go_at_call 17; fail))
            all_goals (
              refine (no_at (k : Int) 80 _).mono ?_
              rintro e W3 ⟨g3, k3, rfl, g0, g1, hg3, hb3⟩
              have hwl : w.heap.size < wr.heap.size := cell_lt z0
              have y0 := (hb3.cell (p := ⟨w.heap.size, 0, none⟩) hwl).trans z0
              have y1 := (hb3.cell (p := ⟨w.heap.size, 1, none⟩) hwl).trans z1
              have yf := fun i => (hb3.frozen (p := ⟨w.heap.size, i, none⟩) hwl).trans (zf i)
              have HB3 : Hid (Below w.heap.size w W3) := HBW.out.trans (hb3.mono HBW.out.size)
              clear z0 z1 zf
              go_wp2
              obtain ⟨r0, r1⟩ := res_cells (v0 := .slice (some ⟨g3, 0, none⟩) 1 k3) (v1 := .int .i64 80) y0 y1
              exact bodyPost_ret (v := .tuple #[.pointer none, .agg #[.slice (some ⟨g3, 0, none⟩) 1 k3, .int .i64 80]]) (by simp [results, Tryz.results12, go_sem, r0, r1]) rfl ⟨_, _, rfl, ⟨rfl, g3, k3, rfl, (cell_set_off (by omega)).trans ((cell_set_off (by omega)).trans g0), (cell_set_off (by omega)).trans ((cell_set_off (by omega)).trans g1)⟩, (HB3.out.setCell (p := ⟨w.heap.size, 0, none⟩) (Nat.le_refl _) _).setCell (p := ⟨w.heap.size, 1, none⟩) (Nat.le_refl _) _⟩)
          | some ky =>
            obtain ⟨kk, y⟩ := ky
            rw [hnm] at hres
            simp only at hres
            have hkk7 : kk < 7 := nmd_lt 7 0 _ kk y hnm
            have hrd := readS_some hnm
            rw [hrd] at c33
            simp only at c33
            have hr0 : ((repN kk : Int) == 0) = false := by have := repN_pos ⟨kk, hkk7⟩; simp at this ⊢; omega
            have hcond1 : ((trim s).toList == []) = false := by
              rcases hcond with h | ⟨h, _⟩
              · exact h
              · have h0 : (trim s).size = 0 := by
                  by_cases h0 : (trim s).size = 0
                  · exact h0
                  · rw [nil_beq_ne h0] at h; cases h
                rw [nmd_empty h0] at hnm
                cases hnm
            generalize trim s = tt at c31 c33 hcond1 hres
            clear hA hnm hds hs hkT hrd hcond
            by_cases hal : (!y && decide (1 < n)) = true
            · rw [if_pos hal] at hres
              subst hres
              simp only [Bool.and_eq_true, Bool.not_eq_true', decide_eq_true_eq] at hal
              obtain ⟨rfl, hc⟩ := hal
              have hci : (1 : Int) < (n : Int) := by omega
              generalize repN kk = ρ at c33 hr0
              clear hset hN7 hNl
              go_wp2_with (first | (go_at_call 30; refine c31.mono ?_; rintro e W ⟨rfl, rfl⟩) | (go_at_call 31; refine (c33 _).mono ?_; rintro e W ⟨rfl, rfl⟩) | (go_at_call 17; fail))
              refine (no_at (k : Int) 83 _).mono ?_
              rintro e W3 ⟨g3, k3, rfl, g0, g1, hg3, hb3⟩
              have hwl : w.heap.size < wr.heap.size := cell_lt z0
              have y0 := (hb3.cell (p := ⟨w.heap.size, 0, none⟩) hwl).trans z0
              have y1 := (hb3.cell (p := ⟨w.heap.size, 1, none⟩) hwl).trans z1
              have yf := fun i => (hb3.frozen (p := ⟨w.heap.size, i, none⟩) hwl).trans (zf i)
              have HB3 : Hid (Below w.heap.size w W3) := HBW.out.trans (hb3.mono HBW.out.size)
              clear z0 z1 zf
              go_wp2
              obtain ⟨r0, r1⟩ := res_cells (v0 := .slice (some ⟨g3, 0, none⟩) 1 k3) (v1 := .int .i64 83) y0 y1
              exact bodyPost_ret (v := .tuple #[.pointer none, .agg #[.slice (some ⟨g3, 0, none⟩) 1 k3, .int .i64 83]]) (by simp [results, Tryz.results12, go_sem, r0, r1]) rfl ⟨_, _, rfl, ⟨rfl, g3, k3, rfl, (cell_set_off (by omega)).trans ((cell_set_off (by omega)).trans g0), (cell_set_off (by omega)).trans ((cell_set_off (by omega)).trans g1)⟩, (HB3.out.setCell (p := ⟨w.heap.size, 0, none⟩) (Nat.le_refl _) _).setCell (p := ⟨w.heap.size, 1, none⟩) (Nat.le_refl _) _⟩
            · rw [if_neg hal] at hres
              have hal2 : y = true ∨ (y = false ∧ (n : Int) ≤ 1) := by
                cases y with
                | true => exact .inl rfl
                | false => simp at hal; exact .inr ⟨rfl, by omega⟩
              clear hal
              rcases hal2 with rfl | ⟨rfl, hc1⟩
              · obtain ⟨ua, uc, rfl⟩ := hset.val
                have h0 := hset.c0
                have h1 := hset.c1
                have hf0 := hset.cf
                obtain ⟨m, hm⟩ : ∃ m, N.length = m := ⟨_, rfl⟩
                rw [hm] at h0 hset
                have HM : Hid (N.length = m) := hm
                have HSt : Hid (RSetAt wr (W0.heap.size + 1) W0.heap.size (.slice ua m uc) N x) := hset
                have HK7 : Hid (kk < 7 ∧ (∀ r ∈ N, r.1 < 7) ∧ N.length = k) := ⟨hkk7, hN7, hNl⟩
                have hm6 : m ≤ 6 := by omega
                have hm6I : (m : Int) ≤ 6 := by omega
                have HRS : Hid ((if N.any (fun r => r.1 == kk) = true then Sum.inl ((k : Int), 82) else newL n (T.drop (k + 1)) (k + 1) (N ++ [(kk, tt)]) true) = RES) := hres
                have HH1 : Hid (wr.cell? ⟨W0.heap.size, 1, none⟩ = some (.bool x)) := h1
                clear hset hm hres hN7 hNl hkk7
                go_wp2_with (first | (go_at_call 30; refine c31.mono ?_; rintro e W ⟨rfl, rfl⟩) | (go_at_call 31; refine (c33 _).mono ?_; rintro e W ⟨rfl, rfl⟩))
                go_loop [9] (fun z => ∃ j : Nat, z = .int .i64 (j : Int) ∧ j ≤ m ∧ Hid (∀ r ∈ N.take j, (r.1 == kk) = false)) (fun z => m - (intOf z).toNat)
                case atStart => exact ⟨0, rfl, Nat.zero_le _, by intro r hr; simp at hr⟩
                case round =>
                  obtain ⟨j, rfl, hj, HJ⟩ := hrel
                  by_cases hjm : j < m
                  · have hjN : j < N.length := by rw [HM.out]; exact hjm
                    obtain ⟨r, hr⟩ : ∃ r, N[j]? = some r := ⟨N[j], List.getElem?_eq_getElem hjN⟩
                    obtain ⟨g, rfl, -, hcj⟩ := HSt.out.cell j r hr
                    have hr7 : r.1 < 7 := HK7.out.2.1 r (List.mem_of_getElem? hr)
                    have HRj : Hid (N[j]? = some r) := hr
                    have HTk : Hid (N.take (j + 1) = N.take j ++ [r]) := by show _ = _; rw [List.take_add_one, hr]; rfl
                    have hjI : (j : Int) < (m : Int) := by omega
                    clear hr
                    by_cases heq : r.1 = kk
                    · have hany : N.any (fun r => r.1 == kk) = true := by rw [List.any_eq_true]; exact ⟨r, List.mem_of_getElem? HRj.out, by simp [heq]⟩
                      have hRS := HRS.out
                      rw [if_pos hany] at hRS
                      subst hRS
                      have hbe : ((repN r.1 : Int) == (repN kk : Int)) = true := by rw [heq]; simp
                      clear hany heq HRS
                      generalize repN r.1 = ρ1 at hcj hbe
                      generalize repN kk = ρ2 at hbe
                      go_wp2_with (go_at_call 17; fail)
                      refine (no_at (k : Int) 82 _).mono ?_
                      rintro e W3 ⟨g3, k3, rfl, g0, g1, hg3, hb3⟩
                      have hwl : w.heap.size < wr.heap.size := cell_lt z0
                      have y0 := (hb3.cell (p := ⟨w.heap.size, 0, none⟩) hwl).trans z0
                      have y1 := (hb3.cell (p := ⟨w.heap.size, 1, none⟩) hwl).trans z1
                      have yf := fun i => (hb3.frozen (p := ⟨w.heap.size, i, none⟩) hwl).trans (zf i)
                      have HB3 : Hid (Below w.heap.size w W3) := HBW.out.trans (hb3.mono HBW.out.size)
                      clear z0 z1 zf
                      go_wp2
                      obtain ⟨r0, r1⟩ := res_cells (v0 := .slice (some ⟨g3, 0, none⟩) 1 k3) (v1 := .int .i64 82) y0 y1
                      exact bodyPost_ret (v := .tuple #[.pointer none, .agg #[.slice (some ⟨g3, 0, none⟩) 1 k3, .int .i64 82]]) (by simp [results, Tryz.results12, go_sem, r0, r1]) rfl ⟨_, _, rfl, ⟨rfl, g3, k3, rfl, (cell_set_off (by omega)).trans ((cell_set_off (by omega)).trans g0), (cell_set_off (by omega)).trans ((cell_set_off (by omega)).trans g1)⟩, (HB3.out.setCell (p := ⟨w.heap.size, 0, none⟩) (Nat.le_refl _) _).setCell (p := ⟨w.heap.size, 1, none⟩) (Nat.le_refl _) _⟩
                    · have HJ2 : Hid (∀ r ∈ N.take (j + 1), (r.1 == kk) = false) := by
                        intro r2 hr2
                        rw [HTk.out, List.mem_append] at hr2
                        rcases hr2 with hr2 | hr2
                        · exact HJ.out r2 hr2
                        · simp at hr2; subst hr2; simp [heq]
                      have hbe : ((repN r.1 : Int) == (repN kk : Int)) = false := by
                        refine beq_eq_false_iff_ne.2 fun h => heq ?_
                        have := repN_inj ⟨r.1, hr7⟩ ⟨kk, HK7.out.1⟩ (by simpa using Int.ofNat.inj h)
                        simpa using this
                      clear heq
                      generalize repN r.1 = ρ1 at hcj hbe
                      go_wp2
                      exact ⟨⟨j + 1, by simp, by omega, HJ2⟩, by simp [intOf]; omega⟩
                  · obtain rfl : j = m := by omega
                    have hany : ¬ N.any (fun r => r.1 == kk) = true := by
                      rw [Bool.not_eq_true, List.any_eq_false]
                      intro r hr
                      have := HJ.out r (by rw [← HM.out, List.take_length]; exact hr)
                      simpa using this
                    have hRS := HRS.out
                    rw [if_neg hany] at hRS
                    have HRS2 : Hid (newL n (T.drop (k + 1)) (k + 1) (N ++ [(kk, tt)]) true = RES) := hRS
                    clear hRS hany HRS HJ
                    have HKM : Hid (j = k) := by have := HK7.out.2.2; have h2 := HM.out; show _ = _; omega
                    have h63 : j + 1 ≤ maxLen := by have := HKM.out; unfold maxLen; omega
                    have hby : (j + 1) * 8 ≤ 140737488355328 := by have := HKM.out; omega
                    obtain ⟨ρ, hρ⟩ : ∃ ρ, repN kk = ρ := ⟨_, rfl⟩
                    have HRho : Hid (repN kk = ρ) := hρ
                    rw [hρ]
                    clear hρ
                    go_wp2_with (first | (at_builtin; refine wpList_append_lies _ rfl (.tmp 94) (.tmp 96) 55 rfl (W0.heap.size + 1) 3 i0 _ 1 8 Tryz.underlying55 hi hz0 hz1 hz2 rfl (by decide) (.slice ua j uc) j (intsC N) rfl (HSt.out.own_n HM.out _) ⟨wr.heap.size, 0, none⟩ 1 1 [.int .i64 (ρ : Int)] rfl rfl (World.news_of_block (heap_alloc_new wr _)) (ints_oneCell .i64 [(ρ : Int)]) (by decide) h63 hby (HSt.out.base _) _ rfl ?_) | fail)
                    intro g4 cap4 W4 hown4 hgrow4 hat4 hlt4
                    have hpast := HSt.out.past hgrow4
                    obtain ⟨f0, f1, ff, -⟩ := hpast
                    have HMo : Hid _ := fun z => HSt.out.more (r := (kk, tt)) (y := z) HM.out HRho.out hgrow4 hown4
                    clear hown4 hgrow4 hat4 hlt4
                    go_wp2
                    have HF := (HMo.out true).1
                    have HBF := (HMo.out true).2
                    go_roundw
                    case rel => exact ⟨k + 1, by simp, by omega, HBR.out.trans HBF, _, N ++ [(kk, tt)], true, by have := HKM.out; have h2 := HM.out; simp; omega, HF, fun r hr => by
                        rw [List.mem_append, List.mem_singleton] at hr
                        rcases hr with hr | rfl
                        · exact HK7.out.2.1 r hr
                        · exact HK7.out.1, HRS2.out⟩
                    case measure => simp [intOf]; omega
              · obtain ⟨ua, uc, rfl⟩ := hset.val
                have h0 := hset.c0
                have h1 := hset.c1
                have hf0 := hset.cf
                obtain ⟨m, hm⟩ : ∃ m, N.length = m := ⟨_, rfl⟩
                rw [hm] at h0 hset
                have HM : Hid (N.length = m) := hm
                have HSt : Hid (RSetAt wr (W0.heap.size + 1) W0.heap.size (.slice ua m uc) N x) := hset
                have HK7 : Hid (kk < 7 ∧ (∀ r ∈ N, r.1 < 7) ∧ N.length = k) := ⟨hkk7, hN7, hNl⟩
                have hm6 : m ≤ 6 := by omega
                have hm6I : (m : Int) ≤ 6 := by omega
                have HRS : Hid ((if N.any (fun r => r.1 == kk) = true then Sum.inl ((k : Int), 82) else newL n (T.drop (k + 1)) (k + 1) (N ++ [(kk, tt)]) false) = RES) := hres
                have HH1 : Hid (wr.cell? ⟨W0.heap.size, 1, none⟩ = some (.bool x)) := h1
                clear hset hm hres hN7 hNl hkk7
                go_wp2_with (first | (go_at_call 30; refine c31.mono ?_; rintro e W ⟨rfl, rfl⟩) | (go_at_call 31; refine (c33 _).mono ?_; rintro e W ⟨rfl, rfl⟩))
                go_loop [9] (fun z => ∃ j : Nat, z = .int .i64 (j : Int) ∧ j ≤ m ∧ Hid (∀ r ∈ N.take j, (r.1 == kk) = false)) (fun z => m - (intOf z).toNat)
                case atStart => exact ⟨0, rfl, Nat.zero_le _, by intro r hr; simp at hr⟩
                case round =>
                  obtain ⟨j, rfl, hj, HJ⟩ := hrel
                  by_cases hjm : j < m
                  · have hjN : j < N.length := by rw [HM.out]; exact hjm
                    obtain ⟨r, hr⟩ : ∃ r, N[j]? = some r := ⟨N[j], List.getElem?_eq_getElem hjN⟩
                    obtain ⟨g, rfl, -, hcj⟩ := HSt.out.cell j r hr
                    have hr7 : r.1 < 7 := HK7.out.2.1 r (List.mem_of_getElem? hr)
                    have HRj : Hid (N[j]? = some r) := hr
                    have HTk : Hid (N.take (j + 1) = N.take j ++ [r]) := by show _ = _; rw [List.take_add_one, hr]; rfl
                    have hjI : (j : Int) < (m : Int) := by omega
                    clear hr
                    by_cases heq : r.1 = kk
                    · have hany : N.any (fun r => r.1 == kk) = true := by rw [List.any_eq_true]; exact ⟨r, List.mem_of_getElem? HRj.out, by simp [heq]⟩
                      have hRS := HRS.out
                      rw [if_pos hany] at hRS
                      subst hRS
                      have hbe : ((repN r.1 : Int) == (repN kk : Int)) = true := by rw [heq]; simp
                      clear hany heq HRS
                      generalize repN r.1 = ρ1 at hcj hbe
                      generalize repN kk = ρ2 at hbe
                      go_wp2_with (go_at_call 17; fail)
                      refine (no_at (k : Int) 82 _).mono ?_
                      rintro e W3 ⟨g3, k3, rfl, g0, g1, hg3, hb3⟩
                      have hwl : w.heap.size < wr.heap.size := cell_lt z0
                      have y0 := (hb3.cell (p := ⟨w.heap.size, 0, none⟩) hwl).trans z0
                      have y1 := (hb3.cell (p := ⟨w.heap.size, 1, none⟩) hwl).trans z1
                      have yf := fun i => (hb3.frozen (p := ⟨w.heap.size, i, none⟩) hwl).trans (zf i)
                      have HB3 : Hid (Below w.heap.size w W3) := HBW.out.trans (hb3.mono HBW.out.size)
                      clear z0 z1 zf
                      go_wp2
                      obtain ⟨r0, r1⟩ := res_cells (v0 := .slice (some ⟨g3, 0, none⟩) 1 k3) (v1 := .int .i64 82) y0 y1
                      exact bodyPost_ret (v := .tuple #[.pointer none, .agg #[.slice (some ⟨g3, 0, none⟩) 1 k3, .int .i64 82]]) (by simp [results, Tryz.results12, go_sem, r0, r1]) rfl ⟨_, _, rfl, ⟨rfl, g3, k3, rfl, (cell_set_off (by omega)).trans ((cell_set_off (by omega)).trans g0), (cell_set_off (by omega)).trans ((cell_set_off (by omega)).trans g1)⟩, (HB3.out.setCell (p := ⟨w.heap.size, 0, none⟩) (Nat.le_refl _) _).setCell (p := ⟨w.heap.size, 1, none⟩) (Nat.le_refl _) _⟩
                    · have HJ2 : Hid (∀ r ∈ N.take (j + 1), (r.1 == kk) = false) := by
                        intro r2 hr2
                        rw [HTk.out, List.mem_append] at hr2
                        rcases hr2 with hr2 | hr2
                        · exact HJ.out r2 hr2
                        · simp at hr2; subst hr2; simp [heq]
                      have hbe : ((repN r.1 : Int) == (repN kk : Int)) = false := by
                        refine beq_eq_false_iff_ne.2 fun h => heq ?_
                        have := repN_inj ⟨r.1, hr7⟩ ⟨kk, HK7.out.1⟩ (by simpa using Int.ofNat.inj h)
                        simpa using this
                      clear heq
                      generalize repN r.1 = ρ1 at hcj hbe
                      go_wp2
                      exact ⟨⟨j + 1, by simp, by omega, HJ2⟩, by simp [intOf]; omega⟩
                  · obtain rfl : j = m := by omega
                    have hany : ¬ N.any (fun r => r.1 == kk) = true := by
                      rw [Bool.not_eq_true, List.any_eq_false]
                      intro r hr
                      have := HJ.out r (by rw [← HM.out, List.take_length]; exact hr)
                      simpa using this
                    have hRS := HRS.out
                    rw [if_neg hany] at hRS
                    have HRS2 : Hid (newL n (T.drop (k + 1)) (k + 1) (N ++ [(kk, tt)]) false = RES) := hRS
                    clear hRS hany HRS HJ
                    have HKM : Hid (j = k) := by have := HK7.out.2.2; have h2 := HM.out; show _ = _; omega
                    have h63 : j + 1 ≤ maxLen := by have := HKM.out; unfold maxLen; omega
                    have hby : (j + 1) * 8 ≤ 140737488355328 := by have := HKM.out; omega
                    obtain ⟨ρ, hρ⟩ : ∃ ρ, repN kk = ρ := ⟨_, rfl⟩
                    have HRho : Hid (repN kk = ρ) := hρ
                    rw [hρ]
                    clear hρ
                    go_wp2_with (first | (at_builtin; refine wpList_append_lies _ rfl (.tmp 94) (.tmp 96) 55 rfl (W0.heap.size + 1) 3 i0 _ 1 8 Tryz.underlying55 hi hz0 hz1 hz2 rfl (by decide) (.slice ua j uc) j (intsC N) rfl (HSt.out.own_n HM.out _) ⟨wr.heap.size, 0, none⟩ 1 1 [.int .i64 (ρ : Int)] rfl rfl (World.news_of_block (heap_alloc_new wr _)) (ints_oneCell .i64 [(ρ : Int)]) (by decide) h63 hby (HSt.out.base _) _ rfl ?_) | fail)
                    intro g4 cap4 W4 hown4 hgrow4 hat4 hlt4
                    have hpast := HSt.out.past hgrow4
                    obtain ⟨f0, f1, ff, -⟩ := hpast
                    have HMo : Hid _ := fun z => HSt.out.more (r := (kk, tt)) (y := z) HM.out HRho.out hgrow4 hown4
                    clear hown4 hgrow4 hat4 hlt4
                    go_wp2
                    have HF := (HMo.out false).1
                    have HBF := (HMo.out false).2
                    go_roundw
                    case rel => exact ⟨k + 1, by simp, by omega, HBR.out.trans HBF, _, N ++ [(kk, tt)], false, by have := HKM.out; have h2 := HM.out; simp; omega, HF, fun r hr => by
                        rw [List.mem_append, List.mem_singleton] at hr
                        rcases hr with hr | rfl
                        · exact HK7.out.2.1 r hr
                        · exact HK7.out.1, HRS2.out⟩
                    case measure => simp [intOf]; omega
        · have HK0 : Hid (k = 0 ∧ (trim s).size = 0) := by
            refine ⟨?_, ?_⟩
            · by_cases h : k = 0
              · exact h
              · exact absurd (.inr (by omega)) hA
            · by_cases h : (trim s).size = 0
              · exact h
              · exact absurd (.inl h) hA
          have hn1 : 1 < n := by
            by_cases h : 1 < n
            · exact h
            · have hl1 : T.length = 1 := by rw [HN.out]; omega
              have hT1 : T = [s] := by
                have h2 := hs
                rw [HK0.out.1] at h2
                match T, hl1, h2 with
                | [x], _, h => simp at h; rw [h]
              exact absurd HK0.out.2 (HNE.out s hT1)
          have hfb : fullB s (k : Int) (n : Int) = sp 1 := by rw [HK0.out.1]; exact term_first s n HK0.out.2 hn1
          rw [hfb, nmd_one] at hres
          have hNn : N = [] := List.eq_nil_of_length_eq_zero (by rw [hNl]; exact HK0.out.1)
          subst hNn
          simp only [Bool.not_true, Bool.false_and, Bool.false_eq_true, if_false, List.any_nil, List.nil_append] at hres
          have HRS2 : Hid (newL n (T.drop (k + 1)) (k + 1) [(0, sp 1)] true = RES) := hres
          have hcond := nil_beq HK0.out.2
          have hkz : ((k : Int) == 0) = true := by rw [HK0.out.1]; rfl
          have hn1I : (1 : Int) < (n : Int) := by omega
          generalize (readS (trim s)).1 = ρ0 at c33
          generalize (readS (trim s)).2 = ξ0 at c33
          generalize trim s = tt at c31 c33 hcond
          obtain ⟨ua, uc, rfl⟩ := hset.val
          have h0 := hset.c0
          have HSt : Hid (RSetAt wr (W0.heap.size + 1) W0.heap.size (.slice ua 0 uc) [] x) := hset
          simp only [List.length_nil] at h0
          have h63 : 0 + 1 ≤ maxLen := by unfold maxLen; omega
          have hwp : W0.heap.size + 1 ≤ (wr.alloc (.cells #[.int .i64 6] 3)).heap.size := HSt.out.base _
          clear hset hres hNl hfb hA hds hs hkT hN7
          go_wp2_with (first | (go_at_call 30; refine c31.mono ?_; rintro e W ⟨rfl, rfl⟩) | (go_at_call 31; refine (c33 _).mono ?_; rintro e W ⟨rfl, rfl⟩))
          go_loop [9] (fun z => z = .int .i64 0) (fun _ => 0)
          case atStart => rfl
          case round =>
            obtain rfl := hrel
            go_wp2_with (first | (at_builtin; refine wpList_append_lies _ rfl (.tmp 94) (.tmp 96) 55 rfl (W0.heap.size + 1) 3 i0 _ 1 8 Tryz.underlying55 hi hz0 hz1 hz2 rfl (by decide) (.slice ua 0 uc) 0 (intsC []) rfl (HSt.out.own_n rfl _) ⟨wr.heap.size, 0, none⟩ 1 1 [.int .i64 6] rfl rfl (World.news_of_block (heap_alloc_new wr _)) (ints_oneCell .i64 [6]) (by decide) h63 (by decide) hwp _ rfl ?_) | fail)
            intro g4 cap4 W4 hown4 hgrow4 hat4 hlt4
            have hpast := HSt.out.past hgrow4
            obtain ⟨f0, f1, ff, -⟩ := hpast
            have HMo : Hid _ := fun z => HSt.out.more (n := 0) (ρ := 6) (r := (0, sp 1)) (y := z) rfl rfl hgrow4 hown4
            clear hown4 hgrow4 hat4 hlt4
            go_wp2
            have HF := (HMo.out true).1
            have HBF := (HMo.out true).2
            go_roundw
            case rel => exact ⟨k + 1, by simp, by omega, HBR.out.trans HBF, _, [(0, sp 1)], true, by rw [HK0.out.1]; rfl, HF, fun r hr => by
                rw [List.mem_singleton] at hr
                subst hr
                decide, HRS2.out⟩
            case measure => simp [intOf]; omega
      · obtain rfl : k = n := by omega
        rw [List.drop_eq_nil_of_le (by rw [HN.out]; exact Nat.le_refl _), newL] at hres
        subst hres
        have HSt : Hid (RSetAt wr (W0.heap.size + 1) W0.heap.size u N x) := hset
        have c32 := none_any wr
        clear hset hNl hN7
        go_wp2_with (go_at_call 24; fail)
        refine c32.mono ?_
        rintro e W3 ⟨rfl, hb3⟩
        have hwl : w.heap.size < wr.heap.size := cell_lt z0
        have y0 := (hb3.cell (p := ⟨w.heap.size, 0, none⟩) hwl).trans z0
        have y1 := (hb3.cell (p := ⟨w.heap.size, 1, none⟩) hwl).trans z1
        have yf := fun i => (hb3.frozen (p := ⟨w.heap.size, i, none⟩) hwl).trans (zf i)
        have HB3 : Hid (Below w.heap.size w W3) := HBW.out.trans (hb3.mono HBW.out.size)
        have HS3 := HSt.out.on hb3
        have HSS : Hid (RSetAt W3 (W0.heap.size + 1) W0.heap.size u N x) := HS3
        clear z0 z1 zf HS3 c32
        go_wp2
        obtain ⟨r0, r1⟩ := res_cells (v0 := .slice none 0 0) (v1 := .int .i64 0) y0 y1
        have hs0 := HLT.out.1
        refine bodyPost_ret (v := .tuple #[.pointer (some ⟨W0.heap.size, 0, none⟩), .agg #[.slice none 0 0, .int .i64 0]]) (by simp [results, Tryz.results12, go_sem, r0, r1]) rfl ⟨_, _, rfl, ⟨W0.heap.size, u, rfl, rfl, by omega, ?_⟩, (HB3.out.setCell (p := ⟨w.heap.size, 0, none⟩) (Nat.le_refl _) _).setCell (p := ⟨w.heap.size, 1, none⟩) (Nat.le_refl _) _⟩
        exact ((HSS.out.off (by omega) (by omega) _).off (by omega) (by omega) _).mono (by omega))
end Go.Proofs.YtegfgbcimlacbaaGreatDoor
