
import Derived.Test.YtghaeolehjgmnaaGreatDoorOd
import Derived.Test.YtghaeolehjgmnaaGreatDoorG
/-
  DERIVED. A set whose ways back may have been asked; the first repertoire that has a rune.
-/
namespace Go.Proofs.YtghaeolehjgmnaaGreatDoor
open Go Go.Proofs Go.RowKit Go.Maps

def St (w : World) (B k : Nat) : Prop := Fresh w B (mfN k) ∨ Filled w B k

/-- The Once's own word tells its block from others. -/
theorem St.word {w : World} {B k : Nat} (h : St w B k) : ∃ z, w.cell? ⟨B + 1, 0, none⟩ = some (.int .u32 z) := by
  rcases h with h | h
  · exact ⟨0, h.cells.2.1.c0⟩
  · exact ⟨1, h.o.c0⟩
theorem St.fn {w : World} {B k : Nat} (h : St w B k) : w.cell? ⟨B, 0, none⟩ = some (.func (.func (mfN k)) #[] #[]) := by
  rcases h with h | h
  · exact h.cells.1
  · exact h.b0
theorem St.p2 {w : World} {B k : Nat} (h : St w B k) : w.cell? ⟨B + 1 + 1, 0, none⟩ = some (.pointer (some ⟨B + 1, 0, none⟩)) := by
  rcases h with h | h
  · exact h.cells.2.2.2.1
  · exact h.b2
theorem St.p3 {w : World} {B k : Nat} (h : St w B k) : w.cell? ⟨B + 1 + 1 + 1, 0, none⟩ = some (.func (.func 72) #[] #[.pointer (some ⟨B + 1 + 1, 0, none⟩), .pointer (some ⟨B, 0, none⟩)]) := by
  rcases h with h | h
  · exact h.cells.2.2.2.2
  · exact h.b3

/-- A block with a u32 in front, other than this one's, may turn. -/
theorem St.keep {w w' : World} {B k C : Nat} {q : IntKind} {z : Int} (h : St w B k) (hz : w.cell? ⟨C, 0, none⟩ = some (.int q z)) (hC : C ≠ B + 1)
    (hk : ∀ j, j < w.heap.size → j ≠ C → w'.heap[j]? = w.heap[j]?) : St w' B k := by
  have n0 : B ≠ C := fun e => by have := h.fn; rw [e, hz] at this; cases this
  have n2 : B + 1 + 1 ≠ C := fun e => by have := h.p2; rw [e, hz] at this; cases this
  have n3 : B + 1 + 1 + 1 ≠ C := fun e => by have := h.p3; rw [e, hz] at this; cases this
  have l0 := cell_lt h.fn
  have l1 := cell_lt h.word.choose_spec
  have l2 := cell_lt h.p2
  have l3 := cell_lt h.p3
  simp only at l0 l1 l2 l3
  rcases h with h | h
  · exact .inl ⟨(hk _ l0 n0).trans h.b0, (hk _ l1 (Ne.symm hC)).trans h.b1, (hk _ l2 n2).trans h.b2, (hk _ l3 n3).trans h.b3⟩
  · have hc : ∀ (b i : Nat), b < w.heap.size → b ≠ C → w'.cell? ⟨b, i, none⟩ = w.cell? ⟨b, i, none⟩ := fun b i hb hn => World.cell?_of_block (hk b hb hn)
    have hf : ∀ (b i : Nat), b < w.heap.size → b ≠ C → w'.frozen? ⟨b, i, none⟩ = w.frozen? ⟨b, i, none⟩ := fun b i hb hn => World.frozen?_of_block (hk b hb hn)
    obtain ⟨M, hm, es, cl, hh, r⟩ := h.m
    have hM : M ≠ C := fun e => by
      rw [World.cell?, ← e] at hz
      simp [hh] at hz
    refine .inr ⟨(hc _ _ l0 n0).trans h.b0, ⟨(hc _ _ l1 (Ne.symm hC)).trans h.o.c0, (hc _ _ l1 (Ne.symm hC)).trans h.o.c1, fun i => (hf _ _ l1 (Ne.symm hC)).trans (h.o.cf i)⟩, ⟨M, (hc _ _ l1 (Ne.symm hC)).trans hm, es, cl, ?_, r⟩, (hc _ _ l2 n2).trans h.b2, (hc _ _ l3 n3).trans h.b3⟩
    exact (hk M (Array.getElem?_eq_some_iff.1 hh).1 hM).trans hh
theorem St.on {w w' : World} {B k : Nat} (h : St w B k) (hb : Below w.heap.size w w') : St w' B k := by
  rcases h with h | h
  · exact .inl (h.on hb)
  · have hc : ∀ (a : Addr) (v : Value), w.cell? a = some v → w'.cell? a = some v := fun a v hv => (hb.cell (cell_lt hv)).trans hv
    obtain ⟨M, hm, es, cl, hh, r⟩ := h.m
    have l1 := cell_lt h.o.c0
    exact .inr ⟨hc _ _ h.b0, ⟨hc _ _ h.o.c0, hc _ _ h.o.c1, fun i => (hb.frozen (p := ⟨B + 1, i, none⟩) l1).trans (h.o.cf i)⟩, ⟨M, hc _ _ hm, es, cl, (hb.block M (Array.getElem?_eq_some_iff.1 hh).1).trans hh, r⟩, hc _ _ h.b2, hc _ _ h.b3⟩

/-- Blocks that the ways back of these rows may turn are the Onces' alone. -/
structure Keep (R : List Row) (w w' : World) : Prop where
  os : w'.os = w.os
  tape : w'.tape = w.tape
  output : w'.output = w.output
  size : w.heap.size ≤ w'.heap.size
  block : ∀ j, j < w.heap.size → (∀ r ∈ R, j ≠ r.2.2 + 1) → w'.heap[j]? = w.heap[j]?

theorem Keep.refl (R : List Row) (w : World) : Keep R w w := ⟨rfl, rfl, rfl, Nat.le_refl _, fun _ _ _ => rfl⟩
theorem Keep.trans {R : List Row} {a b c : World} (h1 : Keep R a b) (h2 : Keep R b c) : Keep R a c :=
  ⟨h2.os.trans h1.os, h2.tape.trans h1.tape, h2.output.trans h1.output, Nat.le_trans h1.size h2.size, fun j hj hn => (h2.block j (Nat.lt_of_lt_of_le hj h1.size) hn).trans (h1.block j hj hn)⟩
theorem Keep.of_below {R : List Row} {w w' : World} (h : Below w.heap.size w w') : Keep R w w' := ⟨h.os, h.tape, h.output, h.size, fun j hj _ => h.block j hj⟩
theorem Keep.below {R : List Row} {w w' : World} {q : Nat} (h : Keep R w w') (hq : ∀ r ∈ R, q < r.2.2) (hl : q ≤ w.heap.size) : Below q w w' :=
  ⟨h.os, h.tape, h.output, h.size, fun j hj => h.block j (by omega) (fun r hr => by have := hq r hr; omega)⟩
theorem Keep.cell {R : List Row} {w w' : World} (h : Keep R w w') {b i : Nat} {v : Value} (hv : w.cell? ⟨b, i, none⟩ = some v) (hn : ∀ r ∈ R, b ≠ r.2.2 + 1) : w'.cell? ⟨b, i, none⟩ = some v :=
  (World.cell?_of_block (h.block b (cell_lt hv) hn)).trans hv

/-- A set whose ways back may have been asked. -/
structure SetIn (w : World) (q : Nat) (v : Value) (R : List Row) (x : Bool) : Prop where
  c0 : w.cell? ⟨q, 0, none⟩ = some v
  own : w.ownsRow (q + 1) 82 5 v R.length (rowsC R)
  st : ∀ r ∈ R, St w r.2.2 r.1 ∧ q < r.2.2
  apart : ∀ (i j : Nat) (a b : Row), R[i]? = some a → R[j]? = some b → i ≠ j → mfN a.1 ≠ mfN b.1

theorem SetIn.val {w : World} {q : Nat} {v : Value} {R : List Row} {x : Bool} (h : SetIn w q v R x) : ∃ a cap, v = .slice a R.length cap := by
  rcases h.own.2 with ⟨rfl, h0⟩ | ⟨g, cap, cur, hv, _⟩
  · exact ⟨none, 0, by rw [h0]⟩
  · exact ⟨_, _, hv⟩
theorem SetIn.row {w : World} {q : Nat} {a : Option Addr} {n cap : Nat} {R : List Row} {x : Bool} (h : SetIn w q (.slice a n cap) R x) (k : Nat) (r : Row) (hr : R[k]? = some r) :
    ∃ g, a = some ⟨g, 0, none⟩ ∧ n = R.length ∧ w.cell? ⟨g, k * 5, none⟩ = some (.int .i64 (r.1 : Int)) ∧ w.cell? ⟨g, k * 5 + 1, none⟩ = some (.string r.2.1) ∧ w.cell? ⟨g, k * 5 + 2, none⟩ = some (.string (sp (3 * r.1 + 2))) ∧ w.cell? ⟨g, k * 5 + 3, none⟩ = some (.func (.func (mfN r.1)) #[] #[]) ∧ w.cell? ⟨g, k * 5 + 4, none⟩ = some (invF r.2.2) := by
  have hk : k < R.length := (List.getElem?_eq_some_iff.1 hr).1
  rcases h.own.2 with ⟨_, h0⟩ | ⟨g, cap', cur, hv, _⟩
  · omega
  · simp only [Value.slice.injEq] at hv
    obtain ⟨rfl, rfl, rfl⟩ := hv
    have hc : ∀ j, j < 5 → w.cell? ⟨g, k * 5 + j, none⟩ = (rowC r)[j]? := fun j hj => by
      rw [h.own.cellAt (k * 5 + j) (by omega)]
      exact rowsC_get R k r j hr hj
    exact ⟨g, rfl, rfl, hc 0 (by decide), hc 1 (by decide), hc 2 (by decide), hc 3 (by decide), hc 4 (by decide)⟩

theorem SetIn.far {w : World} {q : Nat} {v : Value} {R : List Row} {x : Bool} (h : SetIn w q v R x) : (∀ r ∈ R, q ≠ r.2.2 + 1) ∧ ∀ g, v.ownBlock = some g → ∀ r ∈ R, g ≠ r.2.2 + 1 := by
  refine ⟨fun r hr => by have := (h.st r hr).2; omega, fun g hg r hr e => ?_⟩
  obtain ⟨z, hz⟩ := (h.st r hr).1.word
  have hp : 0 < R.length := List.length_pos_of_mem hr
  obtain ⟨g', cap, rfl, _⟩ := h.own.form hp
  simp [Value.ownBlock] at hg
  subst hg
  obtain ⟨r0, h0⟩ : ∃ r0, R[0]? = some r0 := ⟨R[0], List.getElem?_eq_getElem hp⟩
  obtain ⟨g2, e2, _, hc, _⟩ := h.row 0 r0 h0
  simp only [Option.some.injEq, Addr.mk.injEq] at e2
  rw [← e2.1, Nat.zero_mul, e, hz] at hc
  cases hc

theorem own_keep {w w' : World} {base : Nat} {e : TypeId} {size : Nat} {v : Value} {n : Nat} {xs : List Value} (h : w.ownsRow base e size v n xs) (hk : ∀ g, v.ownBlock = some g → w'.heap[g]? = w.heap[g]?) : w'.ownsRow base e size v n xs := by
  refine ⟨h.1, ?_⟩
  rcases h.2 with h2 | ⟨g, cap, cur, hv, hg, hh, r⟩
  · exact .inl h2
  · exact .inr ⟨g, cap, cur, hv, hg, (hk g (by rw [hv]; rfl)).trans hh, r⟩

theorem SetIn.on {w w' : World} {q : Nat} {v : Value} {R : List Row} {x : Bool} (h : SetIn w q v R x) (hb : Below w.heap.size w w') : SetIn w' q v R x :=
  ⟨(hb.cell (cell_lt h.c0)).trans h.c0, ownsRow_below h.own hb (Nat.le_refl _), fun r hr => ⟨(h.st r hr).1.on hb, (h.st r hr).2⟩, h.apart⟩

/-- One of the ways back was asked. -/
theorem SetIn.asked {w w' : World} {q : Nat} {v : Value} {R : List Row} {x : Bool} (h : SetIn w q v R x) {i : Nat} {r : Row} (hr : R[i]? = some r) (hs : St w' r.2.2 r.1) (hg : w.grownBy w' (some (r.2.2 + 1))) : SetIn w' q v R x ∧ Keep R w w' := by
  have hm : r ∈ R := List.mem_of_getElem? hr
  obtain ⟨z, hz⟩ := (h.st r hm).1.word
  have hblk : ∀ j, j < w.heap.size → j ≠ r.2.2 + 1 → w'.heap[j]? = w.heap[j]? := fun j hj hn => hg.block j hj (by simpa using hn)
  refine ⟨⟨?_, ?_, ?_, h.apart⟩, ⟨hg.os, hg.tape, hg.output, hg.size, fun j hj hn => hblk j hj (hn r hm)⟩⟩
  · exact (World.cell?_of_block (hblk q (cell_lt h.c0) (h.far.1 r hm))).trans h.c0
  · exact own_keep h.own (fun g hgb => hblk g (h.own.lt g hgb).2 (h.far.2 g hgb r hm))
  · intro s hs2
    obtain ⟨j, hj⟩ := List.getElem?_of_mem hs2
    refine ⟨?_, (h.st s hs2).2⟩
    by_cases hij : i = j
    · subst hij
      rw [hr] at hj
      cases hj
      exact hs
    · refine (h.st s hs2).1.keep hz ?_ hblk
      intro e
      have e2 : s.2.2 = r.2.2 := by omega
      have f1 := (h.st s hs2).1.fn
      have f2 := (h.st r hm).1.fn
      rw [e2, f2] at f1
      simp only [Option.some.injEq, Value.func.injEq, Fn.func.injEq, and_true] at f1
      exact h.apart i j r s hr hj hij f1

/-- Which byte stands for a rune in a row. -/
theorem byte_any (w : World) (B k : Nat) (hk : k < 7) (r : Int) (hr0 : -2147483648 ≤ r) (hr1 : r < 2147483648) (h : St w B k) (hT : Tabs w) (hB5 : 5 < B) :
    Calls Tryz.prog 74 #[.int .i32 r, .pointer (some ⟨B + 1 + 1, 0, none⟩), .pointer (some ⟨B + 1 + 1 + 1, 0, none⟩)] w fun e w' => e = .returned (.int .u8 (byteOf k r : Nat)) ∧ St w' B k ∧ w.grownBy w' (some (B + 1)) := by
  rcases h with h | h
  · refine (byte_fresh w B k hk r hr0 hr1 h hT hB5).mono ?_
    rintro e w' ⟨rfl, hA⟩
    exact ⟨rfl, .inr hA.full, hA.grow⟩
  · refine (byte_filled w B k r hr0 hr1 h).mono ?_
    rintro e w' ⟨rfl, rfl⟩
    exact ⟨rfl, (show St w B k from .inr h).on ((Below.refl _ _).drew), ⟨rfl, rfl, rfl, Nat.le_refl _, fun _ _ _ => rfl⟩⟩

/-- A block of a row's own kind, apart from the set's, may turn. -/
theorem SetIn.beside {w w' : World} {q C : Nat} {z : Int} {v : Value} {R : List Row} {x : Bool} (h : SetIn w q v R x) (hz : w.cell? ⟨C, 0, none⟩ = some (.int .i64 z)) (hq : q ≠ C) (ho : ∀ g, v.ownBlock = some g → g ≠ C)
    (hk : ∀ j, j < w.heap.size → j ≠ C → w'.heap[j]? = w.heap[j]?) : SetIn w' q v R x := by
  refine ⟨(World.cell?_of_block (hk q (cell_lt h.c0) hq)).trans h.c0, own_keep h.own (fun g hg => hk g (h.own.lt g hg).2 (ho g hg)), fun r hr => ⟨(h.st r hr).1.keep hz ?_ hk, (h.st r hr).2⟩, h.apart⟩
  intro e
  obtain ⟨y, hy⟩ := (h.st r hr).1.word
  rw [← e, hz] at hy
  cases hy

/-- The byte of the first row that has the rune. -/
def firstB (r : Int) : List Row → Nat
  | [] => 0
  | a :: R => if byteOf a.1 r = 0 then firstB r R else byteOf a.1 r
theorem firstB_skip (r : Int) : ∀ (R : List Row) (k : Nat), (∀ a ∈ R.take k, byteOf a.1 r = 0) → firstB r R = firstB r (R.drop k)
  | R, 0, _ => rfl
  | [], k + 1, _ => by simp
  | a :: R, k + 1, h => by
    rw [firstB, if_pos (h a (by simp)), List.drop_succ_cons]
    exact firstB_skip r R k (fun b hb => h b (by simp [hb]))

def FirstInv (W0 : World) (q : Nat) (v : Value) (R : List Row) (x : Bool) (r : Int) (n : Nat) (y : Value) (wr : World) : Prop :=
  ∃ k : Nat, y = .int .i64 (k : Int) ∧ k ≤ n ∧ SetIn wr q v R x ∧ Keep R W0 wr ∧ ∀ a ∈ R.take k, byteOf a.1 r = 0

/-- A row as a value, or none. -/
def FirstV (a : Value) : Prop := (∃ (z : Int) (s1 s2 : ByteArray) (j : Nat) (P : Array Value), a = .agg #[.int .i64 z, .string s1, .string s2, .func (.func j) #[] #[], .func (.func 74) #[] P]) ∨ a = .agg #[.int .i64 0, .string ⟨#[]⟩, .string ⟨#[]⟩, .nilFunc, .nilFunc]

theorem Keep.tabs {R : List Row} {w w' : World} (h : Keep R w w') (hT : Tabs w) (hR : ∀ r ∈ R, 5 < r.2.2) : Tabs w' :=
  ⟨fun i hi => h.cell (hT.p1 i hi) (fun r hr => by have := hR r hr; omega), fun i hi => h.cell (hT.p2 i hi) (fun r hr => by have := hR r hr; omega)⟩

end Go.Proofs.YtghaeolehjgmnaaGreatDoor
