
import Derived.Test.YtegfgbcimlacbaaGreatDoorOd
import Derived.Test.YtegfgbcimlacbaaGreatDoorG
/-
  DERIVED. A set whose ways back may have been asked; the first repertoire that has a rune.
-/
namespace Go.Proofs.YtegfgbcimlacbaaGreatDoor
open Go Go.Proofs Go.RowKit Go.Maps

def St (w : World) (B k : Nat) : Prop := Fresh w B (mfN k) ∨ Filled w B k

/-- The Once's own word tells its block from others. -/
theorem St.word {w : World} {B k : Nat} (h : St w B k) : ∃ z, w.cell? ⟨B + 1, 0, none⟩ = some (.int .u32 z) := by
  rcases h with h | h
  · exact ⟨0, h.cells.2.1.c0⟩
  · exact ⟨1, h.o.c0⟩
theorem St.fn {w : World} {B k : Nat} (h : St w B k) : w.cell? ⟨B, 0, none⟩ = some (.func (.func (mfN k)) #[] #[]) := by
  rcases h with h | h
  · exact h.cells.1
  · exact h.b0
theorem St.p2 {w : World} {B k : Nat} (h : St w B k) : w.cell? ⟨B + 1 + 1, 0, none⟩ = some (.pointer (some ⟨B + 1, 0, none⟩)) := by
  rcases h with h | h
  · exact h.cells.2.2.2.1
  · exact h.b2
theorem St.p3 {w : World} {B k : Nat} (h : St w B k) : w.cell? ⟨B + 1 + 1 + 1, 0, none⟩ = some (.func (.func 73) #[] #[.pointer (some ⟨B + 1 + 1, 0, none⟩), .pointer (some ⟨B, 0, none⟩)]) := by
  rcases h with h | h
  · exact h.cells.2.2.2.2
  · exact h.b3

/-- A block with a u32 in front, other than this one's, may turn. -/
theorem St.keep {w w' : World} {B k C : Nat} {q : IntKind} {z : Int} (h : St w B k) (hz : w.cell? ⟨C, 0, none⟩ = some (.int q z)) (hC : C ≠ B + 1)
    (hk : ∀ j, j < w.heap.size → j ≠ C → w'.heap[j]? = w.heap[j]?) : St w' B k := by
  have n0 : B ≠ C := fun e => by have := h.fn; rw [e, hz] at this; cases this
  have n2 : B + 1 + 1 ≠ C := fun e => by have := h.p2; rw [e, hz] at this; cases this
  have n3 : B + 1 + 1 + 1 ≠ C := fun e => by have := h.p3; rw [e, hz] at this; cases this
  have l0 := cell_lt h.fn
  have l1 := cell_lt h.word.choose_spec
  have l2 := cell_lt h.p2
  have l3 := cell_lt h.p3
  simp only at l0 l1 l2 l3
  rcases h with h | h
  · exact .inl ⟨(hk _ l0 n0).trans h.b0, (hk _ l1 (Ne.symm hC)).trans h.b1, (hk _ l2 n2).trans h.b2, (hk _ l3 n3).trans h.b3⟩
  · have hc : ∀ (b i : Nat), b < w.heap.size → b ≠ C → w'.cell? ⟨b, i, none⟩ = w.cell? ⟨b, i, none⟩ := fun b i hb hn => World.cell?_of_block (hk b hb hn)
    have hf : ∀ (b i : Nat), b < w.heap.size → b ≠ C → w'.frozen? ⟨b, i, none⟩ = w.frozen? ⟨b, i, none⟩ := fun b i hb hn => World.frozen?_of_block (hk b hb hn)
    obtain ⟨M, hm, es, cl, hh, r⟩ := h.m
    have hM : M ≠ C := fun e => by
      rw [World.cell?, ← e] at hz
      simp [hh] at hz
    refine .inr ⟨(hc _ _ l0 n0).trans h.b0, ⟨(hc _ _ l1 (Ne.symm hC)).trans h.o.c0, (hc _ _ l1 (Ne.symm hC)).trans h.o.c1, fun i => (hf _ _ l1 (Ne.symm hC)).trans (h.o.cf i)⟩, ⟨M, (hc _ _ l1 (Ne.symm hC)).trans hm, es, cl, ?_, r⟩, (hc _ _ l2 n2).trans h.b2, (hc _ _ l3 n3).trans h.b3⟩
    exact (hk M (Array.getElem?_eq_some_iff.1 hh).1 hM).trans hh
theorem St.on {w w' : World} {B k : Nat} (h : St w B k) (hb : Below w.heap.size w w') : St w' B k := by
  rcases h with h | h
  · exact .inl (h.on hb)
  · have hc : ∀ (a : Addr) (v : Value), w.cell? a = some v → w'.cell? a = some v := fun a v hv => (hb.cell (cell_lt hv)).trans hv
    obtain ⟨M, hm, es, cl, hh, r⟩ := h.m
    have l1 := cell_lt h.o.c0
    exact .inr ⟨hc _ _ h.b0, ⟨hc _ _ h.o.c0, hc _ _ h.o.c1, fun i => (hb.frozen (p := ⟨B + 1, i, none⟩) l1).trans (h.o.cf i)⟩, ⟨M, hc _ _ hm, es, cl, (hb.block M (Array.getElem?_eq_some_iff.1 hh).1).trans hh, r⟩, hc _ _ h.b2, hc _ _ h.b3⟩

/-- Blocks that the ways back of these rows may turn are the Onces' alone. -/
structure Keep (R : List Row) (w w' : World) : Prop where
  os : w'.os = w.os
  tape : w'.tape = w.tape
  output : w'.output = w.output
  size : w.heap.size ≤ w'.heap.size
  block : ∀ j, j < w.heap.size → (∀ r ∈ R, j ≠ r.2.2 + 1) → w'.heap[j]? = w.heap[j]?

theorem Keep.refl (R : List Row) (w : World) : Keep R w w := ⟨rfl, rfl, rfl, Nat.le_refl _, fun _ _ _ => rfl⟩
theorem Keep.trans {R : List Row} {a b c : World} (h1 : Keep R a b) (h2 : Keep R b c) : Keep R a c :=
  ⟨h2.os.trans h1.os, h2.tape.trans h1.tape, h2.output.trans h1.output, Nat.le_trans h1.size h2.size, fun j hj hn => (h2.block j (Nat.lt_of_lt_of_le hj h1.size) hn).trans (h1.block j hj hn)⟩
theorem Keep.of_below {R : List Row} {w w' : World} (h : Below w.heap.size w w') : Keep R w w' := ⟨h.os, h.tape, h.output, h.size, fun j hj _ => h.block j hj⟩
theorem Keep.below {R : List Row} {w w' : World} {q : Nat} (h : Keep R w w') (hq : ∀ r ∈ R, q < r.2.2) (hl : q ≤ w.heap.size) : Below q w w' :=
  ⟨h.os, h.tape, h.output, h.size, fun j hj => h.block j (by omega) (fun r hr => by have := hq r hr; omega)⟩
theorem Keep.cell {R : List Row} {w w' : World} (h : Keep R w w') {b i : Nat} {v : Value} (hv : w.cell? ⟨b, i, none⟩ = some v) (hn : ∀ r ∈ R, b ≠ r.2.2 + 1) : w'.cell? ⟨b, i, none⟩ = some v :=
  (World.cell?_of_block (h.block b (cell_lt hv) hn)).trans hv

/-- A set whose ways back may have been asked. -/
structure SetIn (w : World) (q : Nat) (v : Value) (R : List Row) (x : Bool) : Prop where
  c0 : w.cell? ⟨q, 0, none⟩ = some v
  own : w.ownsRow (q + 1) 82 5 v R.length (rowsC R)
  st : ∀ r ∈ R, St w r.2.2 r.1 ∧ q < r.2.2
  apart : ∀ (i j : Nat) (a b : Row), R[i]? = some a → R[j]? = some b → i ≠ j → mfN a.1 ≠ mfN b.1

theorem SetIn.val {w : World} {q : Nat} {v : Value} {R : List Row} {x : Bool} (h : SetIn w q v R x) : ∃ a cap, v = .slice a R.length cap := by
  rcases h.own.2 with ⟨rfl, h0⟩ | ⟨g, cap, cur, hv, _⟩
  · exact ⟨none, 0, by rw [h0]⟩
  · exact ⟨_, _, hv⟩
theorem SetIn.row {w : World} {q : Nat} {a : Option Addr} {n cap : Nat} {R : List Row} {x : Bool} (h : SetIn w q (.slice a n cap) R x) (k : Nat) (r : Row) (hr : R[k]? = some r) :
    ∃ g, a = some ⟨g, 0, none⟩ ∧ n = R.length ∧ w.cell? ⟨g, k * 5, none⟩ = some (.int .i64 (r.1 : Int)) ∧ w.cell? ⟨g, k * 5 + 1, none⟩ = some (.string r.2.1) ∧ w.cell? ⟨g, k * 5 + 2, none⟩ = some (.string (sp (3 * r.1 + 2))) ∧ w.cell? ⟨g, k * 5 + 3, none⟩ = some (.func (.func (mfN r.1)) #[] #[]) ∧ w.cell? ⟨g, k * 5 + 4, none⟩ = some (invF r.2.2) := by
  have hk : k < R.length := (List.getElem?_eq_some_iff.1 hr).1
  rcases h.own.2 with ⟨_, h0⟩ | ⟨g, cap', cur, hv, _⟩
  · omega
  · simp only [Value.slice.injEq] at hv
    obtain ⟨rfl, rfl, rfl⟩ := hv
    have hc : ∀ j, j < 5 → w.cell? ⟨g, k * 5 + j, none⟩ = (rowC r)[j]? := fun j hj => by
      rw [h.own.cellAt (k * 5 + j) (by omega)]
      exact rowsC_get R k r j hr hj
    exact ⟨g, rfl, rfl, hc 0 (by decide), hc 1 (by decide), hc 2 (by decide), hc 3 (by decide), hc 4 (by decide)⟩

theorem SetIn.far {w : World} {q : Nat} {v : Value} {R : List Row} {x : Bool} (h : SetIn w q v R x) : (∀ r ∈ R, q ≠ r.2.2 + 1) ∧ ∀ g, v.ownBlock = some g → ∀ r ∈ R, g ≠ r.2.2 + 1 := by
  refine ⟨fun r hr => by have := (h.st r hr).2; omega, fun g hg r hr e => ?_⟩
  obtain ⟨z, hz⟩ := (h.st r hr).1.word
  have hp : 0 < R.length := List.length_pos_of_mem hr
  obtain ⟨g', cap, rfl, _⟩ := h.own.form hp
  simp [Value.ownBlock] at hg
  subst hg
  obtain ⟨r0, h0⟩ : ∃ r0, R[0]? = some r0 := ⟨R[0], List.getElem?_eq_getElem hp⟩
  obtain ⟨g2, e2, _, hc, _⟩ := h.row 0 r0 h0
  simp only [Option.some.injEq, Addr.mk.injEq] at e2
  rw [← e2.1, Nat.zero_mul, e, hz] at hc
  cases hc

theorem own_keep {w w' : World} {base : Nat} {e : TypeId} {size : Nat} {v : Value} {n : Nat} {xs : List Value} (h : w.ownsRow base e size v n xs) (hk : ∀ g, v.ownBlock = some g → w'.heap[g]? = w.heap[g]?) : w'.ownsRow base e size v n xs := by
  refine ⟨h.1, ?_⟩
  rcases h.2 with h2 | ⟨g, cap, cur, hv, hg, hh, r⟩
  · exact .inl h2
  · exact .inr ⟨g, cap, cur, hv, hg, (hk g (by rw [hv]; rfl)).trans hh, r⟩

theorem SetIn.on {w w' : World} {q : Nat} {v : Value} {R : List Row} {x : Bool} (h : SetIn w q v R x) (hb : Below w.heap.size w w') : SetIn w' q v R x :=
  ⟨(hb.cell (cell_lt h.c0)).trans h.c0, ownsRow_below h.own hb (Nat.le_refl _), fun r hr => ⟨(h.st r hr).1.on hb, (h.st r hr).2⟩, h.apart⟩

/-- One of the ways back was asked. -/
theorem SetIn.asked {w w' : World} {q : Nat} {v : Value} {R : List Row} {x : Bool} (h : SetIn w q v R x) {i : Nat} {r : Row} (hr : R[i]? = some r) (hs : St w' r.2.2 r.1) (hg : w.grownBy w' (some (r.2.2 + 1))) : SetIn w' q v R x ∧ Keep R w w' := by
  have hm : r ∈ R := List.mem_of_getElem? hr
  obtain ⟨z, hz⟩ := (h.st r hm).1.word
  have hblk : ∀ j, j < w.heap.size → j ≠ r.2.2 + 1 → w'.heap[j]? = w.heap[j]? := fun j hj hn => hg.block j hj (by simpa using hn)
  refine ⟨⟨?_, ?_, ?_, h.apart⟩, ⟨hg.os, hg.tape, hg.output, hg.size, fun j hj hn => hblk j hj (hn r hm)⟩⟩
  · exact (World.cell?_of_block (hblk q (cell_lt h.c0) (h.far.1 r hm))).trans h.c0
  · exact own_keep h.own (fun g hgb => hblk g (h.own.lt g hgb).2 (h.far.2 g hgb r hm))
  · intro s hs2
    obtain ⟨j, hj⟩ := List.getElem?_of_mem hs2
    refine ⟨?_, (h.st s hs2).2⟩
    by_cases hij : i = j
    · subst hij
      rw [hr] at hj
      cases hj
      exact hs
    · refine (h.st s hs2).1.keep hz ?_ hblk
      intro e
      have e2 : s.2.2 = r.2.2 := by omega
      have f1 := (h.st s hs2).1.fn
      have f2 := (h.st r hm).1.fn
      rw [e2, f2] at f1
      simp only [Option.some.injEq, Value.func.injEq, Fn.func.injEq, and_true] at f1
      exact h.apart i j r s hr hj hij f1

/-- Which byte stands for a rune in a row. -/
theorem byte_any (w : World) (B k : Nat) (hk : k < 7) (r : Int) (hr0 : -2147483648 ≤ r) (hr1 : r < 2147483648) (h : St w B k) (hT : Tabs w) (hB5 : 5 < B) :
    Calls Tryz.prog 75 #[.int .i32 r, .pointer (some ⟨B + 1 + 1, 0, none⟩), .pointer (some ⟨B + 1 + 1 + 1, 0, none⟩)] w fun e w' => e = .returned (.int .u8 (byteOf k r : Nat)) ∧ St w' B k ∧ w.grownBy w' (some (B + 1)) := by
  rcases h with h | h
  · refine (byte_fresh w B k hk r hr0 hr1 h hT hB5).mono ?_
    rintro e w' ⟨rfl, hA⟩
    exact ⟨rfl, .inr hA.full, hA.grow⟩
  · refine (byte_filled w B k r hr0 hr1 h).mono ?_
    rintro e w' ⟨rfl, rfl⟩
    exact ⟨rfl, (show St w B k from .inr h).on ((Below.refl _ _).drew), ⟨rfl, rfl, rfl, Nat.le_refl _, fun _ _ _ => rfl⟩⟩

/-- A block of a row's own kind, apart from the set's, may turn. -/
theorem SetIn.beside {w w' : World} {q C : Nat} {z : Int} {v : Value} {R : List Row} {x : Bool} (h : SetIn w q v R x) (hz : w.cell? ⟨C, 0, none⟩ = some (.int .i64 z)) (hq : q ≠ C) (ho : ∀ g, v.ownBlock = some g → g ≠ C)
    (hk : ∀ j, j < w.heap.size → j ≠ C → w'.heap[j]? = w.heap[j]?) : SetIn w' q v R x := by
  refine ⟨(World.cell?_of_block (hk q (cell_lt h.c0) hq)).trans h.c0, own_keep h.own (fun g hg => hk g (h.own.lt g hg).2 (ho g hg)), fun r hr => ⟨(h.st r hr).1.keep hz ?_ hk, (h.st r hr).2⟩, h.apart⟩
  intro e
  obtain ⟨y, hy⟩ := (h.st r hr).1.word
  rw [← e, hz] at hy
  cases hy

/-- The byte of the first row that has the rune. -/
def firstB (r : Int) : List Row → Nat
  | [] => 0
  | a :: R => if byteOf a.1 r = 0 then firstB r R else byteOf a.1 r
theorem firstB_skip (r : Int) : ∀ (R : List Row) (k : Nat), (∀ a ∈ R.take k, byteOf a.1 r = 0) → firstB r R = firstB r (R.drop k)
  | R, 0, _ => rfl
  | [], k + 1, _ => by simp
  | a :: R, k + 1, h => by
    rw [firstB, if_pos (h a (by simp)), List.drop_succ_cons]
    exact firstB_skip r R k (fun b hb => h b (by simp [hb]))

def FirstInv (W0 : World) (q : Nat) (v : Value) (R : List Row) (x : Bool) (r : Int) (n : Nat) (y : Value) (wr : World) : Prop :=
  ∃ k : Nat, y = .int .i64 (k : Int) ∧ k ≤ n ∧ SetIn wr q v R x ∧ Keep R W0 wr ∧ ∀ a ∈ R.take k, byteOf a.1 r = 0

/-- A row as a value, or none. -/
def FirstV (a : Value) : Prop := (∃ (z : Int) (s1 s2 : ByteArray) (j : Nat) (P : Array Value), a = .agg #[.int .i64 z, .string s1, .string s2, .func (.func j) #[] #[], .func (.func 75) #[] P]) ∨ a = .agg #[.int .i64 0, .string ⟨#[]⟩, .string ⟨#[]⟩, .nilFunc, .nilFunc]

theorem Keep.tabs {R : List Row} {w w' : World} (h : Keep R w w') (hT : Tabs w) (hR : ∀ r ∈ R, 5 < r.2.2) : Tabs w' :=
  ⟨fun i hi => h.cell (hT.p1 i hi) (fun r hr => by have := hR r hr; omega), fun i hi => h.cell (hT.p2 i hi) (fun r hr => by have := hR r hr; omega)⟩

set_option maxRecDepth 100000 in
set_option maxHeartbeats 2000000 in
theorem first_any (w : World) (q : Nat) (v : Value) (R : List Row) (x : Bool) (r : Int) (hr0 : -2147483648 ≤ r) (hr1 : r < 2147483648) (h : SetIn w q v R x) (hR6 : R.length ≤ 6) (hk7 : ∀ a ∈ R, a.1 < 7) (hT : Tabs w) (hq : 5 < q) :
    Calls Tryz.prog 51 #[.pointer (some ⟨q, 0, none⟩), .int .i32 r] w fun e w' => ∃ a, e = .returned (.tuple #[a, .int .u8 (firstB r R : Nat)]) ∧ FirstV a ∧ SetIn w' q v R x ∧ Keep R w w' := by
  obtain ⟨ao, cap, rfl⟩ := h.val
  obtain ⟨n, hn⟩ : ∃ n, R.length = n := ⟨_, rfl⟩
  have HN : Hid (R.length = n) := hn
  rw [hn] at hR6 h ⊢
  obtain ⟨W0, hW0⟩ : ∃ W0, w.alloc (.cells #[.int .i64 0, .string ⟨#[]⟩, .string ⟨#[]⟩, .nilFunc, .nilFunc] 82) = W0 := ⟨_, rfl⟩
  have hb0 : Below w.heap.size w W0 := hW0 ▸ (Below.refl _ _).alloc (Nat.le_refl _) _
  have hs0 : w.heap.size < W0.heap.size := by rw [← hW0]; simp
  have z0 : W0.cell? ⟨w.heap.size, 0, none⟩ = some (.int .i64 0) := by rw [← hW0]; simp
  have z1 : W0.cell? ⟨w.heap.size, 1, none⟩ = some (.string ⟨#[]⟩) := by rw [← hW0]; simp
  have z2 : W0.cell? ⟨w.heap.size, 2, none⟩ = some (.string ⟨#[]⟩) := by rw [← hW0]; simp
  have z3 : W0.cell? ⟨w.heap.size, 3, none⟩ = some .nilFunc := by rw [← hW0]; simp
  have z4 : W0.cell? ⟨w.heap.size, 4, none⟩ = some .nilFunc := by rw [← hW0]; simp
  have zf : ∀ i, W0.frozen? ⟨w.heap.size, i, none⟩ = false := fun i => by rw [← hW0]; simp
  have hBl : ∀ a ∈ R, a.2.2 + 1 + 1 + 1 < w.heap.size ∧ 5 < a.2.2 := fun a ha => ⟨cell_lt (h.st a ha).1.p3, by have := (h.st a ha).2; omega⟩
  have hne : ∀ a ∈ R, w.heap.size ≠ a.2.2 + 1 := fun a ha => by have := (hBl a ha).1; omega
  have HZ : Hid (∀ wr, Keep R W0 wr → wr.cell? ⟨w.heap.size, 0, none⟩ = some (.int .i64 0) ∧ wr.cell? ⟨w.heap.size, 1, none⟩ = some (.string ⟨#[]⟩) ∧ wr.cell? ⟨w.heap.size, 2, none⟩ = some (.string ⟨#[]⟩) ∧ wr.cell? ⟨w.heap.size, 3, none⟩ = some .nilFunc ∧ wr.cell? ⟨w.heap.size, 4, none⟩ = some .nilFunc ∧ (∀ i, wr.frozen? ⟨w.heap.size, i, none⟩ = false) ∧ Tabs wr) := fun wr hk =>
    ⟨hk.cell z0 hne, hk.cell z1 hne, hk.cell z2 hne, hk.cell z3 hne, hk.cell z4 hne, fun i => (World.frozen?_of_block (hk.block _ hs0 hne)).trans (zf i), hk.tabs (hT.on hb0) (fun a ha => (hBl a ha).2)⟩
  have HBl : Hid (∀ a ∈ R, a.2.2 + 1 + 1 + 1 < w.heap.size ∧ 5 < a.2.2) := hBl
  have HK7 : Hid (∀ a ∈ R, a.1 < 7) := hk7
  have HS0 : Hid (SetIn W0 q (.slice ao n cap) R x) := h.on hb0
  have HB0 : Hid (Below w.heap.size w W0 ∧ w.heap.size < W0.heap.size) := ⟨hb0, hs0⟩
  have HQl : Hid (q < w.heap.size ∧ ∀ g, (Value.slice ao n cap).ownBlock = some g → g < w.heap.size) := ⟨cell_lt h.c0, fun g hg => (h.own.lt g hg).2⟩
  have hc0 := HS0.out.c0
  obtain ⟨F, hF⟩ : ∃ F, firstB r R = F := ⟨_, rfl⟩
  have HF : Hid (firstB r R = F) := hF
  rw [hF]
  clear hF h hn hb0 hs0 z0 z1 z2 z3 z4 zf hBl hne hT hk7
  go_enter Tryz.func51, Tryz.ntmps51
  go_wp2
  go_loopw [14] (fun y wr => FirstInv W0 q (.slice ao n cap) R x r n y wr) (fun y _ => n - (intOf y).toNat)
  case atStart => exact ⟨0, rfl, by omega, HS0.out, Keep.refl _ _, by simp⟩
  case round =>
    obtain ⟨k, rfl, hk, hset, hkeep, hno⟩ := hrel
    have HSt : Hid (SetIn wr q (.slice ao n cap) R x) := hset
    have HKp : Hid (Keep R W0 wr) := hkeep
    have HNo : Hid (∀ a ∈ R.take k, byteOf a.1 r = 0) := hno
    clear hno hkeep
    by_cases hkn : k < n
    · have hkR : k < R.length := by rw [HN.out]; exact hkn
      obtain ⟨a, ha⟩ : ∃ a, R[k]? = some a := ⟨R[k], List.getElem?_eq_getElem hkR⟩
      obtain ⟨g, rfl, -, r0, r1, r2, r3, r4⟩ := hset.row k a ha
      have HA : Hid (R[k]? = some a) := ha
      have HTk : Hid (R.take (k + 1) = R.take k ++ [a] ∧ R.drop k = a :: R.drop (k + 1)) := by
        refine ⟨by rw [List.take_add_one, ha]; rfl, ?_⟩
        rw [List.drop_eq_getElem_cons hkR, (List.getElem?_eq_some_iff.1 ha).2]
      have hbl := HBl.out a (List.mem_of_getElem? ha)
      have h7 := HK7.out a (List.mem_of_getElem? ha)
      clear ha hset
      obtain ⟨W1, hW1⟩ : ∃ W1, wr.alloc (.cells #[.int .i64 (a.1 : Int), .string a.2.1, .string (sp (3 * a.1 + 2)), .func (.func (mfN a.1)) #[] #[], invF a.2.2] 82) = W1 := ⟨_, rfl⟩
      have hb1 : Below wr.heap.size wr W1 := hW1 ▸ (Below.refl _ _).alloc (Nat.le_refl _) _
      have hs1 := HSt.out.on hb1
      have hK1 : Keep R W0 W1 := HKp.out.trans (Keep.of_below hb1)
      have hz1 := HZ.out W1 hK1
      have cB := byte_any W1 a.2.2 a.1 h7 r hr0 hr1 (hs1.st a (List.mem_of_getElem? HA.out)).1 hz1.2.2.2.2.2.2 hbl.2
      have HS1 : Hid (SetIn W1 q (.slice (some ⟨g, 0, none⟩) n cap) R x) := hs1
      have HK1 : Hid (Keep R W0 W1) := hK1
      have e0 : W1.cell? ⟨wr.heap.size, 0, none⟩ = some (.int .i64 (a.1 : Int)) := by rw [← hW1]; simp
      have e1 : W1.cell? ⟨wr.heap.size, 1, none⟩ = some (.string a.2.1) := by rw [← hW1]; simp
      have e2 : W1.cell? ⟨wr.heap.size, 2, none⟩ = some (.string (sp (3 * a.1 + 2))) := by rw [← hW1]; simp
      have e3 : W1.cell? ⟨wr.heap.size, 3, none⟩ = some (.func (.func (mfN a.1)) #[] #[]) := by rw [← hW1]; simp
      have e4 : W1.cell? ⟨wr.heap.size, 4, none⟩ = some (invF a.2.2) := by rw [← hW1]; simp
      have HWR : Hid (w.heap.size < wr.heap.size ∧ ∀ b ∈ R, wr.heap.size ≠ b.2.2 + 1) := ⟨Nat.lt_of_lt_of_le HB0.out.2 HKp.out.size, fun b hb => by have h1 := (HBl.out b hb).1; have h2 := HB0.out.2; have h3 := HKp.out.size; omega⟩
      have HFB : Hid (firstB r R = if byteOf a.1 r = 0 then firstB r (R.drop (k + 1)) else byteOf a.1 r) := by
        show _ = _
        rw [firstB_skip r R k HNo.out, HTk.out.2, firstB]
      have HKK : Hid (∀ z, byteOf a.1 r = z → z = 0 → ∀ b ∈ R.take (k + 1), byteOf b.1 r = 0) := fun z h1 h2 b hb => by
        rw [HTk.out.1, List.mem_append, List.mem_singleton] at hb
        rcases hb with hb | rfl
        · exact HNo.out b hb
        · rw [h1, h2]
      have hb256 : byteOf a.1 r < 256 := by
        have hL : ∀ m, m ≤ 96 → byteL a.1 r m < 256 := by
          intro m
          induction m with
          | zero => intro _; simp [byteL]
          | succ m ih => intro hm; rw [byteL]; split; omega; exact ih (by omega)
        exact hL 96 (Nat.le_refl _)
      obtain ⟨bb, hbb⟩ : ∃ bb, byteOf a.1 r = bb := ⟨_, rfl⟩
      have HBB : Hid (byteOf a.1 r = bb) := hbb
      rw [hbb] at cB hb256
      have HST : Hid (∀ w', St w' a.2.2 a.1 → W1.grownBy w' (some (a.2.2 + 1)) → SetIn w' q (.slice (some ⟨g, 0, none⟩) n cap) R x ∧ Keep R W1 w') := fun w' h1 h2 => HS1.out.asked HA.out h1 h2
      obtain ⟨an, sa, aB⟩ := a
      simp only at cB e0 e1 e2 e3 e4 r0 r1 r2 r3 r4 hW1 HST hbl
      unfold invF caps at e4 r4 hW1
      generalize sp (3 * an + 2) = E at e2 r2 hW1
      generalize mfN an = jj at e3 r3 hW1
      have hki : (k : Int) < (n : Int) := by omega
      clear hs1 hK1 hz1 hb1 hbb h7
      go_wp2_with (go_at_call 75; fail)
      refine cB.mono ?_
      rintro e W2 ⟨rfl, hst2, hg2⟩
      obtain ⟨hs2, hk2⟩ := HST.out W2 hst2 hg2
      have HS2 : Hid (SetIn W2 q (.slice (some ⟨g, 0, none⟩) n cap) R x) := hs2
      have HK2 : Hid (Keep R W0 W2) := HK1.out.trans hk2
      have c0 := hk2.cell e0 HWR.out.2
      have c1 := hk2.cell e1 HWR.out.2
      have c2 := hk2.cell e2 HWR.out.2
      have c3 := hk2.cell e3 HWR.out.2
      have c4 := hk2.cell e4 HWR.out.2
      have hzz := HZ.out W2 HK2.out
      obtain ⟨y0, y1, y2, y3, y4, yf, -⟩ := hzz
      clear hs2 hk2 hst2 hg2 cB e0 e1 e2 e3 e4 HST hW1 r0 r1 r2 r3 r4
      by_cases hb0 : bb = 0
      · have HN2 : Hid (∀ b ∈ R.take (k + 1), byteOf b.1 r = 0) := HKK.out bb HBB.out hb0
        subst hb0
        go_wp2
        go_roundw
        case rel => exact ⟨k + 1, by simp, by omega, HS2.out, HK2.out, HN2.out⟩
        case measure => simp [intOf]; omega
      · have hF : F = bb := by
          have := HFB.out
          rw [HBB.out, if_neg hb0] at this
          exact HF.out.symm.trans this
        have hbn : ((bb : Int) != 0) = true := by simp; omega
        subst hF
        clear hb0
        go_wp2
        obtain ⟨U, hU⟩ : ∃ U, ((((W2.setCell ⟨w.heap.size, 0, none⟩ (.int .i64 (an : Int))).setCell ⟨w.heap.size, 1, none⟩ (.string sa)).setCell ⟨w.heap.size, 2, none⟩ (.string E)).setCell ⟨w.heap.size, 3, none⟩ (.func (.func jj) #[] #[])).setCell ⟨w.heap.size, 4, none⟩ (.func (.func 75) #[] #[.pointer (some ⟨aB + 1 + 1, 0, none⟩), .pointer (some ⟨aB + 1 + 1 + 1, 0, none⟩)]) = U := ⟨_, rfl⟩
        have u0 : U.cell? ⟨w.heap.size, 0, none⟩ = some (.int .i64 (an : Int)) := by rw [← hU]; exact (cell_set_ne (by decide)).trans ((cell_set_ne (by decide)).trans ((cell_set_ne (by decide)).trans ((cell_set_ne (by decide)).trans (cell_set_eq y0))))
        have u1 : U.cell? ⟨w.heap.size, 1, none⟩ = some (.string sa) := by rw [← hU]; exact (cell_set_ne (by decide)).trans ((cell_set_ne (by decide)).trans ((cell_set_ne (by decide)).trans (cell_set_eq ((cell_set_ne (by decide)).trans y1))))
        have u2 : U.cell? ⟨w.heap.size, 2, none⟩ = some (.string E) := by rw [← hU]; exact (cell_set_ne (by decide)).trans ((cell_set_ne (by decide)).trans (cell_set_eq ((cell_set_ne (by decide)).trans ((cell_set_ne (by decide)).trans y2))))
        have u3 : U.cell? ⟨w.heap.size, 3, none⟩ = some (.func (.func jj) #[] #[]) := by rw [← hU]; exact (cell_set_ne (by decide)).trans (cell_set_eq ((cell_set_ne (by decide)).trans ((cell_set_ne (by decide)).trans ((cell_set_ne (by decide)).trans y3))))
        have u4 : U.cell? ⟨w.heap.size, 4, none⟩ = some (.func (.func 75) #[] #[.pointer (some ⟨aB + 1 + 1, 0, none⟩), .pointer (some ⟨aB + 1 + 1 + 1, 0, none⟩)]) := by rw [← hU]; exact cell_set_eq ((cell_set_ne (by decide)).trans ((cell_set_ne (by decide)).trans ((cell_set_ne (by decide)).trans ((cell_set_ne (by decide)).trans y4))))
        have hblk : ∀ j, j ≠ w.heap.size → U.heap[j]? = W2.heap[j]? := fun j hj => by
          rw [← hU]
          exact (heap_set_off (Ne.symm hj)).trans ((heap_set_off (Ne.symm hj)).trans ((heap_set_off (Ne.symm hj)).trans ((heap_set_off (Ne.symm hj)).trans (heap_set_off (Ne.symm hj)))))
        have hUs : U.heap.size = W2.heap.size := by rw [← hU]; simp
        have HSU : Hid (SetIn U q (.slice (some ⟨g, 0, none⟩) n cap) R x) := HS2.out.beside y0 (by have := HQl.out.1; omega) (fun g' hg' => by have := HQl.out.2 g' hg'; omega) (fun j _ hj => hblk j hj)
        have hk0 : Keep R w W2 := (Keep.of_below HB0.out.1).trans HK2.out
        have HKU : Hid (Keep R w U) := ⟨by rw [← hU]; exact hk0.os, by rw [← hU]; exact hk0.tape, by rw [← hU]; exact hk0.output, by rw [hUs]; exact hk0.size, fun j hj hn => (hblk j (by omega)).trans (hk0.block j hj hn)⟩
        rw [hU]
        clear hU hblk hUs hk0
        exact bodyPost_ret (v := .tuple #[.agg #[.int .i64 (an : Int), .string sa, .string E, .func (.func jj) #[] #[], .func (.func 75) #[] #[.pointer (some ⟨aB + 1 + 1, 0, none⟩), .pointer (some ⟨aB + 1 + 1 + 1, 0, none⟩)]], .int .u8 (F : Int)]) (by simp only [results, Tryz.results51]; simp [go_sem, u0, u1, u2, u3, u4]) rfl ⟨_, rfl, .inl ⟨_, _, _, _, _, rfl⟩, HSU.out, HKU.out⟩
    · obtain rfl : k = n := by omega
      have hF : F = 0 := by
        have := firstB_skip r R k HNo.out
        rw [List.drop_eq_nil_of_le (by rw [HN.out]; exact Nat.le_refl _), firstB] at this
        exact HF.out.symm.trans this
      subst hF
      have hzz := HZ.out wr HKp.out
      obtain ⟨y0, y1, y2, y3, y4, yf, -⟩ := hzz
      clear hset
      go_wp2
      obtain ⟨U, hU⟩ : ∃ U, ((((wr.setCell ⟨w.heap.size, 0, none⟩ (.int .i64 0)).setCell ⟨w.heap.size, 1, none⟩ (.string ⟨#[]⟩)).setCell ⟨w.heap.size, 2, none⟩ (.string ⟨#[]⟩)).setCell ⟨w.heap.size, 3, none⟩ .nilFunc).setCell ⟨w.heap.size, 4, none⟩ .nilFunc = U := ⟨_, rfl⟩
      have u0 : U.cell? ⟨w.heap.size, 0, none⟩ = some (.int .i64 0) := by rw [← hU]; exact (cell_set_ne (by decide)).trans ((cell_set_ne (by decide)).trans ((cell_set_ne (by decide)).trans ((cell_set_ne (by decide)).trans (cell_set_eq y0))))
      have u1 : U.cell? ⟨w.heap.size, 1, none⟩ = some (.string ⟨#[]⟩) := by rw [← hU]; exact (cell_set_ne (by decide)).trans ((cell_set_ne (by decide)).trans ((cell_set_ne (by decide)).trans (cell_set_eq ((cell_set_ne (by decide)).trans y1))))
      have u2 : U.cell? ⟨w.heap.size, 2, none⟩ = some (.string ⟨#[]⟩) := by rw [← hU]; exact (cell_set_ne (by decide)).trans ((cell_set_ne (by decide)).trans (cell_set_eq ((cell_set_ne (by decide)).trans ((cell_set_ne (by decide)).trans y2))))
      have u3 : U.cell? ⟨w.heap.size, 3, none⟩ = some .nilFunc := by rw [← hU]; exact (cell_set_ne (by decide)).trans (cell_set_eq ((cell_set_ne (by decide)).trans ((cell_set_ne (by decide)).trans ((cell_set_ne (by decide)).trans y3))))
      have u4 : U.cell? ⟨w.heap.size, 4, none⟩ = some .nilFunc := by rw [← hU]; exact cell_set_eq ((cell_set_ne (by decide)).trans ((cell_set_ne (by decide)).trans ((cell_set_ne (by decide)).trans ((cell_set_ne (by decide)).trans y4))))
      have hblk : ∀ j, j ≠ w.heap.size → U.heap[j]? = wr.heap[j]? := fun j hj => by
        rw [← hU]
        exact (heap_set_off (Ne.symm hj)).trans ((heap_set_off (Ne.symm hj)).trans ((heap_set_off (Ne.symm hj)).trans ((heap_set_off (Ne.symm hj)).trans (heap_set_off (Ne.symm hj)))))
      have hUs : U.heap.size = wr.heap.size := by rw [← hU]; simp
      have HSU : Hid (SetIn U q (.slice ao k cap) R x) := HSt.out.beside y0 (by have := HQl.out.1; omega) (fun g' hg' => by have := HQl.out.2 g' hg'; omega) (fun j _ hj => hblk j hj)
      have hk0 : Keep R w wr := (Keep.of_below HB0.out.1).trans HKp.out
      have HKU : Hid (Keep R w U) := ⟨by rw [← hU]; exact hk0.os, by rw [← hU]; exact hk0.tape, by rw [← hU]; exact hk0.output, by rw [hUs]; exact hk0.size, fun j hj hn => (hblk j (by omega)).trans (hk0.block j hj hn)⟩
      rw [hU]
      clear hU hblk hUs hk0
      exact bodyPost_ret (v := .tuple #[.agg #[.int .i64 0, .string ⟨#[]⟩, .string ⟨#[]⟩, .nilFunc, .nilFunc], .int .u8 0]) (by simp only [results, Tryz.results51]; simp [go_sem, u0, u1, u2, u3, u4]) rfl ⟨_, rfl, .inr rfl, HSU.out, HKU.out⟩
end Go.Proofs.YtegfgbcimlacbaaGreatDoor
