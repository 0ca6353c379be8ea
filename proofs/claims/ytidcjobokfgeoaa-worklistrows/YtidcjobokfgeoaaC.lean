import Derived.Test.YtidcjobokfgeoaaB
import Derived.Laws.EntriesVeiled
/-
  DERIVED. The cell of a key.
-/
namespace Go.Proofs.Ytidcjobokfgeoaa
open Go Go.Proofs Go.RowKit

def fnK : Option Nat → Value
  | some i => fn i
  | none => .nilFunc
theorem firstK_lt : ∀ (k i : Nat) (p t : Int) (j : Nat), firstK p t i k = some j → j < i + k
  | 0, i, p, t, j, h => by cases h
  | k + 1, i, p, t, j, h => by
    rw [firstK] at h
    split at h
    · cases h; omega
    · have := firstK_lt k (i + 1) p t j h; omega

theorem fn_form : ∀ i, i < 21 → fn i = .nilFunc ∨ ∃ k, fn i = .func (.func k) #[] #[] := by
  intro i hi
  have : i = 0 ∨ i = 1 ∨ i = 2 ∨ i = 3 ∨ i = 4 ∨ i = 5 ∨ i = 6 ∨ i = 7 ∨ i = 8 ∨ i = 9 ∨ i = 10 ∨ i = 11 ∨ i = 12 ∨ i = 13 ∨ i = 14 ∨ i = 15 ∨ i = 16 ∨ i = 17 ∨ i = 18 ∨ i = 19 ∨ i = 20 := by omega
  rcases this with rfl | rfl | rfl | rfl | rfl | rfl | rfl | rfl | rfl | rfl | rfl | rfl | rfl | rfl | rfl | rfl | rfl | rfl | rfl | rfl | rfl
  all_goals first | exact .inl rfl | exact .inr ⟨_, rfl⟩
theorem size_alloc (w : World) (o : Obj) : (w.alloc o).heap.size = w.heap.size + 1 := by
  show (w.heap.push o).size = _
  simp
theorem heap_new (w : World) (o : Obj) : (w.alloc o).heap[w.heap.size]? = some o := by
  show (w.heap.push o)[w.heap.size]? = some o
  simp
theorem heap_old (w : World) (o : Obj) {k : Nat} (h : k < w.heap.size) : (w.alloc o).heap[k]? = w.heap[k]? := by
  show (w.heap.push o)[k]? = w.heap[k]?
  rw [Array.getElem?_push, if_neg (by omega)]
theorem heap3 (w : World) (a b c : Obj) : (((w.alloc a).alloc b).alloc c).heap[w.heap.size]? = some a ∧ (((w.alloc a).alloc b).alloc c).heap[w.heap.size + 1]? = some b ∧ (((w.alloc a).alloc b).alloc c).heap[w.heap.size + 1 + 1]? = some c := by
  refine ⟨?_, ?_, ?_⟩
  · rw [heap_old _ _ (by rw [size_alloc, size_alloc]; omega), heap_old _ _ (by rw [size_alloc]; omega), heap_new]
  · rw [heap_old _ _ (by rw [size_alloc, size_alloc]; omega), ← size_alloc w a, heap_new]
  · rw [← size_alloc w a, ← size_alloc _ b, heap_new]

set_option maxRecDepth 100000 in
set_option maxHeartbeats 1000000 in
theorem cell_any (w : World) (g : Nat) (t v n p : Int) (s : ByteArray) (hT : Tb g w) :
    Calls Try.prog 16 #[.agg #[.int .u32 t, .int .i64 v, .int .i64 n, .string s], .int .i64 p, .slice (some ⟨g, 0, none⟩) 21 21] w fun e w' => e = .returned (.agg #[.int .u32 t, .int .i64 v, .int .i64 0, .string s, fnK (firstK p t 0 21)]) ∧ Below w.heap.size w w' := by
  have HT : Hid (Tb g w) := hT
  have hgl := hT.lt
  clear hT
  obtain ⟨r, hr⟩ : ∃ r, firstK p t 0 21 = r := ⟨_, rfl⟩
  have HR : Hid (firstK p t 0 21 = r) := hr
  rw [hr]
  clear hr
  go_enter Try.func16, Try.ntmps16
  have HC : ∀ W1 W2 : World, W1 = ((w.alloc (.cells #[.int .u32 t, .int .i64 v, .int .i64 0, .string s] 41)).alloc (.cells #[.int .i64 p] 3)).alloc (.cells #[.int .u32 0, .int .i64 0, .int .i64 0, .string { data := #[] }, .nilFunc] 47) → W2 = W1 → Calls Try.prog 39 #[.slice (some ⟨g, 0, none⟩) 21 21, .func (.func 40) #[] #[.pointer (some ⟨w.heap.size + 1, 0, none⟩), .pointer (some ⟨w.heap.size, 0, none⟩)]] W2 fun e w' => e = .returned (.int .i64 (idx r)) ∧ Tb g w' ∧ Below w.heap.size w w' ∧ w'.heap[w.heap.size]? = some (.cells #[.int .u32 t, .int .i64 v, .int .i64 0, .string s] 41) ∧ w'.heap[w.heap.size + 1 + 1]? = some (.cells #[.int .u32 0, .int .i64 0, .int .i64 0, .string { data := #[] }, .nilFunc] 47) := by
    intro W1 W2 h1 h2
    subst h2
    have hb1 : Below w.heap.size w W2 := by
      rw [h1]
      exact (((Below.refl _ _).alloc (Nat.le_refl _) _).alloc (by simp) _).alloc (by simp; omega) _
    obtain ⟨k0, k1, k2⟩ := heap3 w (.cells #[.int .u32 t, .int .i64 v, .int .i64 0, .string s] 41) (.cells #[.int .i64 p] 3) (.cells #[.int .u32 0, .int .i64 0, .int .i64 0, .string { data := #[] }, .nilFunc] 47)
    rw [← h1] at k0 k1 k2
    have ht : Tb g W2 := HT.out.on hb1
    have c := index_any W2 g (w.heap.size + 1) w.heap.size p t ht (by simp [World.cell?, k1]) (by simp [World.cell?, k0])
    rw [HR.out] at c
    refine c.mono ?_
    rintro e w' ⟨rfl, hb⟩
    have hl0 : w.heap.size < W2.heap.size := (Array.getElem?_eq_some_iff.1 k0).1
    have hl2 : w.heap.size + 1 + 1 < W2.heap.size := (Array.getElem?_eq_some_iff.1 k2).1
    exact ⟨rfl, ht.on hb, hb1.trans (hb.mono hb1.size), (hb.block _ hl0).trans k0, (hb.block _ hl2).trans k2⟩
  have HC' : Hid _ := HC _ _ rfl rfl
  clear HC
  go_wp2_with (go_at_call 39; refine Calls.mono HC'.out ?_; rintro e W ⟨rfl, hT, hb, k0, k2⟩; refine Stop.mk ?_)
  refine Stop.out ?_
  have hlt : w.heap.size < W.heap.size := (Array.getElem?_eq_some_iff.1 k0).1
  have hlt2 : w.heap.size + 1 + 1 < W.heap.size := (Array.getElem?_eq_some_iff.1 k2).1
  have HB : Hid (Below w.heap.size w W) := hb
  have HTW : Hid (Tb g W) := hT
  clear hb hT
  have c0 : W.cell? ⟨w.heap.size, 0, none⟩ = some (.int .u32 t) := by simp [World.cell?, k0]
  have c1 : W.cell? ⟨w.heap.size, 1, none⟩ = some (.int .i64 v) := by simp [World.cell?, k0]
  have c2 : W.cell? ⟨w.heap.size, 2, none⟩ = some (.int .i64 0) := by simp [World.cell?, k0]
  have c3 : W.cell? ⟨w.heap.size, 3, none⟩ = some (.string s) := by simp [World.cell?, k0]
  have hr2 : ∀ j, r = some j → j < 21 := fun j hj => by have := firstK_lt 21 0 p t j (HR.out.trans hj); omega
  have e0 : W.cell? ⟨w.heap.size + 1 + 1, 0, none⟩ = some (.int .u32 0) := by simp [World.cell?, k2]
  have e1 : W.cell? ⟨w.heap.size + 1 + 1, 1, none⟩ = some (.int .i64 0) := by simp [World.cell?, k2]
  have e2 : W.cell? ⟨w.heap.size + 1 + 1, 2, none⟩ = some (.int .i64 0) := by simp [World.cell?, k2]
  have e3 : W.cell? ⟨w.heap.size + 1 + 1, 3, none⟩ = some (.string { data := #[] }) := by simp [World.cell?, k2]
  have e4 : W.cell? ⟨w.heap.size + 1 + 1, 4, none⟩ = some .nilFunc := by simp [World.cell?, k2]
  have ef : ∀ j, W.frozen? ⟨w.heap.size + 1 + 1, j, none⟩ = false := fun j => by simp [World.frozen?, k2]
  clear k0 k2
  have hB5 : ∀ a b c d e : Value, Below w.heap.size w (((((W.setCell ⟨w.heap.size + 1 + 1, 0, none⟩ a).setCell ⟨w.heap.size + 1 + 1, 1, none⟩ b).setCell ⟨w.heap.size + 1 + 1, 2, none⟩ c).setCell ⟨w.heap.size + 1 + 1, 3, none⟩ d).setCell ⟨w.heap.size + 1 + 1, 4, none⟩ e) := fun a b c d e => ((((HB.out.setCell (by simp; omega) _).setCell (by simp; omega) _).setCell (by simp; omega) _).setCell (by simp; omega) _).setCell (by simp; omega) _
  cases r with
  | none =>
    simp only [idx]
    go_wp2
    refine bodyPost_ret (v := .agg #[.int .u32 t, .int .i64 v, .int .i64 0, .string s, .nilFunc]) (by simp [results, Try.results16, go_sem, e0, e1, e2, e3, e4]) rfl ⟨rfl, hB5 _ _ _ _ _⟩
  | some j =>
    have hj := hr2 j rfl
    obtain ⟨-, -, -, d3⟩ := HTW.out.cells hj
    have hjI : (j : Int) < 21 := by omega
    have hff := fn_form j hj
    clear hr2
    simp only [idx]
    rcases hff with hf | ⟨k, hf⟩
    · rw [hf] at d3
      have HF : Hid (fnK (some j) = .nilFunc) := hf
      clear hf
      go_wp2
      go_region
      all_goals go_wp2
      all_goals refine bodyPost_ret (v := .agg #[.int .u32 t, .int .i64 v, .int .i64 0, .string s, .nilFunc]) (by simp [results, Try.results16, go_sem, e0, e1, e2, e3, e4]) rfl ⟨congrArg (fun f => Ending.returned (.agg #[.int .u32 t, .int .i64 v, .int .i64 0, .string s, f])) HF.out.symm, (hB5 _ _ _ _ _).drew⟩
    · rw [hf] at d3
      have HF : Hid (fnK (some j) = .func (.func k) #[] #[]) := hf
      clear hf
      go_wp2
      go_region
      all_goals go_wp2
      all_goals refine bodyPost_ret (v := .agg #[.int .u32 t, .int .i64 v, .int .i64 0, .string s, .func (.func k) #[] #[]]) (by simp [results, Try.results16, go_sem, e0, e1, e2, e3, e4]) rfl ⟨congrArg (fun f => Ending.returned (.agg #[.int .u32 t, .int .i64 v, .int .i64 0, .string s, f])) HF.out.symm, (hB5 _ _ _ _ _).drew⟩
end Go.Proofs.Ytidcjobokfgeoaa
