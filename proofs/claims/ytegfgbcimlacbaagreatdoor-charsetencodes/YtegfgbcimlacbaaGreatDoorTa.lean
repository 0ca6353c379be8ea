
import Derived.Test.YtegfgbcimlacbaaGreatDoorPl
import Derived.Test.YtegfgbcimlacbaaGreatDoorOi
import Derived.Test.YtegfgbcimlacbaaGreatDoorL
import Derived.Deep.AppendLies
/-
  DERIVED. A rune put behind what is written, in the repertoire that holds.
-/
namespace Go.Proofs.YtegfgbcimlacbaaGreatDoor
open Go Go.Proofs Go.RowKit

/-- What stands below a place stays, but for the Onces of these rows. -/
structure KB (R : List Row) (base : Nat) (w w' : World) : Prop where
  os : w'.os = w.os
  tape : w'.tape = w.tape
  output : w'.output = w.output
  size : w.heap.size ≤ w'.heap.size
  block : ∀ j, j < base → (∀ r ∈ R, j ≠ r.2.2 + 1) → w'.heap[j]? = w.heap[j]?
theorem KB.refl (R : List Row) (base : Nat) (w : World) : KB R base w w := ⟨rfl, rfl, rfl, Nat.le_refl _, fun _ _ _ => rfl⟩
theorem KB.trans {R : List Row} {base : Nat} {a b c : World} (h1 : KB R base a b) (h2 : KB R base b c) : KB R base a c :=
  ⟨h2.os.trans h1.os, h2.tape.trans h1.tape, h2.output.trans h1.output, Nat.le_trans h1.size h2.size, fun j hj hn => (h2.block j hj hn).trans (h1.block j hj hn)⟩
theorem KB.of_keep {R : List Row} {base : Nat} {w w' : World} (h : Keep R w w') (hb : base ≤ w.heap.size) : KB R base w w' := ⟨h.os, h.tape, h.output, h.size, fun j hj hn => h.block j (by omega) hn⟩
theorem KB.of_below {R : List Row} {base : Nat} {w w' : World} (h : Below base w w') : KB R base w w' := ⟨h.os, h.tape, h.output, h.size, fun j hj _ => h.block j hj⟩
theorem KB.of_grown {R : List Row} {base : Nat} {w w' : World} {row : Option Nat} (h : w.grownBy w' row) (hb : base ≤ w.heap.size) (hr : ∀ r, row = some r → base ≤ r) : KB R base w w' :=
  ⟨h.os, h.tape, h.output, h.size, fun j hj _ => h.block j (by omega) (fun e => by have := hr j e.symm; omega)⟩
theorem KB.cell {R : List Row} {base : Nat} {w w' : World} (h : KB R base w w') {b i : Nat} {v : Value} (hv : w.cell? ⟨b, i, none⟩ = some v) (hb : b < base) (hn : ∀ r ∈ R, b ≠ r.2.2 + 1) : w'.cell? ⟨b, i, none⟩ = some v :=
  (World.cell?_of_block (h.block b hb hn)).trans hv
theorem KB.mono {R : List Row} {base base' : Nat} {w w' : World} (h : KB R base w w') (hb : base' ≤ base) : KB R base' w w' := ⟨h.os, h.tape, h.output, h.size, fun j hj hn => h.block j (by omega) hn⟩

/-- A block of bytes, apart from the set's, may turn. -/
theorem SetIn.besideU {w w' : World} {q C : Nat} {z : Int} {v : Value} {R : List Row} {x : Bool} (h : SetIn w q v R x) (hR : 0 < R.length) (hz : w.cell? ⟨C, 0, none⟩ = some (.int .u8 z))
    (hk : ∀ j, j < w.heap.size → j ≠ C → w'.heap[j]? = w.heap[j]?) : SetIn w' q v R x := by
  have hq : q ≠ C := by
    rintro rfl
    have h0 := h.c0
    rw [hz] at h0
    obtain ⟨a, cap, rfl⟩ := h.val
    cases h0
  have ho : ∀ g, v.ownBlock = some g → g ≠ C := by
    rintro g hg rfl
    obtain ⟨a, cap, rfl⟩ := h.val
    obtain ⟨g2, rfl, -, r0, -⟩ := h.row 0 (R[0]'hR) (List.getElem?_eq_getElem hR)
    simp [Value.ownBlock] at hg
    subst hg
    rw [Nat.zero_mul, hz] at r0
    cases r0
  refine ⟨(World.cell?_of_block (hk q (cell_lt h.c0) hq)).trans h.c0, own_keep h.own (fun g hg => hk g (h.own.lt g hg).2 (ho g hg)), fun r hr => ⟨(h.st r hr).1.keep hz ?_ hk, (h.st r hr).2⟩, h.apart⟩
  intro e
  obtain ⟨z', hz'⟩ := (h.st r hr).1.word
  rw [← e, hz] at hz'
  cases hz'

theorem SetIn.grown {w w' : World} {q base : Nat} {v u : Value} {R : List Row} {x : Bool} {out : List Int} (h : SetIn w q v R x) (hR : 0 < R.length) (hown : w.ownsRow base 5 1 u out.length (cellsZ out)) (hne : u = .slice none 0 0 ∨ 0 < out.length) (hg : w.grownBy w' u.ownBlock) : SetIn w' q v R x := by
  rcases hown.2 with ⟨rfl, h0⟩ | ⟨g, cap, cur, rfl, hb, hh, hc, _⟩
  · exact h.on ⟨hg.os, hg.tape, hg.output, hg.size, fun j hj => hg.block j hj (by simp [Value.ownBlock])⟩
  · by_cases h0 : 0 < out.length
    · have hz : w.cell? ⟨g, 0, none⟩ = some (.int .u8 (out.getD 0 0)) := by
        rw [hown.cellAt 0 (by omega)]
        unfold cellsZ
        rw [List.getElem?_map, List.getElem?_eq_getElem h0]
        simp [List.getElem?_eq_getElem h0]
      exact h.besideU hR hz (fun j hj hn => hg.block j hj (by simp [Value.ownBlock]; omega))
    · rcases hne with he | he
      · cases he
      · exact absurd he h0

theorem cell_iter {w : World} {C i : Nat} {s : ByteArray} {p : Nat} {v : Value} (hC : w.heap[C]? = some (.stringIter s p)) : w.cell? ⟨C, i, none⟩ ≠ some v := by
  intro h
  simp [World.cell?, hC] at h
/-- A loop over a text may go on. -/
theorem St.iter {w w' : World} {B k C : Nat} {s : ByteArray} {p : Nat} (h : St w B k) (hC : w.heap[C]? = some (.stringIter s p)) (hk : ∀ j, j < w.heap.size → j ≠ C → w'.heap[j]? = w.heap[j]?) : St w' B k := by
  have n0 : B ≠ C := fun e => cell_iter hC (e ▸ h.fn)
  have n1 : B + 1 ≠ C := fun e => by obtain ⟨z, hz⟩ := h.word; exact cell_iter hC (e ▸ hz)
  have n2 : B + 1 + 1 ≠ C := fun e => cell_iter hC (e ▸ h.p2)
  have n3 : B + 1 + 1 + 1 ≠ C := fun e => cell_iter hC (e ▸ h.p3)
  have l0 := cell_lt h.fn
  have l1 := cell_lt h.word.choose_spec
  have l2 := cell_lt h.p2
  have l3 := cell_lt h.p3
  simp only at l0 l1 l2 l3
  rcases h with h | h
  · exact .inl ⟨(hk _ l0 n0).trans h.b0, (hk _ l1 n1).trans h.b1, (hk _ l2 n2).trans h.b2, (hk _ l3 n3).trans h.b3⟩
  · have hc : ∀ (b i : Nat), b < w.heap.size → b ≠ C → w'.cell? ⟨b, i, none⟩ = w.cell? ⟨b, i, none⟩ := fun b i hb hn => World.cell?_of_block (hk b hb hn)
    have hf : ∀ (b i : Nat), b < w.heap.size → b ≠ C → w'.frozen? ⟨b, i, none⟩ = w.frozen? ⟨b, i, none⟩ := fun b i hb hn => World.frozen?_of_block (hk b hb hn)
    obtain ⟨M, hm, es, cl, hh, r⟩ := h.m
    have hM : M ≠ C := fun e => by rw [e, hC] at hh; cases hh
    refine .inr ⟨(hc _ _ l0 n0).trans h.b0, ⟨(hc _ _ l1 n1).trans h.o.c0, (hc _ _ l1 n1).trans h.o.c1, fun i => (hf _ _ l1 n1).trans (h.o.cf i)⟩, ⟨M, (hc _ _ l1 n1).trans hm, es, cl, ?_, r⟩, (hc _ _ l2 n2).trans h.b2, (hc _ _ l3 n3).trans h.b3⟩
    exact (hk M (Array.getElem?_eq_some_iff.1 hh).1 hM).trans hh
theorem SetIn.iter {w w' : World} {q C : Nat} {s : ByteArray} {p : Nat} {v : Value} {R : List Row} {x : Bool} (h : SetIn w q v R x) (hR : 0 < R.length) (hC : w.heap[C]? = some (.stringIter s p)) (hk : ∀ j, j < w.heap.size → j ≠ C → w'.heap[j]? = w.heap[j]?) : SetIn w' q v R x := by
  have hq : q ≠ C := fun e => cell_iter hC (e ▸ h.c0)
  have ho : ∀ g, v.ownBlock = some g → g ≠ C := by
    rintro g hg rfl
    obtain ⟨a, cap, rfl⟩ := h.val
    obtain ⟨g2, rfl, -, r0, -⟩ := h.row 0 (R[0]'hR) (List.getElem?_eq_getElem hR)
    simp [Value.ownBlock] at hg
    subst hg
    exact cell_iter hC r0
  exact ⟨(World.cell?_of_block (hk q (cell_lt h.c0) hq)).trans h.c0, own_keep h.own (fun g hg => hk g (h.own.lt g hg).2 (ho g hg)), fun r hr => ⟨(h.st r hr).1.iter hC hk, (h.st r hr).2⟩, h.apart⟩

theorem ne_lies {u : Value} {g P H : Nat} (h : u.ownBlock = some g ∨ g = H) (h1 : ∀ g, u.ownBlock = some g → g < P) (h2 : P < H) : g ≠ P := by
  rcases h with h | h
  · have := h1 g h; omega
  · omega
theorem cells1 (b : Nat) : ∀ u ∈ [(Value.int .u8 (b : Int))], u.oneCell' = true := by
  intro u hu; simp at hu; subst hu; rfl

set_option maxRecDepth 100000 in
set_option maxHeartbeats 4000000 in
/-- In the repertoire that holds. -/
theorem put_holds (w : World) (q : Nat) (v u : Value) (a : Row) (R : List Row) (x : Bool) (h : Row) (i base : Nat) (out : List Int) (r : Int) (hr0 : -2147483648 ≤ r) (hr1 : r < 2147483648) (hset : SetIn w q v (a :: R) x) (hu : a.1 ≠ 6) (hm : (a :: R)[i]? = some h) (h7 : h.1 < 7) (hb : byteOf h.1 r ≠ 0) (_hb256 : byteOf h.1 r < 256) (hT : Tabs w) (hq : 5 < q)
    (hown : w.ownsRow base 5 1 u out.length (cellsZ out)) (hne : u = .slice none 0 0 ∨ 0 < out.length) (hlen : out.length ≤ 300000) (hbase : base ≤ w.heap.size) (hfar : ∀ r ∈ a :: R, r.2.2 + 1 < base) :
    Calls Tryz.prog 37 #[.pointer (some ⟨q, 0, none⟩), u, rowV h, .int .i32 r] w fun e w' => ∃ v', e = .returned (.tuple #[v', rowV h]) ∧ w'.ownsRow base 5 1 v' (out ++ [(byteOf h.1 r : Int)]).length (cellsZ (out ++ [(byteOf h.1 r : Int)])) ∧ SetIn w' q v (a :: R) x ∧ KB (a :: R) base w w' := by
  obtain ⟨i0, hi, hz0, hz1, hz2⟩ := info_parts Tryz.info5
  obtain ⟨ua, uc, hue⟩ : ∃ ua uc, u = .slice ua out.length uc := by
    rcases hown.2 with ⟨rfl, h0⟩ | ⟨g, cap, cur, hv, _⟩
    · exact ⟨none, 0, by rw [h0]⟩
    · exact ⟨_, _, hv⟩
  have c37 := fun W hW => univ_any W q v a R x (hset.on hW)
  have hu6 : (a.1 == 6) = false := by simpa using hu
  rw [hu6] at c37
  obtain ⟨W1, hW1⟩ : ∃ W1, w.alloc (.cells #[.int .i64 (h.1 : Int), .string h.2.1, .string (sp (3 * h.1 + 2)), .func (.func (mfN h.1)) #[] #[], .func (.func 75) #[] (caps h.2.2)] 82) = W1 := ⟨_, rfl⟩
  obtain ⟨W2, hW2⟩ : ∃ W2, W1.alloc (.cells #[.int .i64 0, .string ⟨#[]⟩, .string ⟨#[]⟩, .nilFunc, .nilFunc] 82) = W2 := ⟨_, rfl⟩
  have hb1 : Below w.heap.size w W1 := hW1 ▸ (Below.refl _ _).alloc (Nat.le_refl _) _
  have hb2 : Below W1.heap.size W1 W2 := hW2 ▸ (Below.refl _ _).alloc (Nat.le_refl _) _
  have hb12 : Below w.heap.size w W2 := hb1.trans (hb2.mono hb1.size)
  have hs1 : W1.heap.size = w.heap.size + 1 := by rw [← hW1]; simp
  have hs2 : W2.heap.size = w.heap.size + 2 := by rw [← hW2]; simp; omega
  have hr1' : Row5 W1 w.heap.size 0 h := hW1 ▸ Row5.new w h
  have HR2 : Hid (Row5 W2 w.heap.size 0 h) := hr1'.on hb2 (by omega)
  have hset2 := hset.on hb12
  have HS2 : Hid (SetIn W2 q v (a :: R) x) := hset2
  have HT2 : Hid (Tabs W2) := hT.on hb12
  have cB := byte_any W2 h.2.2 h.1 h7 r hr0 hr1 (hset2.st h (List.mem_of_getElem? hm)).1 (hT.on hb12) (by have := (hset2.st h (List.mem_of_getElem? hm)).2; omega)
  have cU := c37 W2 hb12
  have hown2 := ownsRow_below hown hb12 (Nat.le_refl _)
  have hP : ∀ i, W2.frozen? ⟨w.heap.size + 1, i, none⟩ = false := fun i => by rw [← hW2, ← hs1]; simp
  have z0 : W2.cell? ⟨w.heap.size + 1, 0, none⟩ = some (.int .i64 0) := by rw [← hW2, ← hs1]; simp
  have z1 : W2.cell? ⟨w.heap.size + 1, 1, none⟩ = some (.string ⟨#[]⟩) := by rw [← hW2, ← hs1]; simp
  have z2 : W2.cell? ⟨w.heap.size + 1, 2, none⟩ = some (.string ⟨#[]⟩) := by rw [← hW2, ← hs1]; simp
  have z3 : W2.cell? ⟨w.heap.size + 1, 3, none⟩ = some .nilFunc := by rw [← hW2, ← hs1]; simp
  have z4 : W2.cell? ⟨w.heap.size + 1, 4, none⟩ = some .nilFunc := by rw [← hW2, ← hs1]; simp
  have HP1 : Hid (∀ W : World, W2.heap[w.heap.size + 1]? = W.heap[w.heap.size + 1]? → (W.cell? ⟨w.heap.size + 1, 0, none⟩ = some (.int .i64 0) ∧ W.cell? ⟨w.heap.size + 1, 1, none⟩ = some (.string ⟨#[]⟩) ∧ W.cell? ⟨w.heap.size + 1, 2, none⟩ = some (.string ⟨#[]⟩) ∧ W.cell? ⟨w.heap.size + 1, 3, none⟩ = some .nilFunc ∧ W.cell? ⟨w.heap.size + 1, 4, none⟩ = some .nilFunc) ∧ ∀ i, W.frozen? ⟨w.heap.size + 1, i, none⟩ = false) := fun W hW =>
    ⟨⟨(World.cell?_of_block hW.symm).trans z0, (World.cell?_of_block hW.symm).trans z1, (World.cell?_of_block hW.symm).trans z2, (World.cell?_of_block hW.symm).trans z3, (World.cell?_of_block hW.symm).trans z4⟩, fun i => (World.frozen?_of_block hW.symm).trans (hP i)⟩
  have HP0 : Hid (∀ W : World, W2.heap[w.heap.size]? = W.heap[w.heap.size]? → Row5 W w.heap.size 0 h) := fun W hW =>
    ⟨(World.cell?_of_block hW.symm).trans HR2.out.c0, (World.cell?_of_block hW.symm).trans HR2.out.c1, (World.cell?_of_block hW.symm).trans HR2.out.c2, (World.cell?_of_block hW.symm).trans HR2.out.c3, (World.cell?_of_block hW.symm).trans HR2.out.c4⟩
  obtain ⟨y0, y1, y2, y3, y4⟩ := HR2.out
  obtain ⟨n, hn⟩ : ∃ n, out.length = n := ⟨_, rfl⟩
  subst hue
  have HN : Hid _ := hn
  have HOW2 : Hid (W2.ownsRow base 5 1 (.slice ua out.length uc) out.length (cellsZ out)) := hown2
  have HGL : Hid (∀ g, (Value.slice ua out.length uc).ownBlock = some g → g < w.heap.size) := fun g hg => (hown.lt g hg).2
  have HSET : Hid _ := hset
  have HB12 : Hid _ := hb12
  have HFAR : Hid _ := hfar
  have HNE : Hid _ := hne
  have HM : Hid _ := hm
  obtain ⟨bb, hbb⟩ : ∃ bb, byteOf h.1 r = bb := ⟨_, rfl⟩
  rw [hbb] at cB hb ⊢
  have hbn : ((bb : Int) != 0) = true := by simp; omega
  rw [hn] at hlen ⊢
  unfold rowV
  unfold caps at hW1 y4 ⊢
  clear hset2 hown2 hset hb1 hb2 hb12 hr1' hT c37 hu hu6 hfar hne hown hP z0 z1 z2 z3 z4 hb hbb hn hm
  go_enter Tryz.func37, Tryz.ntmps37
  go_wp2_with (first | (go_at_call 49; refine cU.mono ?_; rintro e W9 ⟨rfl, rfl⟩) | (go_at_call 75; refine Stop.mk ?_))
  refine Stop.out (cB.mono ?_)
  rintro e W3 ⟨rfl, hst3, hg3⟩
  obtain ⟨hs3, hk3⟩ := HS2.out.asked HM.out hst3 hg3
  have hne0 : ∀ b ∈ a :: R, w.heap.size ≠ b.2.2 + 1 := fun b hb => by have := HFAR.out b hb; omega
  have hne1 : ∀ b ∈ a :: R, w.heap.size + 1 ≠ b.2.2 + 1 := fun b hb => by have := HFAR.out b hb; omega
  have q0 := hk3.block w.heap.size (by omega) hne0
  have q1 := hk3.block (w.heap.size + 1) (by omega) hne1
  have hown3 : W3.ownsRow base 5 1 (.slice ua n uc) n (cellsZ out) := by
    have h1 := HOW2.out
    rw [HN.out] at h1
    refine own_keep h1 (fun g hg => hk3.block g (World.ownsRow.lt h1 g hg).2 (fun b hb => ?_))
    have := HFAR.out b hb
    have := (World.ownsRow.lt h1 g hg).1
    omega
  have hgl : ∀ g, (Value.slice ua n uc).ownBlock = some g → g < w.heap.size := by
    have h1 := HGL.out
    rw [HN.out] at h1
    exact h1
  have HS3 : Hid (SetIn W3 q v (a :: R) x) := hs3
  have HK3 : Hid (Keep (a :: R) W2 W3) := hk3
  have HO3 : Hid (W3.ownsRow base 5 1 (.slice ua n uc) n (cellsZ out)) := hown3
  have hs23 := hk3.size
  obtain ⟨⟨p0, p1, p2, p3, p4⟩, pf⟩ := HP1.out W3 q1.symm
  obtain ⟨o0, o1, o2, o3, o4⟩ := HP0.out W3 q0.symm
  have HQ0 : Hid _ := q0
  have HQ1 : Hid _ := q1
  have H63 : n + 1 ≤ maxLen := by unfold maxLen; omega
  have HBY : (n + 1) * 1 ≤ 140737488355328 := by omega
  have HBS : ∀ o, base ≤ (W3.alloc o).heap.size := fun o => by simp; omega
  unfold caps at o4
  have HW4 : Hid (∀ X W4 : World, Below W3.heap.size W3 X → X.grownBy W4 (Value.slice ua n uc).ownBlock → Row5 W4 w.heap.size 0 h ∧ ((W4.cell? ⟨w.heap.size + 1, 0, none⟩ = some (.int .i64 0) ∧ W4.cell? ⟨w.heap.size + 1, 1, none⟩ = some (.string ⟨#[]⟩) ∧ W4.cell? ⟨w.heap.size + 1, 2, none⟩ = some (.string ⟨#[]⟩) ∧ W4.cell? ⟨w.heap.size + 1, 3, none⟩ = some .nilFunc ∧ W4.cell? ⟨w.heap.size + 1, 4, none⟩ = some .nilFunc) ∧ ∀ i, W4.frozen? ⟨w.heap.size + 1, i, none⟩ = false) ∧ Hid (SetIn W4 q v (a :: R) x) ∧ Hid (KB (a :: R) base w W4) ∧ Hid (w.heap.size + 2 ≤ W4.heap.size)) := fun X W4 hX hg => by
    have hXs := hX.size
    have b0 : W4.heap[w.heap.size]? = W3.heap[w.heap.size]? := (hg.block _ (by omega) (fun e => by have := hgl _ e.symm; omega)).trans (hX.block _ (by omega))
    have b1 : W4.heap[w.heap.size + 1]? = W3.heap[w.heap.size + 1]? := (hg.block _ (by omega) (fun e => by have := hgl _ e.symm; omega)).trans (hX.block _ (by omega))
    have hownX : X.ownsRow base 5 1 (.slice ua n uc) n (cellsZ out) := ownsRow_below HO3.out hX (Nat.le_refl _)
    refine ⟨HP0.out W4 (b0.trans HQ0.out).symm, HP1.out W4 (b1.trans HQ1.out).symm, ?_, ?_, ?_⟩
    · refine SetIn.grown (out := out) (HS3.out.on hX) (by simp) (u := .slice ua n uc) (base := base) (by rw [HN.out]; exact hownX) ?_ hg
      have := HNE.out
      rw [HN.out] at this
      rw [HN.out]
      exact this
    · refine ((KB.of_below (HB12.out.mono hbase)).trans (KB.of_keep HK3.out (by omega))).trans ((KB.of_below (hX.mono (by omega))).trans (KB.of_grown hg (by omega) (fun r e => (World.ownsRow.lt HO3.out r e).1)))
    · have := hg.size
      show _ ≤ _
      omega
  have oa0 := fun ob => cell_alloc (o := ob) o0
  have oa1 := fun ob => cell_alloc (o := ob) o1
  have oa2 := fun ob => cell_alloc (o := ob) o2
  have oa3 := fun ob => cell_alloc (o := ob) o3
  have oa4 := fun ob => cell_alloc (o := ob) o4
  clear hs3 hk3 hst3 hg3 cB cU hne0 hne1 q0 q1 hown3 y0 y1 y2 y3 y4
  go_wp2
  go_region_law (go_loud (refine step_append_lies _ rfl (.tmp 25) (.tmp 27) 27 rfl base 5 i0 _ 1 1 Tryz.underlying27 hi hz0 hz1 hz2 rfl (by decide) (.slice ua n uc) n (cellsZ out) (by simp [Act.eval]) (World.ownsRow.alloc HO3.out _) ⟨W3.heap.size, 0, none⟩ 1 1 [.int .u8 (bb : Int)] (by simp [Act.eval]) rfl (World.news_of_block (heap_alloc_new W3 _)) (cells1 bb) (by decide) H63 HBY (HBS _) _ rfl ?_; intro g cap W4 hown4 hgrow4 hat4 hlt4; obtain ⟨⟨k0, k1, k2, k3, k4⟩, ⟨⟨m0, m1, m2, m3, m4⟩, mf⟩, HS4, HK4, HZ4⟩ := HW4.out _ W4 (((Below.refl _ W3).alloc (Nat.le_refl _) _).drew) hgrow4; unfold caps at k4; have HO4 : Hid (W4.ownsRow base 5 1 (.slice (some ⟨g, 0, none⟩) (n + 1) cap) (n + 1) (cellsZ out ++ [.int .u8 (bb : Int)])) := hown4; have HG4 : Hid (g ≠ w.heap.size + 1) := ne_lies hat4 (fun g hg => Nat.lt_succ_of_lt (hgl g hg)) (by simp; omega); clear hown4 hgrow4 hat4 hlt4))
  all_goals
    have hrow := row_written h m0 m1 m2 m3 m4
    have hgrS := rowSet_grown W4 (w.heap.size + 1) h
    have HSU : Hid (SetIn (rowSet W4 (w.heap.size + 1) h) q v (a :: R) x) := by
      refine HS4.out.beside m0 ?_ ?_ (fun j hj hn => hgrS.block j hj (by simp; omega))
      · have := cell_lt HSET.out.c0
        simp only at this
        omega
      · intro g' hg'
        have := (HSET.out.own.lt g' hg').2
        omega
    have HOU : Hid ((rowSet W4 (w.heap.size + 1) h).ownsRow base 5 1 (.slice (some ⟨g, 0, none⟩) (n + 1) cap) (n + 1) (cellsZ out ++ [.int .u8 (bb : Int)])) := World.ownsRow.kept HO4.out hgrS (.inr (fun e => by have := HG4.out; simp [Value.ownBlock] at e; omega))
    have HKU : Hid (KB (a :: R) base w (rowSet W4 (w.heap.size + 1) h)) := HK4.out.trans (KB.of_grown hgrS (by have := HZ4.out; omega) (fun r e => by cases e; omega))
    unfold rowSet caps at HSU HOU HKU
    unfold caps at hrow
    obtain ⟨u0, u1, u2, u3, u4⟩ := hrow
    clear hgrS m0 m1 m2 m3 m4 mf k0 k1 k2 k3 k4 HS4 HK4 HO4
    go_wp2
    exact bodyPost_ret (v := .tuple #[.slice (some ⟨g, 0, none⟩) (n + 1) cap, .agg #[.int .i64 (h.1 : Int), .string h.2.1, .string (sp (3 * h.1 + 2)), .func (.func (mfN h.1)) #[] #[], .func (.func 75) #[] #[.pointer (some ⟨h.2.2 + 1 + 1, 0, none⟩), .pointer (some ⟨h.2.2 + 1 + 1 + 1, 0, none⟩)]]]) (by simp only [results, Tryz.results37]; simp [go_sem, u0, u1, u2, u3, u4, caps]) rfl ⟨_, rfl, by rw [List.length_append, HN.out]; simpa [cellsZ] using HOU.out, HSU.out, HKU.out⟩
end Go.Proofs.YtegfgbcimlacbaaGreatDoor
