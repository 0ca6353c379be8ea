import Derived.Test.YtnheeenkdjmhoaaDoorC
import Derived.Deep.OwnRows
import Derived.Deep.Heap
/-
  DERIVED. A framer in memory: drop, keep.
-/
namespace Go.Proofs.YtnheeenkdjmhoaaDoor
open Go Go.Proofs Go.RowKit Go.Deep

def Stop (p : Prop) : Prop := p
theorem Stop.mk {p : Prop} (h : Stop p) : p := h
theorem Stop.out {p : Prop} (h : p) : Stop p := h

/-- The three cells of a framer. -/
def fC (st : Int) (u : Value) (lg : Bool) : Nat → Value := fun i => if i = 0 then .int .i64 st else if i = 1 then u else .bool lg

theorem rowIs_cells {w : World} {q : Nat} {st : Int} {u : Value} {lg : Bool} (h : w.rowIs q 56 3 (fC st u lg)) :
    w.cell? ⟨q, 0, none⟩ = some (.int .i64 st) ∧ w.cell? ⟨q, 1, none⟩ = some u ∧ w.cell? ⟨q, 2, none⟩ = some (.bool lg) ∧ ∀ i, w.frozen? ⟨q, i, none⟩ = false :=
  ⟨h.cell (i := 0) (by omega), h.cell (i := 1) (by omega), h.cell (i := 2) (by omega), h.frozen⟩


/-- What may have turned: the blocks of S, and what is new. -/
structure Ch (S : Nat → Prop) (w w' : World) : Prop where
  os : w'.os = w.os
  tape : w'.tape = w.tape
  output : w'.output = w.output
  size : w.heap.size ≤ w'.heap.size
  block : ∀ k, k < w.heap.size → ¬ S k → w'.heap[k]? = w.heap[k]?
theorem Ch.refl (S : Nat → Prop) (w : World) : Ch S w w := ⟨rfl, rfl, rfl, Nat.le_refl _, fun _ _ _ => rfl⟩
theorem Ch.trans {S T : Nat → Prop} {a b c : World} (h : Ch S a b) (k : Ch T b c) (hT : ∀ j, j < a.heap.size → T j → S j) : Ch S a c :=
  ⟨k.os.trans h.os, k.tape.trans h.tape, k.output.trans h.output, Nat.le_trans h.size k.size, fun j hj hs => (k.block j (Nat.lt_of_lt_of_le hj h.size) (fun ht => hs (hT j hj ht))).trans (h.block j hj hs)⟩
theorem Ch.mono {S T : Nat → Prop} {a b : World} (h : Ch S a b) (hT : ∀ j, j < a.heap.size → S j → T j) : Ch T a b := ⟨h.os, h.tape, h.output, h.size, fun j hj ht => h.block j hj (fun hs => ht (hT j hj hs))⟩
theorem Ch.of_below {S : Nat → Prop} {a b : World} (h : Below a.heap.size a b) : Ch S a b := ⟨h.os, h.tape, h.output, h.size, fun j hj _ => h.block j hj⟩
theorem Ch.of_grown {S : Nat → Prop} {a b : World} {r : Option Nat} (h : a.grownBy b r) (hr : ∀ j, r = some j → j < a.heap.size → S j) : Ch S a b :=
  ⟨h.os, h.tape, h.output, h.size, fun j hj hs => h.block j hj (fun e => hs (hr j e.symm hj))⟩
theorem Ch.setCell {S : Nat → Prop} {a b : World} (h : Ch S a b) (p : Addr) (v : Value) (hp : p.block < a.heap.size → S p.block) : Ch S a (b.setCell p v) :=
  ⟨by simpa [World.setCell] using h.os, by simpa [World.setCell] using h.tape, by simpa [World.setCell] using h.output, by simpa [World.setCell] using h.size, fun j hj hs => by
    rw [blk_setCell_other _ _ _ _ (fun e => hs (by rw [e]; exact hp (by rw [← e]; exact hj)))]
    exact h.block j hj hs⟩

theorem owns_of {w w' : World} {base : Nat} {e : TypeId} {size : Nat} {v : Value} {n : Nat} {xs : List Value} (h : w.ownsRow base e size v n xs) (hb : ∀ g, v.ownBlock = some g → w'.heap[g]? = w.heap[g]?) : w'.ownsRow base e size v n xs := by
  refine ⟨h.1, ?_⟩
  rcases h.2 with h2 | ⟨g, cap, cur, hv, hg, hh, r⟩
  · exact .inl h2
  · exact .inr ⟨g, cap, cur, hv, hg, (hb g (by rw [hv]; rfl)).trans hh, r⟩

/-- A framer in memory: what it is at, its text, whether that had more. -/
structure FR (w : World) (q : Nat) (u : Value) (st : Int) (tx : List Nat) (lg : Bool) : Prop where
  row : w.rowIs q 56 3 (fC st u lg)
  own : w.ownsRow (q + 1) 5 1 u tx.length (u8s tx)
  byt : ∀ x ∈ tx, x < 256
  len : tx.length ≤ 16384

/-- The blocks that a framer may turn. -/
def FS (q : Nat) (u : Value) : Nat → Prop := fun j => j = q ∨ u.ownBlock = some j

theorem FR.of {w w' : World} {q : Nat} {u : Value} {st : Int} {tx : List Nat} {lg : Bool} (h : FR w q u st tx lg) (hb : ∀ j, j < w.heap.size → FS q u j → w'.heap[j]? = w.heap[j]?) : FR w' q u st tx lg :=
  ⟨h.row.of_block (hb q h.row.lt (.inl rfl)), owns_of h.own (fun g hg => hb g (h.own.lt g hg).2 (.inr hg)), h.byt, h.len⟩
theorem FR.next {w w' : World} {q : Nat} {u : Value} {st : Int} {tx : List Nat} {lg : Bool} (h : FR w q u st tx lg) (hb : Below w.heap.size w w') : FR w' q u st tx lg := h.of fun j hj _ => hb.block j hj

theorem fC_set0 (st k : Int) (u : Value) (lg : Bool) : ∀ i, i < 3 → (if i = 0 then Value.int .i64 k else fC st u lg i) = fC k u lg i := by
  intro i hi
  rcases (show i = 0 ∨ i = 1 ∨ i = 2 by omega) with rfl | rfl | rfl <;> rfl
theorem fC_set1 (st : Int) (u v : Value) (lg : Bool) : ∀ i, i < 3 → (if i = 1 then v else fC st u lg i) = fC st v lg i := by
  intro i hi
  rcases (show i = 0 ∨ i = 1 ∨ i = 2 by omega) with rfl | rfl | rfl <;> rfl
theorem fC_set2 (st : Int) (u : Value) (lg b : Bool) : ∀ i, i < 3 → (if i = 2 then Value.bool b else fC st u lg i) = fC st u b i := by
  intro i hi
  rcases (show i = 0 ∨ i = 1 ∨ i = 2 by omega) with rfl | rfl | rfl <;> rfl

theorem FR.set0 {w : World} {q : Nat} {u : Value} {st : Int} {tx : List Nat} {lg : Bool} (h : FR w q u st tx lg) (k : Int) : FR (w.setCell ⟨q, 0, none⟩ (.int .i64 k)) q u k tx lg :=
  ⟨(h.row.set 0 _).congr (fC_set0 _ _ _ _), owns_of h.own (fun g hg => blk_setCell_other _ _ _ _ (by have := (h.own.lt g hg).1; simp; omega)), h.byt, h.len⟩
theorem FR.set2 {w : World} {q : Nat} {u : Value} {st : Int} {tx : List Nat} {lg : Bool} (h : FR w q u st tx lg) (b : Bool) : FR (w.setCell ⟨q, 2, none⟩ (.bool b)) q u st tx b :=
  ⟨(h.row.set 2 _).congr (fC_set2 _ _ _ _), owns_of h.own (fun g hg => blk_setCell_other _ _ _ _ (by have := (h.own.lt g hg).1; simp; omega)), h.byt, h.len⟩

set_option maxRecDepth 100000 in
/-- drop. -/
theorem drop_any {w : World} {q : Nat} {u : Value} {st : Int} {tx : List Nat} {lg : Bool} (h : FR w q u st tx lg) (k : Int) :
    Calls Tryd.prog 21 #[.pointer (some ⟨q, 0, none⟩), .int .i64 k] w fun e w' => e = .returned (.tuple #[]) ∧ FR w' q (.slice none 0 0) k [] false ∧ Ch (fun j => j = q) w w' := by
  obtain ⟨c0, c1, c2, cf⟩ := rowIs_cells h.row
  have HR : Hid (w.rowIs q 56 3 (fC st u lg)) := h.row
  clear h
  go_enter Tryd.func21, Tryd.ntmps21
  go_wp2
  refine bodyPost_end (results_none rfl _ _ _) rfl ⟨rfl, ⟨?_, World.ownsRow_nil _ _ _ _, by simp, by simp⟩, ?_⟩
  · exact ((((HR.out.set 0 _).congr (fC_set0 _ _ _ _)).set 1 _).congr (fC_set1 _ _ _ _) |>.set 2 _).congr (fC_set2 _ _ _ _)
  · refine Ch.setCell (Ch.setCell (Ch.setCell (Ch.refl _ _) _ _ ?_) _ _ ?_) _ _ ?_ <;> exact fun _ => rfl

def kpT (tx : List Nat) (c : Nat) : List Nat := if tx.length = 16384 then tx else tx ++ [c]
def kpL (tx : List Nat) (lg : Bool) : Bool := if tx.length = 16384 then true else lg

theorem own_slice {w : World} {base n : Nat} {e : TypeId} {size : Nat} {v : Value} {xs : List Value} (h : w.ownsRow base e size v n xs) : ∃ ao cap, v = .slice ao n cap := by
  rcases h.2 with ⟨rfl, rfl⟩ | ⟨g, cap, _, rfl, _⟩
  · exact ⟨_, _, rfl⟩
  · exact ⟨_, _, rfl⟩

set_option maxRecDepth 100000 in
set_option maxHeartbeats 1000000 in
/-- keep. -/
theorem keep_any {w : World} {q : Nat} {u : Value} {st : Int} {tx : List Nat} {lg : Bool} (h : FR w q u st tx lg) (c : Nat) (hc : c < 256) :
    Calls Tryd.prog 22 #[.pointer (some ⟨q, 0, none⟩), .int .u8 (c : Int)] w fun e w' => e = .returned (.tuple #[]) ∧ (∃ u', FR w' q u' st (kpT tx c) (kpL tx lg) ∧ (u'.ownBlock = u.ownBlock ∨ ∀ g, u'.ownBlock = some g → w.heap.size ≤ g)) ∧ Ch (FS q u) w w' := by
  obtain ⟨c0, c1, c2, cf⟩ := rowIs_cells h.row
  have HH : Hid (FR w q u st tx lg) := h
  have hlen := h.len
  obtain ⟨ao, cap, rfl⟩ := own_slice h.own
  clear h
  unfold kpT kpL
  by_cases hl : tx.length = 16384
  · rw [if_pos hl, if_pos hl]
    have e1 : ((tx.length : Int) == 16384) = true := by simp; omega
    go_enter Tryd.func22, Tryd.ntmps22
    go_wp2
    refine bodyPost_ret (results_none rfl _ _ _) rfl ⟨rfl, ⟨_, HH.out.set2 true, .inl rfl⟩, (Ch.refl _ _).setCell _ _ (fun _ => .inl rfl)⟩
  · rw [if_neg hl, if_neg hl]
    have e1 : ((tx.length : Int) == 16384) = false := by simp; omega
    obtain ⟨i0, hi, hz0, hz1, hz2⟩ := info_parts info5s
    have hown := HH.out.own
    have hq : q < w.heap.size := HH.out.row.lt
    have HQ : Hid (q + 1 ≤ (w.alloc (.cells #[.int .u8 (c : Int)] 5)).heap.size) := by simp [Hid]; omega
    go_enter Tryd.func22, Tryd.ntmps22
    go_wp2_with (first | (at_builtin; refine wpList_append_lies _ rfl _ _ 22 rfl (q + 1) 5 i0 _ 1 1 Tryd.underlying22 hi hz0 hz1 hz2 rfl (by decide) (.slice ao tx.length cap) tx.length (u8s tx) rfl (hown.alloc _) ⟨w.heap.size, 0, none⟩ 1 1 [.int .u8 (c : Int)] rfl rfl ?_ ?_ (by decide) ?_ ?_ HQ.out (w.heap.size + 1) (by simp) ?_) | fail)
    · exact cell_one_new _ _ _
    · intro u hu; simp at hu; subst hu; rfl
    · unfold maxLen; omega
    · omega
    · intro g cp w2 hown2 hgrow2 hat2 hlt2
      have HO2 : Hid (w2.ownsRow (q + 1) 5 1 (.slice (some ⟨g, 0, none⟩) (tx.length + 1) cp) (tx.length + 1) (u8s tx ++ [.int .u8 (c : Int)])) := hown2
      have HG2 : Hid ((w.alloc (.cells #[.int .u8 (c : Int)] 5)).grownBy w2 (Value.ownBlock (.slice ao tx.length cap))) := hgrow2
      have HA2 : Hid (Value.ownBlock (.slice ao tx.length cap) = some g ∨ g = w.heap.size + 1) := hat2
      have hrow2 : w2.rowIs q 56 3 (fC st (.slice ao tx.length cap) lg) := HH.out.row.of_block ((hgrow2.block q (by simp; omega) (fun e => by have := (hown.lt q e.symm).1; omega)).trans (blk_alloc_lt _ _ _ hq))
      have HR2 : Hid (w2.rowIs q 56 3 (fC st (.slice ao tx.length cap) lg)) := hrow2
      obtain ⟨d0, d1, d2, df⟩ := rowIs_cells hrow2
      clear hown2 hgrow2 hat2 hrow2 c0 c1 c2 cf
      go_wp2
      refine bodyPost_end (results_none rfl _ _ _) rfl ⟨rfl, ⟨_, ⟨(HR2.out.set 1 _).congr (fC_set1 _ _ _ _), ?_, ?_, ?_⟩, ?_⟩, ?_⟩
      · rw [List.length_append, List.length_singleton, u8s_append]
        exact owns_of HO2.out (fun g hg => blk_setCell_other _ _ _ _ (by have := (HO2.out.lt g hg).1; simp; omega))
      · intro x hx
        rcases List.mem_append.1 hx with hx | hx
        · exact HH.out.byt x hx
        · simp at hx; omega
      · rw [List.length_append, List.length_singleton]; omega
      · rcases HA2.out with e | e
        · exact .inl e.symm
        · refine .inr fun g' hg' => ?_
          have : g' = g := (Option.some.inj hg').symm
          omega
      · refine Ch.setCell ?_ _ _ (fun _ => .inl rfl)
        refine Ch.trans (T := FS q (.slice ao tx.length cap)) (Ch.of_below ((Below.refl _ _).alloc (Nat.le_refl _) _)) (Ch.of_grown HG2.out (fun j hj _ => .inr hj)) (fun j _ hj => hj)
end Go.Proofs.YtnheeenkdjmhoaaDoor
