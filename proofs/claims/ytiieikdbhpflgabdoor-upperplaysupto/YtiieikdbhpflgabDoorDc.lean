import Derived.Test.YtiieikdbhpflgabDoorU
import Derived.Deep.Cut
/-
  DERIVED. The document's small functions: which PDU an event wants, stop, start, send, tell, shut.
-/
namespace Go.Proofs.YtiieikdbhpflgabDoor
open Go Go.Proofs Go.RowKit

def wantL (k : Int) : Int := if k = 1 ∨ k = 6 then 1 else if k = 3 ∨ k = 7 then 2 else if k = 4 ∨ k = 8 then 3 else if k = 9 ∨ k = 10 then 4 else if k = 12 then 5 else if k = 13 then 6 else if k = 16 then 7 else 0
set_option maxRecDepth 100000 in
theorem wants_any (w : World) (k : Int) : Calls Tryd.prog 28 #[.int .i64 k] w fun x w' => x = .returned (.int .i64 (wantL k)) ∧ w' = w := by
  have go : ∀ (n : Int), k = n → (n = 1 ∨ n = 6 ∨ n = 3 ∨ n = 7 ∨ n = 4 ∨ n = 8 ∨ n = 9 ∨ n = 10 ∨ n = 12 ∨ n = 13 ∨ n = 16) → Calls Tryd.prog 28 #[.int .i64 k] w fun x w' => x = .returned (.int .i64 (wantL k)) ∧ w' = w := by
    intro n hk hn
    subst hk
    rcases hn with h | h | h | h | h | h | h | h | h | h | h <;> subst h <;> (go_enter Tryd.func28, Tryd.ntmps28; go_wp2; go_ret; exact ⟨rfl, rfl⟩)
  by_cases h : k = 1 ∨ k = 6 ∨ k = 3 ∨ k = 7 ∨ k = 4 ∨ k = 8 ∨ k = 9 ∨ k = 10 ∨ k = 12 ∨ k = 13 ∨ k = 16
  · exact go k rfl h
  · have hw : wantL k = 0 := by
      unfold wantL
      rw [if_neg (by omega), if_neg (by omega), if_neg (by omega), if_neg (by omega), if_neg (by omega), if_neg (by omega), if_neg (by omega)]
    rw [hw]
    have n1 : (k == 1) = false := by simp; omega
    have n6 : (k == 6) = false := by simp; omega
    have n3 : (k == 3) = false := by simp; omega
    have n7 : (k == 7) = false := by simp; omega
    have n4 : (k == 4) = false := by simp; omega
    have n8 : (k == 8) = false := by simp; omega
    have n9 : (k == 9) = false := by simp; omega
    have n10 : (k == 10) = false := by simp; omega
    have n12 : (k == 12) = false := by simp; omega
    have n13 : (k == 13) = false := by simp; omega
    have n16 : (k == 16) = false := by simp; omega
    clear go h hw
    go_enter Tryd.func28, Tryd.ntmps28
    go_wp2
    go_ret
    exact ⟨rfl, rfl⟩

/-- The document's provider lies there. -/
structure RvS (w : World) (p : Nat) (PV : Array Value) (c0 : Fin 18 → Value) (S : Prov) : Prop where
  row : w.heap[p]? = some (.cells PV 58)
  sz : PV.size = 24
  one : PV.all (·.oneCell') = true
  kept : ∀ j v, (Pd S.K.k c0).toList[j]? = some v → PV[5 + j]? = some v
  ox : OXF S.K.F (p + 1) w c0 S.K.D
  same : SameC S.K.c c0
  v0 : PV[0]? = some (.int .i64 S.art)
  v1 : PV[1]? = some (.int .i64 S.sta)
  v2 : PV[2]? = some (.bool S.asked)
  v3 : PV[3]? = some (.bool (decide (0 < S.left)))
  v4 : PV[4]? = some (.int .i64 S.left)
theorem RvS.on {w w' : World} {p : Nat} {PV : Array Value} {c0 : Fin 18 → Value} {S : Prov} (h : RvS w p PV c0 S) (hb : Below w.heap.size w w') : RvS w' p PV c0 S :=
  have hl := (Array.getElem?_eq_some_iff.1 h.row).1
  ⟨(hb.block p hl).trans h.row, h.sz, h.one, h.kept, h.ox.keep fun b _ hlt => hb.block b hlt, h.same, h.v0, h.v1, h.v2, h.v3, h.v4⟩
def RvE (w : World) (p : Nat) (S : Prov) : Prop := ∃ PV c0, RvS w p PV c0 S
theorem RvE.on {w w' : World} {p : Nat} {S : Prov} (h : RvE w p S) (hb : Below w.heap.size w w') : RvE w' p S := by
  obtain ⟨PV, c0, h⟩ := h; exact ⟨PV, c0, h.on hb⟩
theorem RvE.lt {w : World} {p : Nat} {S : Prov} (h : RvE w p S) : p < w.heap.size := by
  obtain ⟨PV, c0, h⟩ := h; exact (Array.getElem?_eq_some_iff.1 h.row).1
/-- One cell of the document's provider is written. -/
theorem rv_set {W : World} {p : Nat} {PV : Array Value} (h : W.heap[p]? = some (.cells PV 58)) (hs : PV.size = 24) (h1 : PV.all (·.oneCell') = true) (i : Nat) (hi : i < 24) (v : Value) (hv : v.oneCell' = true) :
    (W.setCell ⟨p, i, none⟩ v).heap[p]? = some (.cells (PV.setIfInBounds i v) 58) ∧ (PV.setIfInBounds i v).size = 24 ∧ (PV.setIfInBounds i v).all (·.oneCell') = true ∧ (PV.setIfInBounds i v)[i]? = some v ∧ (∀ j, j ≠ i → (PV.setIfInBounds i v)[j]? = PV[j]?) ∧ (∀ b, b ≠ p → (W.setCell ⟨p, i, none⟩ v).heap[b]? = W.heap[b]?) ∧ BelBut p W (W.setCell ⟨p, i, none⟩ v) := by
  have hset := setCell_eq_setRow W p i PV 58 (0, 0) v h
  have ho : ∀ b, b ≠ p → (W.setCell ⟨p, i, none⟩ v).heap[b]? = W.heap[b]? := fun b hb => Below.heap_setCell _ _ _ _ hb
  refine ⟨by rw [hset]; exact setRow_heap W _ _ _ _ _ h, by simp [hs], ?_, by rw [Array.getElem?_setIfInBounds]; simp [hs, hi], fun j hj => by rw [Array.getElem?_setIfInBounds_ne (Ne.symm hj)], ho, ?_⟩
  · rw [Array.all_eq_true_iff_forall_mem] at h1 ⊢
    intro x hx
    obtain ⟨j, hj, rfl⟩ := Array.mem_iff_getElem.1 hx
    rw [Array.getElem_setIfInBounds]
    split
    · exact hv
    · exact h1 _ (Array.getElem_mem _)
    · simpa using hj
  · have hb : Below p W (W.setCell ⟨p, i, none⟩ v) := (Below.refl _ _).setCell (p := ⟨p, i, none⟩) (Nat.le_refl _) _
    exact ⟨hb.os, hb.tape, hb.output, hb.size, fun b _ hp => ho b hp⟩
/-- Only the provider's block has turned, and nothing is new. -/
structure ButOne (p : Nat) (w w' : World) : Prop where
  but : BelBut p w w'
  heap : ∀ b, b ≠ p → w'.heap[b]? = w.heap[b]?
  size : w'.heap.size = w.heap.size
theorem rv_timer {w : World} {p : Nat} {S : Prov} (h : RvE w p S) (l : Int) : ∃ t, t = decide (0 < l) ∧ RvE ((w.setCell ⟨p, 3, none⟩ (.bool t)).setCell ⟨p, 4, none⟩ (.int .i64 l)) p { S with left := l } ∧ ButOne p w ((w.setCell ⟨p, 3, none⟩ (.bool t)).setCell ⟨p, 4, none⟩ (.int .i64 l)) := by
  obtain ⟨PV, c0, h⟩ := h
  obtain ⟨a1, a2, a3, a4, a5, a6, a7⟩ := rv_set h.row h.sz h.one 3 (by omega) (.bool (decide (0 < l))) rfl
  obtain ⟨b1, b2, b3, b4, b5, b6, b7⟩ := rv_set a1 a2 a3 4 (by omega) (.int .i64 l) rfl
  refine ⟨_, rfl, ⟨_, c0, b1, b2, b3, fun j v hv => (b5 _ (by omega)).trans ((a5 _ (by omega)).trans (h.kept j v hv)), h.ox.keep fun b hb _ => (b6 b (by omega)).trans (a6 b (by omega)), h.same, (b5 0 (by omega)).trans ((a5 0 (by omega)).trans h.v0), (b5 1 (by omega)).trans ((a5 1 (by omega)).trans h.v1), (b5 2 (by omega)).trans ((a5 2 (by omega)).trans h.v2), (b5 3 (by omega)).trans a4, b4⟩, a7.trans b7, fun b hb => (b6 b hb).trans (a6 b hb), by simp⟩
def TimP (w : World) (p : Nat) (S : Prov) (x : Ending) (w' : World) : Prop := x = .returned (.tuple #[]) ∧ RvE w' p S ∧ ButOne p w w'
set_option maxRecDepth 100000 in
theorem stop_any (w : World) (p : Nat) (S : Prov) (h : RvE w p S) : Calls Tryd.prog 26 #[.pointer (some ⟨p, 0, none⟩)] w (TimP w p { S with left := 0 }) := by
  obtain ⟨t, ht, h2, h3⟩ := rv_timer h 0
  obtain rfl : t = false := ht
  obtain ⟨PV, c0, h⟩ := h
  have y3 : w.cell? ⟨p, 3, none⟩ = some (.bool (decide (0 < S.left))) := by rw [cell_of_row w _ _ _ _ _ h.row]; exact h.v3
  have y4 : w.cell? ⟨p, 4, none⟩ = some (.int .i64 S.left) := by rw [cell_of_row w _ _ _ _ _ h.row]; exact h.v4
  have yf : ∀ i, w.frozen? ⟨p, i, none⟩ = false := fun i => by simp [World.frozen?, h.row]
  have yf3 := yf 3
  have yf4 := yf 4
  have HE : Hid (RvE ((w.setCell ⟨p, 3, none⟩ (.bool false)).setCell ⟨p, 4, none⟩ (.int .i64 0)) p { S with left := 0 } ∧ ButOne p w ((w.setCell ⟨p, 3, none⟩ (.bool false)).setCell ⟨p, 4, none⟩ (.int .i64 0))) := ⟨h2, h3⟩
  obtain ⟨B, hB⟩ : ∃ b, decide (0 < S.left) = b := ⟨_, rfl⟩
  rw [hB] at y3
  clear h h2 h3 yf hB
  go_enter Tryd.func26, Tryd.ntmps26
  go_wp2
  first | go_end0 | refine bodyPost_end (results_none rfl _ _ _) rfl ?_ | refine bodyPost_ret (results_none rfl _ _ _) rfl ?_
  exact ⟨rfl, HE.out⟩
set_option maxRecDepth 100000 in
theorem start_any (w : World) (p : Nat) (S : Prov) (ha : 1 ≤ S.art) (h : RvE w p S) : Calls Tryd.prog 44 #[.pointer (some ⟨p, 0, none⟩)] w (TimP w p { S with left := S.art }) := by
  obtain ⟨A, lf, st, ak, K⟩ := S
  simp only at ha ⊢
  obtain ⟨t, ht, h2, h3⟩ := rv_timer h A
  obtain rfl : t = true := by rw [ht]; simp; omega
  obtain ⟨PV, c0, h⟩ := h
  have y0 : w.cell? ⟨p, 0, none⟩ = some (.int .i64 A) := by rw [cell_of_row w _ _ _ _ _ h.row]; exact h.v0
  have y3 : w.cell? ⟨p, 3, none⟩ = some (.bool (decide (0 < lf))) := by rw [cell_of_row w _ _ _ _ _ h.row]; exact h.v3
  have y4 : w.cell? ⟨p, 4, none⟩ = some (.int .i64 lf) := by rw [cell_of_row w _ _ _ _ _ h.row]; exact h.v4
  have yf : ∀ i, w.frozen? ⟨p, i, none⟩ = false := fun i => by simp [World.frozen?, h.row]
  have yf3 := yf 3
  have yf4 := yf 4
  have HE : Hid (RvE ((w.setCell ⟨p, 3, none⟩ (.bool true)).setCell ⟨p, 4, none⟩ (.int .i64 A)) p ⟨A, A, st, ak, K⟩ ∧ ButOne p w ((w.setCell ⟨p, 3, none⟩ (.bool true)).setCell ⟨p, 4, none⟩ (.int .i64 A))) := ⟨h2, h3⟩
  obtain ⟨B, hB⟩ : ∃ b, decide (0 < lf) = b := ⟨_, rfl⟩
  rw [hB] at y3
  clear h h2 h3 yf hB ht ha
  go_enter Tryd.func44, Tryd.ntmps44
  go_wp2
  first | go_end0 | refine bodyPost_end (results_none rfl _ _ _) rfl ?_ | refine bodyPost_ret (results_none rfl _ _ _) rfl ?_
  exact ⟨rfl, HE.out⟩

/-- An act that the document's send and tell give. -/
def SendP (w : World) (x y k : Int) (c : Fin 18 → Value) (D : PdD) (e : Ending) (w' : World) : Prop :=
  ∃ c2, e = .returned (.agg (Ac x y k c2)) ∧ OX w.heap.size w' c2 D ∧ SameC c c2 ∧ Below w.heap.size w w'
end Go.Proofs.YtiieikdbhpflgabDoor

/-
  DERIVED. The document's send, tell, shut.
-/
namespace Go.Proofs.YtiieikdbhpflgabDoor
open Go Go.Proofs Go.RowKit

theorem setRow_other (W : World) (g : Nat) (vs : Array Value) (b : Nat) (hb : b ≠ g) : (W.setRow g vs).heap[b]? = W.heap[b]? := by
  show (W.heap.modify g _)[b]? = _
  rw [Array.getElem?_modify]
  rw [if_neg (Ne.symm hb)]
set_option maxRecDepth 100000 in
set_option maxHeartbeats 2000000 in
theorem rsend_any (w : World) (k : Int) (c : Fin 18 → Value) (D : PdD) (hR : RX w c D) : Calls Tryd.prog 41 #[.agg (Pd k c)] w (SendP w 3 0 k c D) := by
  have hs4 : (Tryd.prog.info? 46).map (·.size) = some (Pd k c).size := size40' k c
  obtain ⟨fs, hu⟩ := hu40
  obtain ⟨fs5, hu5⟩ := hu57
  obtain ⟨P2, hP2⟩ : ∃ P2, Pd k c = P2 := ⟨_, rfl⟩
  rw [hP2] at hs4 ⊢
  obtain ⟨W2, hW2⟩ : ∃ W2, (w.alloc (.cells P2 46)).alloc (.cells #[.int .i64 0, .int .i64 0, .int .i64 0, .int .u16 0, .string ⟨#[]⟩, .string ⟨#[]⟩, .string ⟨#[]⟩, .slice none 0 0, .bool false, .int .u32 0, .string ⟨#[]⟩, .string ⟨#[]⟩, .bool false, .int .u16 0, .int .u16 0, .slice none 0 0, .slice none 0 0, .int .u8 0, .int .u8 0, .int .u8 0, .slice none 0 0] 61) = W2 := ⟨_, rfl⟩
  have hg1 : W2.heap[w.heap.size]? = some (.cells P2 46) := by rw [← hW2]; exact (Below.heap_alloc _ _ _ (by simp)).trans (alloc_new w _)
  obtain ⟨Z, hg2, hZs⟩ : ∃ Z : Array Value, W2.heap[w.heap.size + 1]? = some (.cells Z 61) ∧ Z.size = 21 := by
    refine ⟨#[.int .i64 0, .int .i64 0, .int .i64 0, .int .u16 0, .string ⟨#[]⟩, .string ⟨#[]⟩, .string ⟨#[]⟩, .slice none 0 0, .bool false, .int .u32 0, .string ⟨#[]⟩, .string ⟨#[]⟩, .bool false, .int .u16 0, .int .u16 0, .slice none 0 0, .slice none 0 0, .int .u8 0, .int .u8 0, .int .u8 0, .slice none 0 0], ?_, rfl⟩
    have := alloc_new (w.alloc (.cells P2 46)) (.cells #[.int .i64 0, .int .i64 0, .int .i64 0, .int .u16 0, .string ⟨#[]⟩, .string ⟨#[]⟩, .string ⟨#[]⟩, .slice none 0 0, .bool false, .int .u32 0, .string ⟨#[]⟩, .string ⟨#[]⟩, .bool false, .int .u16 0, .int .u16 0, .slice none 0 0, .slice none 0 0, .int .u8 0, .int .u8 0, .int .u8 0, .slice none 0 0] 61)
    rw [← hW2]
    simpa using this
  have hb2 : Below w.heap.size w W2 := by rw [← hW2]; exact ((Below.refl _ _).alloc (Nat.le_refl _) _).alloc (by simp) _
  have hcp := copyx_any W2 k c D (hR.on hb2)
  rw [hP2] at hcp
  have HB2 : Hid (Below w.heap.size w W2 ∧ W2.heap[w.heap.size + 1]? = some (.cells Z 61)) := ⟨hb2, hg2⟩
  clear hb2 hg2 hP2 hR
  go_enter Tryd.func41, Tryd.ntmps41
  go_wp2_with (first | (refine wpList_load_row rfl 46 (.tmp 1) rfl w.heap.size rfl 46 P2 (0, 0) _ hg1 hu rfl hs4 ?_) | (go_at_call 20; refine hcp.mono ?_; refine Stop9.mk ?_))
  rintro x W3 ⟨c2, rfl, hox, hsc, hb3⟩
  have hlt : w.heap.size + 1 < W2.heap.size := (Array.getElem?_eq_some_iff.1 HB2.out.2).1
  have hg3 := (hb3.block _ hlt).trans HB2.out.2
  have hb := ac_sent 3 k c2
  have hs := ac_size 3 0 k c2
  have h1 := ac_one 3 0 k c2 hox.one
  have hl := ac_len 3 0 k c2
  have hsz : Z.size = (Ac 3 0 k c2).size := hZs.trans hl.symm
  have hh := setRow_heap W3 (w.heap.size + 1) _ (Ac 3 0 k c2) 61 _ hg3
  have hld := run_loadVar_row (P := Tryd.prog) _ _ _ 61 _ _ _ hh hu5 rfl hs
  have HF : Hid (SendP w 3 0 k c D (.returned (.agg (Ac 3 0 k c2))) (W3.setRow (w.heap.size + 1) (Ac 3 0 k c2))) := by
    have hb4 : Below (w.heap.size + 1) W3 (W3.setRow (w.heap.size + 1) (Ac 3 0 k c2)) := below_setRow (Below.refl _ _) (Nat.le_refl _) _
    refine ⟨c2, rfl, ?_, hsc, (HB2.out.1.trans (hb3.mono HB2.out.1.size)).trans (hb4.mono (by omega))⟩
    refine (hox.keep fun b hb _ => ?_).low HB2.out.1.size
    exact (setRow_other W3 _ _ b (by omega))
  clear hox hsc hb3 hlt hcp hg1 hl hZs hh
  generalize Ac 3 0 k c2 = RQ at hb hs h1 hsz hld HF
  generalize Pd k c2 = P3 at hb ⊢
  go_wp2_with (first | (refine step_build rfl 61 _ rfl RQ (by simp [Act.eval]; exact hb) ?_) | (refine wpList_store_row rfl 61 (.tmp 2) (.tmp 5) rfl (w.heap.size + 1) RQ rfl rfl 61 _ hg3 hs hsz h1 ?_))
  exact bodyPost_ret (v := .agg RQ) (res_cell (k := 2) Tryd.results41 (by kernel_rfl) hld) rfl HF.out
set_option maxRecDepth 100000 in
set_option maxHeartbeats 2000000 in
theorem rtell_any (w : World) (t : Int) (k : Int) (c : Fin 18 → Value) (D : PdD) (hR : RX w c D) : Calls Tryd.prog 42 #[.int .i64 t, .agg (Pd k c)] w (SendP w 5 t k c D) := by
  have hs4 : (Tryd.prog.info? 46).map (·.size) = some (Pd k c).size := size40' k c
  obtain ⟨fs, hu⟩ := hu40
  obtain ⟨fs5, hu5⟩ := hu57
  obtain ⟨P2, hP2⟩ : ∃ P2, Pd k c = P2 := ⟨_, rfl⟩
  rw [hP2] at hs4 ⊢
  obtain ⟨W2, hW2⟩ : ∃ W2, (w.alloc (.cells P2 46)).alloc (.cells #[.int .i64 0, .int .i64 0, .int .i64 0, .int .u16 0, .string ⟨#[]⟩, .string ⟨#[]⟩, .string ⟨#[]⟩, .slice none 0 0, .bool false, .int .u32 0, .string ⟨#[]⟩, .string ⟨#[]⟩, .bool false, .int .u16 0, .int .u16 0, .slice none 0 0, .slice none 0 0, .int .u8 0, .int .u8 0, .int .u8 0, .slice none 0 0] 61) = W2 := ⟨_, rfl⟩
  have hg1 : W2.heap[w.heap.size]? = some (.cells P2 46) := by rw [← hW2]; exact (Below.heap_alloc _ _ _ (by simp)).trans (alloc_new w _)
  obtain ⟨Z, hg2, hZs⟩ : ∃ Z : Array Value, W2.heap[w.heap.size + 1]? = some (.cells Z 61) ∧ Z.size = 21 := by
    refine ⟨#[.int .i64 0, .int .i64 0, .int .i64 0, .int .u16 0, .string ⟨#[]⟩, .string ⟨#[]⟩, .string ⟨#[]⟩, .slice none 0 0, .bool false, .int .u32 0, .string ⟨#[]⟩, .string ⟨#[]⟩, .bool false, .int .u16 0, .int .u16 0, .slice none 0 0, .slice none 0 0, .int .u8 0, .int .u8 0, .int .u8 0, .slice none 0 0], ?_, rfl⟩
    have := alloc_new (w.alloc (.cells P2 46)) (.cells #[.int .i64 0, .int .i64 0, .int .i64 0, .int .u16 0, .string ⟨#[]⟩, .string ⟨#[]⟩, .string ⟨#[]⟩, .slice none 0 0, .bool false, .int .u32 0, .string ⟨#[]⟩, .string ⟨#[]⟩, .bool false, .int .u16 0, .int .u16 0, .slice none 0 0, .slice none 0 0, .int .u8 0, .int .u8 0, .int .u8 0, .slice none 0 0] 61)
    rw [← hW2]
    simpa using this
  have hb2 : Below w.heap.size w W2 := by rw [← hW2]; exact ((Below.refl _ _).alloc (Nat.le_refl _) _).alloc (by simp) _
  have hcp := copyx_any W2 k c D (hR.on hb2)
  rw [hP2] at hcp
  have HB2 : Hid (Below w.heap.size w W2 ∧ W2.heap[w.heap.size + 1]? = some (.cells Z 61)) := ⟨hb2, hg2⟩
  clear hb2 hg2 hP2 hR
  go_enter Tryd.func42, Tryd.ntmps42
  go_wp2_with (first | (refine wpList_load_row rfl 46 (.tmp 3) rfl w.heap.size rfl 46 P2 (0, 0) _ hg1 hu rfl hs4 ?_) | (go_at_call 20; refine hcp.mono ?_; refine Stop9.mk ?_))
  rintro x W3 ⟨c2, rfl, hox, hsc, hb3⟩
  have hlt : w.heap.size + 1 < W2.heap.size := (Array.getElem?_eq_some_iff.1 HB2.out.2).1
  have hg3 := (hb3.block _ hlt).trans HB2.out.2
  have hb := ac_told 5 t k c2
  have hs := ac_size 5 t k c2
  have h1 := ac_one 5 t k c2 hox.one
  have hl := ac_len 5 t k c2
  have hsz : Z.size = (Ac 5 t k c2).size := hZs.trans hl.symm
  have hh := setRow_heap W3 (w.heap.size + 1) _ (Ac 5 t k c2) 61 _ hg3
  have hld := run_loadVar_row (P := Tryd.prog) _ _ _ 61 _ _ _ hh hu5 rfl hs
  have HF : Hid (SendP w 5 t k c D (.returned (.agg (Ac 5 t k c2))) (W3.setRow (w.heap.size + 1) (Ac 5 t k c2))) := by
    have hb4 : Below (w.heap.size + 1) W3 (W3.setRow (w.heap.size + 1) (Ac 5 t k c2)) := below_setRow (Below.refl _ _) (Nat.le_refl _) _
    refine ⟨c2, rfl, ?_, hsc, (HB2.out.1.trans (hb3.mono HB2.out.1.size)).trans (hb4.mono (by omega))⟩
    refine (hox.keep fun b hb _ => ?_).low HB2.out.1.size
    exact (setRow_other W3 _ _ b (by omega))
  clear hox hsc hb3 hlt hcp hg1 hl hZs hh
  generalize Ac 5 t k c2 = RQ at hb hs h1 hsz hld HF
  generalize Pd k c2 = P3 at hb ⊢
  go_wp2_with (first | (refine step_build rfl 61 _ rfl RQ (by simp [Act.eval]; exact hb) ?_) | (refine wpList_store_row rfl 61 (.tmp 4) (.tmp 8) rfl (w.heap.size + 1) RQ rfl rfl 61 _ hg3 hs hsz h1 ?_))
  exact bodyPost_ret (v := .agg RQ) (res_cell (k := 4) Tryd.results42 (by kernel_rfl) hld) rfl HF.out
set_option maxRecDepth 100000 in
theorem rshut_any (w : World) : Calls Tryd.prog 43 #[] w fun x w' => x = .returned (.agg (Ac 4 0 0 zc)) ∧ Below w.heap.size w w' := by
  have hb := ac_zero 4
  have hs := ac_size 4 0 0 zc
  have h1 := ac_one 4 0 0 zc zc_one
  have hl := ac_len 4 0 0 zc
  obtain ⟨fs5, hu5⟩ := hu57
  obtain ⟨W2, hW2⟩ : ∃ W2, w.alloc (.cells #[.int .i64 0, .int .i64 0, .int .i64 0, .int .u16 0, .string ⟨#[]⟩, .string ⟨#[]⟩, .string ⟨#[]⟩, .slice none 0 0, .bool false, .int .u32 0, .string ⟨#[]⟩, .string ⟨#[]⟩, .bool false, .int .u16 0, .int .u16 0, .slice none 0 0, .slice none 0 0, .int .u8 0, .int .u8 0, .int .u8 0, .slice none 0 0] 61) = W2 := ⟨_, rfl⟩
  obtain ⟨Z, hg2, hZs⟩ : ∃ Z : Array Value, W2.heap[w.heap.size]? = some (.cells Z 61) ∧ Z.size = 21 := by
    refine ⟨#[.int .i64 0, .int .i64 0, .int .i64 0, .int .u16 0, .string ⟨#[]⟩, .string ⟨#[]⟩, .string ⟨#[]⟩, .slice none 0 0, .bool false, .int .u32 0, .string ⟨#[]⟩, .string ⟨#[]⟩, .bool false, .int .u16 0, .int .u16 0, .slice none 0 0, .slice none 0 0, .int .u8 0, .int .u8 0, .int .u8 0, .slice none 0 0], ?_, rfl⟩
    rw [← hW2]
    exact alloc_new w _
  have hsz : Z.size = (Ac 4 0 0 zc).size := hZs.trans hl.symm
  have hh := setRow_heap W2 w.heap.size _ (Ac 4 0 0 zc) 61 _ hg2
  have hld := run_loadVar_row (P := Tryd.prog) _ _ _ 61 _ _ _ hh hu5 rfl hs
  have hb2 : Below w.heap.size w W2 := by rw [← hW2]; exact (Below.refl _ _).alloc (Nat.le_refl _) _
  have HF : Hid (Below w.heap.size w (W2.setRow w.heap.size (Ac 4 0 0 zc))) := below_setRow hb2 (Nat.le_refl _) _
  generalize Ac 4 0 0 zc = RQ at hb hs h1 hsz hld HF ⊢
  clear hl hZs hh hb2
  go_enter Tryd.func43, Tryd.ntmps43
  go_wp2_with (first | (refine step_build rfl 61 _ rfl RQ (by simp [Act.eval]; exact hb) ?_) | (refine wpList_store_row rfl 61 (.tmp 0) (.tmp 1) rfl w.heap.size RQ rfl rfl 61 _ hg2 hs hsz h1 ?_))
  exact bodyPost_ret (v := .agg RQ) (res_cell (k := 0) Tryd.results43 (by kernel_rfl) hld) rfl ⟨rfl, HF.out⟩
end Go.Proofs.YtiieikdbhpflgabDoor

/-
  DERIVED. What the document's provider does: the frame.
-/
namespace Go.Proofs.YtiieikdbhpflgabDoor
open Go Go.Proofs Go.RowKit

/-- These acts lie there, in memory from B on, each with a PDU of its own. -/
def AX (B : Nat) (W : World) (v : Value) (L : List AcD) : Prop :=
  (L = [] ∧ v = .slice none 0 0) ∨ (L ≠ [] ∧ ∃ g cap Q, v = .slice (some ⟨g, 0, none⟩) L.length cap ∧ L.length ≤ cap ∧ B ≤ g ∧ W.heap[g]? = some (.cells Q 61) ∧ ∀ i (h : i < L.length), ∃ c', (∀ j u, (Ac L[i].x L[i].y L[i].k c').toList[j]? = some u → Q[i * 21 + j]? = some u) ∧ OX B W c' L[i].D ∧ SameC L[i].c c')
theorem AX.keep {B : Nat} {W W' : World} {v : Value} {L : List AcD} (h : AX B W v L) (hk : ∀ b, B ≤ b → b < W.heap.size → W'.heap[b]? = W.heap[b]?) : AX B W' v L := by
  rcases h with h | ⟨h0, g, cap, Q, h1, h2, h3, h4, h5⟩
  · exact .inl h
  · exact .inr ⟨h0, g, cap, Q, h1, h2, h3, (hk g h3 (Array.getElem?_eq_some_iff.1 h4).1).trans h4, fun i hi => by
      obtain ⟨c', a1, a2, a3⟩ := h5 i hi
      exact ⟨c', a1, a2.keep hk, a3⟩⟩
theorem AX.low {B B' : Nat} {W : World} {v : Value} {L : List AcD} (h : AX B W v L) (hb : B' ≤ B) : AX B' W v L := by
  rcases h with h | ⟨h0, g, cap, Q, h1, h2, h3, h4, h5⟩
  · exact .inl h
  · exact .inr ⟨h0, g, cap, Q, h1, h2, Nat.le_trans hb h3, h4, fun i hi => by
      obtain ⟨c', a1, a2, a3⟩ := h5 i hi
      exact ⟨c', a1, a2.low hb, a3⟩⟩
theorem ax_one {B : Nat} {W W' : World} {x y k : Int} {c c2 : Fin 18 → Value} {D : PdD} {RQ : Array Value} (hR : Ac x y k c2 = RQ) (h1 : OX B W c2 D) (h2 : SameC c c2) (hB : B ≤ W.heap.size) (hW : W' = W.alloc (.cells RQ 61)) : AX B W' (.slice (some ⟨W.heap.size, 0, none⟩) 1 1) [⟨x, y, k, c, D⟩] := by
  subst hW hR
  refine .inr ⟨by simp, _, 1, _, rfl, Nat.le_refl _, hB, alloc_new _ _, fun i hi => ?_⟩
  obtain rfl : i = 0 := by simpa using hi
  exact ⟨c2, fun j u hu => by simpa using hu, h1.keep fun b _ hb => (((Below.refl W.heap.size W).alloc (Nat.le_refl _) _).block b hb), h2⟩
theorem ax_two {B : Nat} {W W' : World} {x y k x2 y2 k2 : Int} {c c2 c' c2' : Fin 18 → Value} {D D' : PdD} {RQ R2 : Array Value} (hR : Ac x y k c2 = RQ) (hR2 : Ac x2 y2 k2 c2' = R2) (h1 : OX B W c2 D) (h2 : SameC c c2) (h1' : OX B W c2' D') (h2' : SameC c' c2') (hB : B ≤ W.heap.size) (hW : W' = W.alloc (.cells (RQ ++ R2) 61)) : AX B W' (.slice (some ⟨W.heap.size, 0, none⟩) 2 2) [⟨x, y, k, c, D⟩, ⟨x2, y2, k2, c', D'⟩] := by
  subst hW hR hR2
  have hk : ∀ b, B ≤ b → b < W.heap.size → (W.alloc (.cells (Ac x y k c2 ++ Ac x2 y2 k2 c2') 61)).heap[b]? = W.heap[b]? := fun b _ hb => (((Below.refl W.heap.size W).alloc (Nat.le_refl _) _).block b hb)
  have hl := ac_len x y k c2
  refine .inr ⟨by simp, _, 2, _, rfl, Nat.le_refl _, hB, alloc_new _ _, fun i hi => ?_⟩
  match i, hi with
  | 0, _ => exact ⟨c2, fun j u hu => by
      have hu' : (Ac x y k c2)[j]? = some u := by simpa using hu
      rw [Nat.zero_mul, Nat.zero_add, Array.getElem?_append_left (Array.getElem?_eq_some_iff.1 hu').1]
      exact hu', h1.keep hk, h2⟩
  | 1, _ => exact ⟨c2', fun j u hu => by
      have hu' : (Ac x2 y2 k2 c2')[j]? = some u := by simpa using hu
      rw [Nat.one_mul, Array.getElem?_append_right (by omega), hl, show 21 + j - 21 = j by omega]
      exact hu', h1'.keep hk, h2'⟩
  | n + 2, h => exact absurd h (by simp)
/-- The document's provider behind what it does, its state aside. -/
def rS (n : Nat) (S : Prov) (d : EvD) : Prov :=
  ⟨S.art, if timerA (whichA n S.asked d.bad) = 1 then S.art else if timerA (whichA n S.asked d.bad) = 2 then 0 else S.left, S.sta, if n = 1 then true else if n = 5 then false else S.asked, if n = 1 then d.p else S.K⟩
def RActP (n : Nat) (w : World) (p : Nat) (S : Prov) (d : EvD) (x : Ending) (w' : World) : Prop :=
  ∃ v, x = .returned v ∧ AX w.heap.size w' v (actsN n S d) ∧ RvE w' p (rS n S d) ∧ BelBut p w w'
theorem BelBut.refl (p : Nat) (w : World) : BelBut p w w := .of (Below.refl _ _)
/-- What stands while the document's acts is under way. -/
structure Fr (w : World) (p : Nat) (EV : Array Value) (S : Prov) (d : EvD) (W : World) : Prop where
  rv : RvE W p S
  ev : W.heap[w.heap.size]? = some (.cells EV 48)
  no : W.heap[w.heap.size + 1]? = some (.cells (Pd 0 zc) 46)
  y : EvY W EV d
  but : BelBut p w W
  lo : p < w.heap.size
  all : ∀ W', BelBut p w W' → EvY W' EV d
theorem Fr.on {w : World} {p : Nat} {EV : Array Value} {S : Prov} {d : EvD} {W W' : World} (h : Fr w p EV S d W) (hb : Below W.heap.size W W') : Fr w p EV S d W' :=
  ⟨h.rv.on hb, (hb.block _ (Array.getElem?_eq_some_iff.1 h.ev).1).trans h.ev, (hb.block _ (Array.getElem?_eq_some_iff.1 h.no).1).trans h.no, h.y.on hb, h.but.trans (.of hb), h.lo, h.all⟩
theorem Fr.tim {w : World} {p : Nat} {EV : Array Value} {S S' : Prov} {d : EvD} {W W' : World} (h : Fr w p EV S d W) (h1 : RvE W' p S') (h2 : ButOne p W W') : Fr w p EV S' d W' :=
  ⟨h1, (h2.heap _ (by have := h.lo; omega)).trans h.ev, (h2.heap _ (by have := h.lo; omega)).trans h.no, h.all _ (h.but.trans h2.but), h.but.trans h2.but, h.lo, h.all⟩
theorem Fr.ranp {w : World} {p : Nat} {EV : Array Value} {S : Prov} {d : EvD} {W : World} (h : Fr w p EV S d W) : W.rangeAt w.heap.size 1 (Pd d.p.k d.p.c).toList := fun j v hv => by rw [cell_of_row W _ _ _ _ _ h.ev]; exact h.y.ev.pdu j v hv
theorem Fr.rana {w : World} {p : Nat} {EV : Array Value} {S : Prov} {d : EvD} {W : World} (h : Fr w p EV S d W) : W.rangeAt w.heap.size 21 (Pd d.a.k d.a.c).toList := fun j v hv => by rw [cell_of_row W _ _ _ _ _ h.ev]; exact h.y.ev.ans j v hv
theorem pd0_z : (#[.int .i64 0, .int .u16 0, .string ⟨#[]⟩, .string ⟨#[]⟩, .string ⟨#[]⟩, .slice none 0 0, .bool false, .int .u32 0, .string ⟨#[]⟩, .string ⟨#[]⟩, .bool false, .int .u16 0, .int .u16 0, .slice none 0 0, .slice none 0 0, .int .u8 0, .int .u8 0, .int .u8 0, .slice none 0 0] : Array Value).size = (Pd 0 zc).size := by kernel_rfl
theorem BelBut.sz2 {p : Nat} {w w' : World} (h : BelBut p w w') : w.heap.size ≤ w'.heap.size := h.size
end Go.Proofs.YtiieikdbhpflgabDoor
