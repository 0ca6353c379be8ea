import Derived.Test.YtiieikdbhpflgabDoorN
import Derived.Deep.MidRow
/-
  DERIVED. An event that is lent.
-/
namespace Go.Proofs.YtiieikdbhpflgabDoor
open Go Go.Proofs Go.RowKit

/-- Cells written into a row: the row is there still. -/
theorem setCells_row {g : Nat} {t : TypeId} : ∀ (vs : List Value) (o : Nat) (W : World) (Q : Array Value), W.heap[g]? = some (.cells Q t (0, 0)) → (∀ v ∈ vs, v.oneCell' = true) → Q.all (·.oneCell') = true → 0 < o →
    ∃ Q', (W.setCells g o vs).heap[g]? = some (.cells Q' t (0, 0)) ∧ Q'.size = Q.size ∧ Q'[0]? = Q[0]? ∧ Q'.all (·.oneCell') = true ∧ (∀ j, j ≠ g → (W.setCells g o vs).heap[j]? = W.heap[j]?) ∧ (∀ B, B ≤ g → Below B W (W.setCells g o vs)) ∧ (W.setCells g o vs).heap.size = W.heap.size
  | [], _, W, Q, h, _, hq, _ => ⟨Q, h, rfl, rfl, hq, fun _ _ => rfl, fun _ _ => Below.refl _ _, rfl⟩
  | v :: vs, o, W, Q, h, hv, hq, ho => by
    have he := setCell_eq_setRow W g o Q t (0, 0) v h
    have h1 : (W.setCell ⟨g, o, none⟩ v).heap[g]? = some (.cells (Q.setIfInBounds o v) t (0, 0)) := by rw [he]; exact setRow_heap W g Q _ t _ h
    have hq1 : (Q.setIfInBounds o v).all (·.oneCell') = true := by
      rw [Array.all_eq_true_iff_forall_mem] at hq ⊢
      intro u hu
      rcases Array.mem_or_eq_of_mem_setIfInBounds hu with h | h
      · exact hq u h
      · rw [h]; exact hv v (by simp)
    obtain ⟨Q', a1, a2, a3, a4, a5, a6, a7⟩ := setCells_row vs (o + 1) _ _ h1 (fun u hu => hv u (by simp [hu])) hq1 (by omega)
    refine ⟨Q', a1, by rw [a2]; simp, by rw [a3, Array.getElem?_setIfInBounds_ne (by omega)], a4, fun j hj => (a5 j hj).trans (Below.heap_setCell _ _ _ _ hj), fun B hB => ((Below.refl B W).setCell (p := ⟨g, o, none⟩) hB v).trans (a6 B hB), by rw [World.setCells, a7]; simp⟩

theorem there_row {W : World} {g : Nat} {t : TypeId} {Q : Array Value} (h : W.heap[g]? = some (.cells Q t (0, 0))) (o n : Nat) (hn : o + n ≤ Q.size) : W.there g o n := fun j hj => by
  constructor
  · rw [cell_of_row W g _ Q t _ h]
    rw [Array.getElem?_eq_getElem (by omega)]
    rfl
  · simp [World.frozen?, h]

/-- What stands between two steps: the event that came, where the answer goes, the copy. -/
structure LI (w : World) (kd : Value) (EV Z Q : Array Value) (W : World) : Prop where
  below : Below w.heap.size w W
  p : W.heap[w.heap.size]? = some (.cells EV 48)
  r : W.heap[w.heap.size + 1]? = some (.cells Z 48)
  q : W.heap[w.heap.size + 1 + 1]? = some (.cells Q 48)
  sz : Q.size = 41
  k0 : Q[0]? = some kd
  one : Q.all (·.oneCell') = true
theorem LI.size {w W : World} {kd : Value} {EV Z Q : Array Value} (h : LI w kd EV Z Q W) : w.heap.size + 3 ≤ W.heap.size := (Array.getElem?_eq_some_iff.1 h.q).1
theorem LI.on {w W W' : World} {kd : Value} {EV Z Q : Array Value} (h : LI w kd EV Z Q W) (hb : Below (w.heap.size + 3) W W') : LI w kd EV Z Q W' :=
  ⟨h.below.trans (hb.mono (by omega)), (hb.block _ (by omega)).trans h.p, (hb.block _ (by omega)).trans h.r, (hb.block _ (by omega)).trans h.q, h.sz, h.k0, h.one⟩

/-- The cells of an event. -/
structure EvOK (w : World) (EV : Array Value) (kd : Int) (k1 : Int) (c1 : Fin 18 → Value) (k2 : Int) (c2 : Fin 18 → Value) : Prop where
  sz : EV.size = 41
  kd : EV[0]? = some (.int .i64 kd)
  one : EV.all (·.oneCell') = true
  pdu : ∀ j v, (Pd k1 c1).toList[j]? = some v → EV[1 + j]? = some v
  ans : ∀ j v, (Pd k2 c2).toList[j]? = some v → EV[21 + j]? = some v
  r1 : RP w c1
  r2 : RP w c2

/-- The values that are still to be lent. -/
def GT (B : Nat) (W : World) (a : Option Addr) (j n : Nat) : Prop :=
  ∀ i, j ≤ i → i < n → ∃ g v bs, a = some ⟨g, 0, none⟩ ∧ B ≤ g ∧ W.cell? ⟨g, i * 4 + 3, none⟩ = some v ∧ W.frozen? ⟨g, i * 4 + 3, none⟩ = false ∧ V W v bs ∧ bs.length ≤ 140737488351232 ∧ ∀ b, v.ownBlock = some b → b ≠ g ∧ B ≤ b ∧ b < W.heap.size
theorem GT.same {B : Nat} {W W' : World} {a : Option Addr} {j n : Nat} (h : GT B W a j n) (hs : W.heap.size ≤ W'.heap.size) (hk : ∀ b, B ≤ b → b < W.heap.size → W'.heap[b]? = W.heap[b]?) : GT B W' a j n := by
  intro i h1 h2
  obtain ⟨g, v, bs, e, hg, hc, hf, hV, hl, ho⟩ := h i h1 h2
  have hgl := cell_lt hc
  have heq := hk g hg hgl
  refine ⟨g, v, bs, e, hg, ?_, ?_, hV.same (fun b e => hk b (ho b e).2.1 (ho b e).2.2), hl, fun b e => ⟨(ho b e).1, (ho b e).2.1, Nat.lt_of_lt_of_le (ho b e).2.2 hs⟩⟩
  · unfold World.cell? at hc ⊢; rw [heq]; exact hc
  · unfold World.frozen? at hf ⊢; rw [heq]; exact hf
theorem GT.step {B : Nat} {W W9 : World} {g j n : Nat} {u : Value} (h : GT B W (some ⟨g, 0, none⟩) j n) (hb : Below W.heap.size W W9) : GT B (W9.setCell ⟨g, j * 4 + 3, none⟩ u) (some ⟨g, 0, none⟩) (j + 1) n := by
  intro i h1 h2
  obtain ⟨g', v, bs, e, hg, hc, hf, hV, hl, ho⟩ := h i (by omega) h2
  simp only [Option.some.injEq, Addr.mk.injEq, and_true] at e
  subst e
  have hgl : g < W.heap.size := cell_lt hc
  refine ⟨g, v, bs, rfl, hg, ?_, ?_, hV.same (fun b e => ?_), hl, fun b e => ⟨(ho b e).1, (ho b e).2.1, ?_⟩⟩
  · rw [cell_set_ne (by omega)]; exact (hb.cell (p := ⟨g, i * 4 + 3, none⟩) hgl).trans hc
  · rw [World.frozen?_setCell]; exact (hb.frozen (p := ⟨g, i * 4 + 3, none⟩) hgl).trans hf
  · rw [Below.heap_setCell _ _ _ _ (show b ≠ g from (ho b e).1)]; exact hb.block b (ho b e).2.2
  · have := hb.size; have := (ho b e).2.2; simp; omega
theorem GT.of {B : Nat} {W : World} {a : Option Addr} {p n : Nat} {xs : List Value} (ho : W.ownsRow B 78 4 (.slice a n p) n xs) (hg : GV B W (.slice a n p) n xs) : GT B W a 0 n := by
  intro i _ hi
  rcases ho.2 with ⟨_, h0⟩ | ⟨g, cap, cur, e, h1, h2, h3⟩
  · omega
  · obtain ⟨x, y, z, v, bs, e0, e1, e2, e3, hV, hl, hb⟩ := hg i hi
    simp only [Value.slice.injEq] at e
    obtain ⟨rfl, _, rfl⟩ := e
    refine ⟨g, v, bs, rfl, h1, (ho.cellAt _ (by omega)).trans e3, by simp [World.frozen?, h2], hV, hl, fun b e => ⟨fun e2 => (hb b e).2.2 (by rw [e2]; rfl), (hb b e).1, (hb b e).2.1⟩⟩
end Go.Proofs.YtiieikdbhpflgabDoor

/-
  DERIVED. An event that is lent: the walk.
-/
namespace Go.Proofs.YtiieikdbhpflgabDoor
open Go Go.Proofs Go.RowKit

def Stop9 (p : Prop) : Prop := p
theorem Stop9.mk {p : Prop} (h : p) : Stop9 p := h
theorem hu50 : ∃ fs, Tryd.prog.underlying 48 = some (.struct fs) := ⟨_, Tryd.underlying48⟩
theorem size50 : (Tryd.prog.info? 48).map (·.size) = some 41 := by kernel_rfl
theorem size40 (k : Int) (c : Fin 18 → Value) : (Tryd.prog.info? 46).map (·.size) = some (Pd k c).toList.length := by unfold Pd; kernel_rfl
theorem size40' (k : Int) (c : Fin 18 → Value) : (Tryd.prog.info? 46).map (·.size) = some (Pd k c).size := by unfold Pd; kernel_rfl

set_option maxRecDepth 100000 in
set_option maxHeartbeats 4000000 in
theorem lend_ev (w : World) (EV : Array Value) (kd k1 k2 : Int) (c1 c2 : Fin 18 → Value) (hE : EvOK w EV kd k1 c1 k2 c2) :
    Calls Tryd.prog 7 #[.agg EV] w fun e w' => ∃ Q, e = .returned (.agg Q) ∧ Q.size = 41 ∧ Q[0]? = some (.int .i64 kd) ∧ Below w.heap.size w w' := by
  have hsE : (Tryd.prog.info? 48).map (·.size) = some EV.size := by rw [hE.sz]; exact size50
  obtain ⟨W2, hW2⟩ : ∃ W2, ((w.alloc (.cells EV 48)).alloc (.cells #[.int .i64 0, .int .i64 0, .int .u16 0, .string ⟨#[]⟩, .string ⟨#[]⟩, .string ⟨#[]⟩, .slice none 0 0, .bool false, .int .u32 0, .string ⟨#[]⟩, .string ⟨#[]⟩, .bool false, .int .u16 0, .int .u16 0, .slice none 0 0, .slice none 0 0, .int .u8 0, .int .u8 0, .int .u8 0, .slice none 0 0, .bool false, .int .i64 0, .int .u16 0, .string ⟨#[]⟩, .string ⟨#[]⟩, .string ⟨#[]⟩, .slice none 0 0, .bool false, .int .u32 0, .string ⟨#[]⟩, .string ⟨#[]⟩, .bool false, .int .u16 0, .int .u16 0, .slice none 0 0, .slice none 0 0, .int .u8 0, .int .u8 0, .int .u8 0, .slice none 0 0, .int .u8 0] 48)).alloc (.cells #[.int .i64 0, .int .i64 0, .int .u16 0, .string ⟨#[]⟩, .string ⟨#[]⟩, .string ⟨#[]⟩, .slice none 0 0, .bool false, .int .u32 0, .string ⟨#[]⟩, .string ⟨#[]⟩, .bool false, .int .u16 0, .int .u16 0, .slice none 0 0, .slice none 0 0, .int .u8 0, .int .u8 0, .int .u8 0, .slice none 0 0, .bool false, .int .i64 0, .int .u16 0, .string ⟨#[]⟩, .string ⟨#[]⟩, .string ⟨#[]⟩, .slice none 0 0, .bool false, .int .u32 0, .string ⟨#[]⟩, .string ⟨#[]⟩, .bool false, .int .u16 0, .int .u16 0, .slice none 0 0, .slice none 0 0, .int .u8 0, .int .u8 0, .int .u8 0, .slice none 0 0, .int .u8 0] 48) = W2 := ⟨_, rfl⟩
  obtain ⟨W3, hW3⟩ : ∃ W3, W2.setRow (w.heap.size + 1 + 1) EV = W3 := ⟨_, rfl⟩
  have hgP : ((w.alloc (.cells EV 48)).alloc (.cells #[.int .i64 0, .int .i64 0, .int .u16 0, .string ⟨#[]⟩, .string ⟨#[]⟩, .string ⟨#[]⟩, .slice none 0 0, .bool false, .int .u32 0, .string ⟨#[]⟩, .string ⟨#[]⟩, .bool false, .int .u16 0, .int .u16 0, .slice none 0 0, .slice none 0 0, .int .u8 0, .int .u8 0, .int .u8 0, .slice none 0 0, .bool false, .int .i64 0, .int .u16 0, .string ⟨#[]⟩, .string ⟨#[]⟩, .string ⟨#[]⟩, .slice none 0 0, .bool false, .int .u32 0, .string ⟨#[]⟩, .string ⟨#[]⟩, .bool false, .int .u16 0, .int .u16 0, .slice none 0 0, .slice none 0 0, .int .u8 0, .int .u8 0, .int .u8 0, .slice none 0 0, .int .u8 0] 48)).heap[w.heap.size]? = some (.cells EV 48) := (Below.heap_alloc _ _ _ (by simp)).trans (alloc_new w _)
  have hgQ : W2.heap[w.heap.size + 1 + 1]? = some (.cells #[.int .i64 0, .int .i64 0, .int .u16 0, .string ⟨#[]⟩, .string ⟨#[]⟩, .string ⟨#[]⟩, .slice none 0 0, .bool false, .int .u32 0, .string ⟨#[]⟩, .string ⟨#[]⟩, .bool false, .int .u16 0, .int .u16 0, .slice none 0 0, .slice none 0 0, .int .u8 0, .int .u8 0, .int .u8 0, .slice none 0 0, .bool false, .int .i64 0, .int .u16 0, .string ⟨#[]⟩, .string ⟨#[]⟩, .string ⟨#[]⟩, .slice none 0 0, .bool false, .int .u32 0, .string ⟨#[]⟩, .string ⟨#[]⟩, .bool false, .int .u16 0, .int .u16 0, .slice none 0 0, .slice none 0 0, .int .u8 0, .int .u8 0, .int .u8 0, .slice none 0 0, .int .u8 0] 48) := by
    rw [← hW2]
    have := alloc_new ((w.alloc (.cells EV 48)).alloc (.cells #[.int .i64 0, .int .i64 0, .int .u16 0, .string ⟨#[]⟩, .string ⟨#[]⟩, .string ⟨#[]⟩, .slice none 0 0, .bool false, .int .u32 0, .string ⟨#[]⟩, .string ⟨#[]⟩, .bool false, .int .u16 0, .int .u16 0, .slice none 0 0, .slice none 0 0, .int .u8 0, .int .u8 0, .int .u8 0, .slice none 0 0, .bool false, .int .i64 0, .int .u16 0, .string ⟨#[]⟩, .string ⟨#[]⟩, .string ⟨#[]⟩, .slice none 0 0, .bool false, .int .u32 0, .string ⟨#[]⟩, .string ⟨#[]⟩, .bool false, .int .u16 0, .int .u16 0, .slice none 0 0, .slice none 0 0, .int .u8 0, .int .u8 0, .int .u8 0, .slice none 0 0, .int .u8 0] 48)) (.cells #[.int .i64 0, .int .i64 0, .int .u16 0, .string ⟨#[]⟩, .string ⟨#[]⟩, .string ⟨#[]⟩, .slice none 0 0, .bool false, .int .u32 0, .string ⟨#[]⟩, .string ⟨#[]⟩, .bool false, .int .u16 0, .int .u16 0, .slice none 0 0, .slice none 0 0, .int .u8 0, .int .u8 0, .int .u8 0, .slice none 0 0, .bool false, .int .i64 0, .int .u16 0, .string ⟨#[]⟩, .string ⟨#[]⟩, .string ⟨#[]⟩, .slice none 0 0, .bool false, .int .u32 0, .string ⟨#[]⟩, .string ⟨#[]⟩, .bool false, .int .u16 0, .int .u16 0, .slice none 0 0, .slice none 0 0, .int .u8 0, .int .u8 0, .int .u8 0, .slice none 0 0, .int .u8 0] 48)
    simpa using this
  have HL3 : Hid (LI w (.int .i64 kd) EV #[.int .i64 0, .int .i64 0, .int .u16 0, .string ⟨#[]⟩, .string ⟨#[]⟩, .string ⟨#[]⟩, .slice none 0 0, .bool false, .int .u32 0, .string ⟨#[]⟩, .string ⟨#[]⟩, .bool false, .int .u16 0, .int .u16 0, .slice none 0 0, .slice none 0 0, .int .u8 0, .int .u8 0, .int .u8 0, .slice none 0 0, .bool false, .int .i64 0, .int .u16 0, .string ⟨#[]⟩, .string ⟨#[]⟩, .string ⟨#[]⟩, .slice none 0 0, .bool false, .int .u32 0, .string ⟨#[]⟩, .string ⟨#[]⟩, .bool false, .int .u16 0, .int .u16 0, .slice none 0 0, .slice none 0 0, .int .u8 0, .int .u8 0, .int .u8 0, .slice none 0 0, .int .u8 0] EV W3) := by
    have hb2 : Below w.heap.size w W2 := hW2 ▸ ((((Below.refl _ _).alloc (Nat.le_refl _) _).alloc (by simp) _).alloc (by simp; omega) _)
    have ho : ∀ j, j ≠ w.heap.size + 1 + 1 → W3.heap[j]? = W2.heap[j]? := fun j hj => by
      rw [← hW3]
      unfold World.setRow
      show (W2.heap.modify _ _)[j]? = _
      rw [Array.getElem?_modify, if_neg (Ne.symm hj)]
    refine ⟨hW3 ▸ below_setRow hb2 (by omega) _, (ho _ (by omega)).trans ?_, (ho _ (by omega)).trans ?_, hW3 ▸ setRow_heap W2 _ _ _ _ _ hgQ, hE.sz, hE.kd, hE.one⟩
    · rw [← hW2]; exact (Below.heap_alloc _ _ _ (by simp; omega)).trans hgP
    · rw [← hW2]
      have := alloc_new (w.alloc (.cells EV 48)) (.cells #[.int .i64 0, .int .i64 0, .int .u16 0, .string ⟨#[]⟩, .string ⟨#[]⟩, .string ⟨#[]⟩, .slice none 0 0, .bool false, .int .u32 0, .string ⟨#[]⟩, .string ⟨#[]⟩, .bool false, .int .u16 0, .int .u16 0, .slice none 0 0, .slice none 0 0, .int .u8 0, .int .u8 0, .int .u8 0, .slice none 0 0, .bool false, .int .i64 0, .int .u16 0, .string ⟨#[]⟩, .string ⟨#[]⟩, .string ⟨#[]⟩, .slice none 0 0, .bool false, .int .u32 0, .string ⟨#[]⟩, .string ⟨#[]⟩, .bool false, .int .u16 0, .int .u16 0, .slice none 0 0, .slice none 0 0, .int .u8 0, .int .u8 0, .int .u8 0, .slice none 0 0, .int .u8 0] 48)
      exact (Below.heap_alloc _ _ _ (by simp)).trans (by simpa using this)
  have hone := hE.one
  obtain ⟨fs, hu⟩ := hu50
  obtain ⟨fs4, hu4⟩ := hu40
  have hold : (#[.int .i64 0, .int .i64 0, .int .u16 0, .string ⟨#[]⟩, .string ⟨#[]⟩, .string ⟨#[]⟩, .slice none 0 0, .bool false, .int .u32 0, .string ⟨#[]⟩, .string ⟨#[]⟩, .bool false, .int .u16 0, .int .u16 0, .slice none 0 0, .slice none 0 0, .int .u8 0, .int .u8 0, .int .u8 0, .slice none 0 0, .bool false, .int .i64 0, .int .u16 0, .string ⟨#[]⟩, .string ⟨#[]⟩, .string ⟨#[]⟩, .slice none 0 0, .bool false, .int .u32 0, .string ⟨#[]⟩, .string ⟨#[]⟩, .bool false, .int .u16 0, .int .u16 0, .slice none 0 0, .slice none 0 0, .int .u8 0, .int .u8 0, .int .u8 0, .slice none 0 0, .int .u8 0] : Array Value).size = EV.size := by rw [hE.sz]; rfl
  have r3 : W3.rangeAt w.heap.size 1 (Pd k1 c1).toList := fun j v hv => by rw [cell_of_row W3 _ _ _ _ _ HL3.out.p]; exact hE.pdu j v hv
  have hcp := copy_any W3 k1 c1 (hE.r1.on HL3.out.below)
  go_enter Tryd.func7, Tryd.ntmps7
  go_wp2_with (first | (refine wpList_load_row rfl 48 (.tmp 1) rfl w.heap.size rfl 48 EV (0, 0) _ hgP hu rfl hsE ?_) | (refine wpList_store_row rfl 48 (.tmp 3) (.tmp 5) rfl (w.heap.size + 1 + 1) EV rfl rfl 48 _ hgQ hsE hold hone ?_) | (refine wpList_load_mid rfl 46 (.tmp 6) rfl w.heap.size 1 rfl (Pd k1 c1).toList _ r3 hu4 rfl (size40 k1 c1) ?_) | (go_at_call 20; refine hcp.mono ?_; refine Stop9.mk ?_))
  rintro e W5 c3 rfl hrv3 hb5
  clear hgP hgQ hold hsE hcp r3
  have hZs : (#[.int .i64 0, .int .i64 0, .int .u16 0, .string ⟨#[]⟩, .string ⟨#[]⟩, .string ⟨#[]⟩, .slice none 0 0, .bool false, .int .u32 0, .string ⟨#[]⟩, .string ⟨#[]⟩, .bool false, .int .u16 0, .int .u16 0, .slice none 0 0, .slice none 0 0, .int .u8 0, .int .u8 0, .int .u8 0, .slice none 0 0, .bool false, .int .i64 0, .int .u16 0, .string ⟨#[]⟩, .string ⟨#[]⟩, .string ⟨#[]⟩, .slice none 0 0, .bool false, .int .u32 0, .string ⟨#[]⟩, .string ⟨#[]⟩, .bool false, .int .u16 0, .int .u16 0, .slice none 0 0, .slice none 0 0, .int .u8 0, .int .u8 0, .int .u8 0, .slice none 0 0, .int .u8 0] : Array Value).size = 41 := rfl
  generalize (#[.int .i64 0, .int .i64 0, .int .u16 0, .string ⟨#[]⟩, .string ⟨#[]⟩, .string ⟨#[]⟩, .slice none 0 0, .bool false, .int .u32 0, .string ⟨#[]⟩, .string ⟨#[]⟩, .bool false, .int .u16 0, .int .u16 0, .slice none 0 0, .slice none 0 0, .int .u8 0, .int .u8 0, .int .u8 0, .slice none 0 0, .bool false, .int .i64 0, .int .u16 0, .string ⟨#[]⟩, .string ⟨#[]⟩, .string ⟨#[]⟩, .slice none 0 0, .bool false, .int .u32 0, .string ⟨#[]⟩, .string ⟨#[]⟩, .bool false, .int .u16 0, .int .u16 0, .slice none 0 0, .slice none 0 0, .int .u8 0, .int .u8 0, .int .u8 0, .slice none 0 0, .int .u8 0] : Array Value) = Z at HL3 hZs
  have HL5 : Hid (LI w (.int .i64 kd) EV Z EV W5) := HL3.out.on (hb5.mono HL3.out.size)
  have hth := there_row HL5.out.q 1 19 (by rw [hE.sz]; omega)
  have hpo := pd_one k1 c3 hrv3.one
  obtain ⟨Q6, q1, q2, q3, q4, q5, q6, q7⟩ := setCells_row (Pd k1 c3).toList 1 W5 EV HL5.out.q (fun v hv => Array.all_eq_true_iff_forall_mem.1 hpo v (by simpa using hv)) hone (by omega)
  have hvl : W5.there (w.heap.size + 1 + 1) 1 (Pd k1 c3).toList.length := hth
  have hv19 := World.rangeAt_setCells_same W5 (w.heap.size + 1 + 1) 1 (Pd k1 c3).toList hvl 18 (c3 17) rfl
  obtain ⟨W6, hW6⟩ : ∃ W6, W5.setCells (w.heap.size + 1 + 1) 1 (Pd k1 c3).toList = W6 := ⟨_, rfl⟩
  rw [hW6] at q1 q5 q6 q7 hv19
  have HL6 : Hid (LI w (.int .i64 kd) EV Z Q6 W6) := ⟨HL5.out.below.trans (q6 _ (by omega)), (q5 _ (by omega)).trans HL5.out.p, (q5 _ (by omega)).trans HL5.out.r, q1, q2.trans hE.sz, q3.trans hE.kd, q4⟩
  have r6 : W6.rangeAt w.heap.size 21 (Pd k2 c2).toList := fun j v hv => by rw [cell_of_row W6 _ _ _ _ _ HL6.out.p]; exact hE.ans j v hv
  have hcp2 := copy_any W6 k2 c2 (hE.r2.on HL6.out.below)
  have HV6 : Hid (∃ n xs, W6.ownsRow (w.heap.size + 3) 78 4 (c3 17) n xs ∧ GV (w.heap.size + 3) W6 (c3 17) n xs ∧ Fits n 32) := by
    obtain ⟨n, xs, ho, hg, hf⟩ := hrv3.val
    have hs3 := HL3.out.size
    exact ⟨n, xs, own_low (owns_same ho (fun b e => q5 b (by have := (ho.lt b e).1; omega))) hs3, (hg.move (Nat.le_of_eq q7.symm) (fun b hb1 _ hb3 => ⟨q5 b (by omega), hb3⟩)).low hs3, hf⟩
  have hth' : W5.there (w.heap.size + 1 + 1) 1 (Pd k1 c3).size := hth
  have hs40 := size40' k1 c3
  generalize Pd k1 c3 = P3 at hth' hs40 hpo hW6 ⊢
  have HV19 : Hid (W6.cell? ⟨w.heap.size + 1 + 1, 19, none⟩ = some (c3 17)) := hv19
  have HR6 : Hid (W6.rangeAt w.heap.size 21 (Pd k2 c2).toList) := r6
  have HCP2 : Hid (Calls Tryd.prog 20 #[.agg (Pd k2 c2)] W6 fun e w' => ∃ c2_1, e = .returned (.agg (Pd k2 c2_1)) ∧ RV W6.heap.size w' c2_1 ∧ Below W6.heap.size W6 w') := hcp2
  have HE : Hid (EvOK w EV kd k1 c1 k2 c2) := hE
  clear q1 q2 q3 q4 q5 q6 q7 hv19 r6 hcp2 hvl hE hone hth
  go_wp2_with (first | (refine wpList_store_mid rfl 46 (.tmp 9) (.tmp 8) rfl (w.heap.size + 1 + 1) 1 P3 rfl rfl hth' hs40 hpo ?_) | (refine wpList_load_mid rfl 46 (.tmp 10) rfl w.heap.size 21 rfl (Pd k2 c2).toList _ HR6.out hu4 rfl (size40 k2 c2) ?_) | (go_at_call 20; refine HCP2.out.mono ?_; refine Stop9.mk ?_))
  rintro e W7 ⟨c4, rfl, hrv4, hb7⟩
  have hb67 : Below (w.heap.size + 3) W6 W7 := hb7.mono HL6.out.size
  have HL7 : Hid (LI w (.int .i64 kd) EV Z Q6 W7) := HL6.out.on hb67
  have hth7 := there_row HL7.out.q 21 19 (by rw [HL7.out.sz]; omega)
  have hpo4 := pd_one k2 c4 hrv4.one
  obtain ⟨Q8, q1, q2, q3, q4, q5, q6, q7⟩ := setCells_row (Pd k2 c4).toList 21 W7 Q6 HL7.out.q (fun v hv => Array.all_eq_true_iff_forall_mem.1 hpo4 v (by simpa using hv)) HL7.out.one (by omega)
  have hv19b : W7.rangeAt (w.heap.size + 1 + 1) 19 [c3 17] := fun j v hv => by
    match j, hv with
    | 0, hv => simp at hv; subst hv; exact (hb67.cell (p := ⟨w.heap.size + 1 + 1, 19, none⟩) (by show w.heap.size + 1 + 1 < _; omega)).trans HV19.out
  have hv19c := World.rangeAt_setCells_apart hv19b (w.heap.size + 1 + 1) 21 (Pd k2 c4).toList (.inr (.inl (by simp))) 0 (c3 17) rfl
  obtain ⟨W8, hW8⟩ : ∃ W8, W7.setCells (w.heap.size + 1 + 1) 21 (Pd k2 c4).toList = W8 := ⟨_, rfl⟩
  rw [hW8] at q1 q5 q6 q7 hv19c
  have HL8 : Hid (LI w (.int .i64 kd) EV Z Q8 W8) := ⟨HL7.out.below.trans (q6 _ (by omega)), (q5 _ (by omega)).trans HL7.out.p, (q5 _ (by omega)).trans HL7.out.r, q1, q2.trans HL7.out.sz, q3.trans HL7.out.k0, q4⟩
  obtain ⟨n, xs, ho6, hg6, hfit⟩ := HV6.out
  obtain ⟨av, pv, hcv⟩ := owns_slice ho6
  have HG8 : Hid (GT (w.heap.size + 3) W8 av 0 n) := by
    have h6 : GT (w.heap.size + 3) W6 av 0 n := GT.of (p := pv) (xs := xs) (hcv ▸ ho6) (hcv ▸ hg6)
    have hs6 := HL6.out.size
    exact (h6.same hb7.size (fun b hb1 hb2 => hb7.block b hb2)).same (Nat.le_of_eq q7.symm) (fun b hb1 hb2 => q5 b (by omega))
  have y19 : W8.cell? ⟨w.heap.size + 1 + 1, 19, none⟩ = some (.slice av n pv) := hcv ▸ hv19c
  have hn : n ≤ 4398046510976 := by unfold Fits at hfit; omega
  have hth8 : W7.there (w.heap.size + 1 + 1) 21 (Pd k2 c4).size := hth7
  have hs48 := size40' k2 c4
  generalize Pd k2 c4 = P4 at hth8 hs48 hpo4 hW8 ⊢
  clear q1 q2 q3 q4 q5 q6 q7 hv19b hv19c ho6 hg6 HV6 hb7 hb67 hrv4 hrv3 hth7 hth' hs40 hpo hW6 HR6 HCP2 HV19
  go_wp2_with (first | (refine wpList_store_mid rfl 46 (.tmp 13) (.tmp 12) rfl (w.heap.size + 1 + 1) 21 P4 rfl rfl hth8 hs48 hpo4 ?_))
  clear hth8 hs48 hpo4 hW8
  have HY : Hid (W8.cell? ⟨w.heap.size + 1 + 1, 19, none⟩ = some (.slice av n pv)) := y19
  clear y19
  go_loopw [4] (fun x wr => ∃ (j : Nat), x = .int .i64 (j : Int) ∧ j ≤ n ∧ Hid (LI w (.int .i64 kd) EV Z Q8 wr) ∧ Hid (wr.cell? ⟨w.heap.size + 1 + 1, 19, none⟩ = some (.slice av n pv)) ∧ Hid (GT (w.heap.size + 3) wr av j n)) (fun x _ => n - (intOf x).toNat)
  case atStart => exact ⟨0, rfl, by omega, HL8, HY, HG8⟩
  case round =>
    clear HL8 HY HG8
    obtain ⟨j, rfl, hj, HL, HY, HG⟩ := hrel
    have y19 := HY.out
    by_cases hjn : j < n
    · have hjn2 : ((j : Int) < (n : Int)) := by omega
      obtain ⟨g, v, bs, hav, hgB, hc3, hf3, hV, hbl, hbo⟩ := HG.out j (Nat.le_refl _) hjn
      subst hav
      obtain ⟨ao5, cap5, hv3, _, _⟩ := hV.form
      subst hv3
      have hV' : V wr.drew (.slice ao5 bs.length cap5) bs := hV.same (fun b _ => rfl)
      have hln := lend_any hV' hbl
      have hq19 : w.heap.size + 1 + 1 < wr.heap.size := cell_lt y19
      have hgl : g < wr.heap.size := cell_lt hc3
      go_wp2
      go_region_with (go_at_call 21; refine hln.mono ?_; rintro x W9 ⟨rfl, hown9, hb9d⟩; have hb9 : Below wr.heap.size wr W9 := ⟨hb9d.os, hb9d.tape, hb9d.output, hb9d.size, hb9d.block⟩; have z19 := (hb9.cell (p := ⟨w.heap.size + 1 + 1, 19, none⟩) hq19).trans y19; have zc := (hb9.cell (p := ⟨g, j * 4 + 3, none⟩) hgl).trans hc3; have zf := (hb9.frozen (p := ⟨g, j * 4 + 3, none⟩) hgl).trans hf3)
      all_goals
        go_wp2
        go_roundw
        case rel => exact ⟨j + 1, by go_num, by omega, HL.out.on ((hb9.mono HL.out.size).setCell (p := ⟨g, j * 4 + 3, none⟩) hgB _), (cell_set_off (by omega)).trans z19, HG.out.step hb9⟩
        case measure => simp [intOf]; omega
    · have hjn2 : ¬ ((j : Int) < (n : Int)) := by omega
      have hgQ := HL.out.q
      have hgR := HL.out.r
      have hsQ : (Tryd.prog.info? 48).map (·.size) = some Q8.size := by rw [HL.out.sz]; exact size50
      have h1Q := HL.out.one
      go_wp2_with (first | (refine wpList_load_row rfl 48 (.tmp 3) rfl (w.heap.size + 1 + 1) rfl 48 Q8 (0, 0) _ hgQ hu rfl hsQ ?_) | (refine wpList_store_row rfl 48 (.tmp 2) (.tmp 36) rfl (w.heap.size + 1) Q8 rfl rfl 48 _ hgR hsQ (by rw [hZs, HL.out.sz]) h1Q ?_))
      have hh := setRow_heap wr (w.heap.size + 1) _ Q8 48 _ hgR
      have hl := run_loadVar_row (P := Tryd.prog) _ _ _ 48 _ _ _ hh hu rfl hsQ
      exact bodyPost_ret (v := .agg Q8) (res_cell (k := 2) Tryd.results7 (by kernel_rfl) hl) rfl ⟨Q8, rfl, HL.out.sz, HL.out.k0, below_setRow HL.out.below (by omega) _⟩
end Go.Proofs.YtiieikdbhpflgabDoor
