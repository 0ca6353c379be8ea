import Derived.Test.YtnamkcfmbefkfaaDoorG
import Derived.Test.YtnamkcfmbefkfaaDoorD
import Derived.Deep.Cut
import Derived.Deep.AppendLies
import Derived.Deep.CutRange
import Derived.Deep.MidRow
namespace Go.Proofs.YtnamkcfmbefkfaaDoor
open Go Go.Proofs Go.RowKit
theorem owns_next {w w' : World} {B s n : Nat} {e : TypeId} {v : Value} {xs : List Value} (h : w.ownsRow B e s v n xs) (hb : Below w.heap.size w w') : w'.ownsRow B e s v n xs := by
  refine ⟨h.1, ?_⟩
  rcases h.2 with h2 | ⟨g, cap, cur, rfl, h1, h2, h3⟩
  · exact .inl h2
  · exact .inr ⟨g, cap, cur, rfl, h1, by rw [hb.block g (Array.getElem?_eq_some_iff.1 h2).1]; exact h2, h3⟩
theorem cell_al {w : World} {a : Addr} {v : Value} {o : Obj} (h : w.cell? a = some v) : (w.alloc o).cell? a = some v := (((Below.refl w.heap.size w).alloc (Nat.le_refl _) o).cell (cell_lt h)).trans h
theorem Own.v {w : World} {B : Nat} {u : Value} {bs : List Nat} (h : Own w B u bs) : V w u bs ∧ ∀ b, u.ownBlock = some b → B ≤ b ∧ b < w.heap.size := by
  refine ⟨?_, fun b hb => h.1.lt b hb⟩
  rcases h.1.2 with ⟨rfl, h0⟩ | ⟨g, cap, cur, rfl, h1, h2, h3, h4, h5, h6⟩
  · exact .inl ⟨none, 0, rfl, List.eq_nil_of_length_eq_zero h0⟩
  · by_cases hz : bs.length = 0
    · exact .inl ⟨some ⟨g, 0, none⟩, cap, by rw [hz], List.eq_nil_of_length_eq_zero hz⟩
    · refine .inr ⟨g, 0, cap, rfl, by omega, h3, fun k hk => ?_, h.2⟩
      rw [Nat.zero_add]
      exact (h.1.cellAt k (by simpa using hk)).trans (u8s_get bs k hk)
theorem owns_same {w w' : World} {B s n : Nat} {e : TypeId} {v : Value} {xs : List Value} (h : w.ownsRow B e s v n xs) (hb : ∀ b, v.ownBlock = some b → w'.heap[b]? = w.heap[b]?) : w'.ownsRow B e s v n xs := by
  refine ⟨h.1, ?_⟩
  rcases h.2 with h2 | ⟨g, cap, cur, rfl, h1, h2, h3⟩
  · exact .inl h2
  · exact .inr ⟨g, cap, cur, rfl, h1, by rw [hb g rfl]; exact h2, h3⟩
theorem owns_one {w : World} {B s n : Nat} {e : TypeId} {v : Value} {xs : List Value} (h : w.ownsRow B e s v n xs) : v.oneCell' = true := by
  rcases h.2 with ⟨rfl, _⟩ | ⟨g, cap, cur, rfl, _⟩ <;> rfl
theorem owns_slice {w : World} {B s n : Nat} {e : TypeId} {v : Value} {xs : List Value} (h : w.ownsRow B e s v n xs) : ∃ a p, v = .slice a n p := by
  rcases h.2 with ⟨rfl, rfl⟩ | ⟨g, cap, cur, rfl, _⟩
  · exact ⟨_, _, rfl⟩
  · exact ⟨_, _, rfl⟩
theorem cell_four {w : World} {x0 x1 x2 x3 : Value} {t : TypeId} : ∀ j u, [x0, x1, x2, x3][j]? = some u → (w.alloc (.cells #[x0, x1, x2, x3] t)).cell? ((⟨w.heap.size, 0, none⟩ : Addr).add j) = some u := by
  intro j u hj
  match j, hj with
  | 0, hj => simp at hj; subst hj; simp [Addr.add]
  | 1, hj => simp at hj; subst hj; simp [Addr.add]
  | 2, hj => simp at hj; subst hj; simp [Addr.add]
  | 3, hj => simp at hj; subst hj; simp [Addr.add]
  | n + 4, hj => simp at hj
theorem cell_two {w : World} {x0 x1 : Value} {t : TypeId} : ∀ j u, [x0, x1][j]? = some u → (w.alloc (.cells #[x0, x1] t)).cell? ((⟨w.heap.size, 0, none⟩ : Addr).add j) = some u := by
  intro j u hj
  match j, hj with
  | 0, hj => simp at hj; subst hj; simp [Addr.add]
  | 1, hj => simp at hj; subst hj; simp [Addr.add]
  | n + 2, hj => simp at hj
def RdL (w : World) (v : Value) (n st : Nat) (E : World → Nat → Nat → Prop) : Prop :=
  ∃ ao cap, v = .slice ao n cap ∧ (0 < n → ∃ b off, ao = some ⟨b, off, none⟩ ∧ ∀ k, k < n → E w b (off + k * st))
def EStr (w : World) (b o : Nat) : Prop := ∃ s, w.cell? ⟨b, o, none⟩ = some (.string s)
def Fits (n bytes : Nat) : Prop := n * bytes ≤ 140737488351232
def ECtx (w : World) (b o : Nat) : Prop := ∃ x y s v m, w.cell? ⟨b, o, none⟩ = some (.int .u8 x) ∧ w.cell? ⟨b, o + 1, none⟩ = some (.int .u8 y) ∧ w.cell? ⟨b, o + 2, none⟩ = some (.string s) ∧ w.cell? ⟨b, o + 3, none⟩ = some v ∧ RdL w v m 1 EStr ∧ Fits m 16
def ERole (w : World) (b o : Nat) : Prop := ∃ s x y, w.cell? ⟨b, o, none⟩ = some (.string s) ∧ w.cell? ⟨b, o + 1, none⟩ = some (.int .u8 x) ∧ w.cell? ⟨b, o + 2, none⟩ = some (.int .u8 y)
def EOth (w : World) (b o : Nat) : Prop := ∃ x v bs, w.cell? ⟨b, o, none⟩ = some (.int .u8 x) ∧ w.cell? ⟨b, o + 1, none⟩ = some v ∧ V w v bs ∧ bs.length ≤ 140737488351232
def EPdv (w : World) (b o : Nat) : Prop := ∃ x y z v bs, w.cell? ⟨b, o, none⟩ = some (.int .u8 x) ∧ w.cell? ⟨b, o + 1, none⟩ = some (.bool y) ∧ w.cell? ⟨b, o + 2, none⟩ = some (.bool z) ∧ w.cell? ⟨b, o + 3, none⟩ = some v ∧ V w v bs ∧ bs.length ≤ 140737488351232
structure RP (w : World) (c : Fin 18 → Value) : Prop where
  one : ∀ i, (c i).oneCell' = true
  ctx : ∃ n, RdL w (c 4) n 4 ECtx ∧ Fits n 48
  role : ∃ n, RdL w (c 12) n 3 ERole ∧ Fits n 24
  oth : ∃ n, RdL w (c 13) n 2 EOth ∧ Fits n 32
  val : ∃ n, RdL w (c 17) n 4 EPdv ∧ Fits n 32
def up (c : Fin 18 → Value) (i : Fin 18) (v : Value) : Fin 18 → Value := fun j => if j = i then v else c j
theorem pd_get (k : Int) (c : Fin 18 → Value) (i : Fin 18) : (Pd k c)[i.val + 1]? = some (c i) := by
  match i with
  | ⟨0, _⟩ => rfl | ⟨1, _⟩ => rfl | ⟨2, _⟩ => rfl | ⟨3, _⟩ => rfl | ⟨4, _⟩ => rfl | ⟨5, _⟩ => rfl | ⟨6, _⟩ => rfl | ⟨7, _⟩ => rfl | ⟨8, _⟩ => rfl | ⟨9, _⟩ => rfl | ⟨10, _⟩ => rfl | ⟨11, _⟩ => rfl | ⟨12, _⟩ => rfl | ⟨13, _⟩ => rfl | ⟨14, _⟩ => rfl | ⟨15, _⟩ => rfl | ⟨16, _⟩ => rfl | ⟨17, _⟩ => rfl
  | ⟨n + 18, h⟩ => exact absurd h (by omega)
theorem pd_one (k : Int) (c : Fin 18 → Value) (h : ∀ i, (c i).oneCell' = true) : (Pd k c).all (·.oneCell') = true := by
  have h0 : (Value.int .i64 k).oneCell' = true := rfl
  simp [Pd, h, h0]
theorem pd_up4 (k : Int) (c : Fin 18 → Value) (v : Value) : (Pd k c).setIfInBounds 5 v = Pd k (up c 4 v) := rfl
theorem pd_up12 (k : Int) (c : Fin 18 → Value) (v : Value) : (Pd k c).setIfInBounds 13 v = Pd k (up c 12 v) := rfl
theorem pd_up13 (k : Int) (c : Fin 18 → Value) (v : Value) : (Pd k c).setIfInBounds 14 v = Pd k (up c 13 v) := rfl
theorem pd_up17 (k : Int) (c : Fin 18 → Value) (v : Value) : (Pd k c).setIfInBounds 18 v = Pd k (up c 17 v) := rfl
structure CI (w : World) (k : Int) (c c' : Fin 18 → Value) (z : Array Value) (W : World) : Prop where
  below : Below w.heap.size w W
  p : W.heap[w.heap.size]? = some (.cells (Pd k c) 33)
  r : W.heap[w.heap.size + 1]? = some (.cells z 33)
  q : W.heap[w.heap.size + 1 + 1]? = some (.cells (Pd k c') 33)
theorem own_low {w : World} {B B' : Nat} {e : TypeId} {sz : Nat} {v : Value} {n : Nat} {xs : List Value} (h : w.ownsRow B e sz v n xs) (hb : B' ≤ B) : w.ownsRow B' e sz v n xs := by
  refine ⟨h.1, ?_⟩
  rcases h.2 with h2 | ⟨g, cap, cur, rfl, h1, h3⟩
  · exact .inl h2
  · exact .inr ⟨g, cap, cur, rfl, Nat.le_trans hb h1, h3⟩
variable {w W W' : World} {k : Int} {c c' : Fin 18 → Value} {z : Array Value}
theorem CI.size (h : CI w k c c' z W) : w.heap.size + 3 ≤ W.heap.size := (Array.getElem?_eq_some_iff.1 h.q).1
theorem CI.cellp (h : CI w k c c' z W) (i : Fin 18) : W.cell? ⟨w.heap.size, i.val + 1, none⟩ = some (c i) := by rw [cell_of_row W _ _ _ _ _ h.p]; exact pd_get k c i
theorem CI.cellq (h : CI w k c c' z W) (i : Fin 18) : W.cell? ⟨w.heap.size + 1 + 1, i.val + 1, none⟩ = some (c' i) := by rw [cell_of_row W _ _ _ _ _ h.q]; exact pd_get k c' i
theorem CI.froz (h : CI w k c c' z W) (i : Nat) : W.frozen? ⟨w.heap.size + 1 + 1, i, none⟩ = false := by simp [World.frozen?, h.q]
theorem CI.on (h : CI w k c c' z W) (hb : Below (w.heap.size + 3) W W') : CI w k c c' z W' :=
  ⟨h.below.trans (hb.mono (by omega)), (hb.block _ (by omega)).trans h.p, (hb.block _ (by omega)).trans h.r, (hb.block _ (by omega)).trans h.q⟩
theorem CI.set (h : CI w k c c' z W) (i : Nat) (v : Value) (c2 : Fin 18 → Value) (hc : (Pd k c').setIfInBounds i v = Pd k c2) : CI w k c c2 z (W.setCell ⟨w.heap.size + 1 + 1, i, none⟩ v) := by
  rw [setCell_eq_setRow W _ _ _ _ _ v h.q, hc]
  have ho : ∀ j, j ≠ w.heap.size + 1 + 1 → (W.setRow (w.heap.size + 1 + 1) (Pd k c2)).heap[j]? = W.heap[j]? := fun j hj => by
    unfold World.setRow
    show (W.heap.modify _ _)[j]? = _
    rw [Array.getElem?_modify, if_neg (Ne.symm hj)]
  exact ⟨below_setRow h.below (by omega) _, (ho _ (by omega)).trans h.p, (ho _ (by omega)).trans h.r, setRow_heap W _ _ _ _ _ h.q⟩
end Go.Proofs.YtnamkcfmbefkfaaDoor

namespace Go.Proofs.YtnamkcfmbefkfaaDoor
open Go Go.Proofs Go.RowKit
theorem hu40 : ∃ fs, Tryd.prog.underlying 33 = some (.struct fs) := ⟨_, Tryd.underlying33⟩
theorem infoStr : (Tryd.prog.info? 9).map (fun i => (i.zero, i.size, i.bytes)) = some (some (.string ⟨#[]⟩), 1, 16) := by kernel_rfl
theorem infoCtx : (Tryd.prog.info? 51).map (fun i => (i.zero, i.size, i.bytes)) = some (some (.agg #[.int .u8 0, .int .u8 0, .string ⟨#[]⟩, .slice none 0 0]), 4, 48) := by kernel_rfl
theorem infoRole : (Tryd.prog.info? 54).map (fun i => (i.zero, i.size, i.bytes)) = some (some (.agg #[.string ⟨#[]⟩, .int .u8 0, .int .u8 0]), 3, 24) := by kernel_rfl
theorem infoPdv : (Tryd.prog.info? 60).map (fun i => (i.zero, i.size, i.bytes)) = some (some (.agg #[.int .u8 0, .bool false, .bool false, .slice none 0 0]), 4, 32) := by kernel_rfl
theorem infoOth : (Tryd.prog.info? 57).map (fun i => (i.zero, i.size, i.bytes)) = some (some (.agg #[.int .u8 0, .slice none 0 0]), 2, 32) := by kernel_rfl
end Go.Proofs.YtnamkcfmbefkfaaDoor

namespace Go.Proofs.YtnamkcfmbefkfaaDoor
open Go Go.Proofs Go.RowKit
theorem setCells_row {g : Nat} {t : TypeId} : ∀ (vs : List Value) (o : Nat) (W : World) (Q : Array Value), W.heap[g]? = some (.cells Q t (0, 0)) → (∀ v ∈ vs, v.oneCell' = true) → Q.all (·.oneCell') = true → 0 < o →
    ∃ Q', (W.setCells g o vs).heap[g]? = some (.cells Q' t (0, 0)) ∧ Q'.size = Q.size ∧ Q'[0]? = Q[0]? ∧ Q'.all (·.oneCell') = true ∧ (∀ j, j ≠ g → (W.setCells g o vs).heap[j]? = W.heap[j]?) ∧ (∀ B, B ≤ g → Below B W (W.setCells g o vs)) ∧ (W.setCells g o vs).heap.size = W.heap.size
  | [], _, W, Q, h, _, hq, _ => ⟨Q, h, rfl, rfl, hq, fun _ _ => rfl, fun _ _ => Below.refl _ _, rfl⟩
  | v :: vs, o, W, Q, h, hv, hq, ho => by
    have he := setCell_eq_setRow W g o Q t (0, 0) v h
    have h1 : (W.setCell ⟨g, o, none⟩ v).heap[g]? = some (.cells (Q.setIfInBounds o v) t (0, 0)) := by rw [he]; exact setRow_heap W g Q _ t _ h
    have hq1 : (Q.setIfInBounds o v).all (·.oneCell') = true := by
      rw [Array.all_eq_true_iff_forall_mem] at hq ⊢
      intro u hu
      rcases Array.mem_or_eq_of_mem_setIfInBounds hu with h | h
      · exact hq u h
      · rw [h]; exact hv v (by simp)
    obtain ⟨Q', a1, a2, a3, a4, a5, a6, a7⟩ := setCells_row vs (o + 1) _ _ h1 (fun u hu => hv u (by simp [hu])) hq1 (by omega)
    refine ⟨Q', a1, by rw [a2]; simp, by rw [a3, Array.getElem?_setIfInBounds_ne (by omega)], a4, fun j hj => (a5 j hj).trans (Below.heap_setCell _ _ _ _ hj), fun B hB => ((Below.refl B W).setCell (p := ⟨g, o, none⟩) hB v).trans (a6 B hB), by rw [World.setCells, a7]; simp⟩
theorem there_row {W : World} {g : Nat} {t : TypeId} {Q : Array Value} (h : W.heap[g]? = some (.cells Q t (0, 0))) (o n : Nat) (hn : o + n ≤ Q.size) : W.there g o n := fun j hj => by
  constructor
  · rw [cell_of_row W g _ Q t _ h]
    rw [Array.getElem?_eq_getElem (by omega)]
    rfl
  · simp [World.frozen?, h]
end Go.Proofs.YtnamkcfmbefkfaaDoor

namespace Go.Proofs.YtnamkcfmbefkfaaDoor
open Go Go.Proofs Go.RowKit
theorem size40 (k : Int) (c : Fin 18 → Value) : (Tryd.prog.info? 33).map (·.size) = some (Pd k c).toList.length := by unfold Pd; kernel_rfl
theorem size40' (k : Int) (c : Fin 18 → Value) : (Tryd.prog.info? 33).map (·.size) = some (Pd k c).size := by unfold Pd; kernel_rfl
end Go.Proofs.YtnamkcfmbefkfaaDoor
