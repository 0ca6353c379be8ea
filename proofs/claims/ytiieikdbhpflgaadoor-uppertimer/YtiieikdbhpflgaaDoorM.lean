import Derived.Test.YtiieikdbhpflgaaDoorJ
import Derived.Test.YtiieikdbhpflgaaDoorG
import Derived.Test.YtiieikdbhpflgaaDoorB
import Derived.Deep.Cut
import Derived.Deep.AppendLies
import Derived.Deep.CutRange
/-
  DERIVED. A PDU that can be read; what stands between two steps of its copy.
-/
namespace Go.Proofs.YtiieikdbhpflgaaDoor
open Go Go.Proofs Go.RowKit

theorem owns_next {w w' : World} {B s n : Nat} {e : TypeId} {v : Value} {xs : List Value} (h : w.ownsRow B e s v n xs) (hb : Below w.heap.size w w') : w'.ownsRow B e s v n xs := by
  refine ⟨h.1, ?_⟩
  rcases h.2 with h2 | ⟨g, cap, cur, rfl, h1, h2, h3⟩
  · exact .inl h2
  · exact .inr ⟨g, cap, cur, rfl, h1, by rw [hb.block g (Array.getElem?_eq_some_iff.1 h2).1]; exact h2, h3⟩
theorem cell_al {w : World} {a : Addr} {v : Value} {o : Obj} (h : w.cell? a = some v) : (w.alloc o).cell? a = some v := (((Below.refl w.heap.size w).alloc (Nat.le_refl _) o).cell (cell_lt h)).trans h
theorem V.same {w w' : World} {v : Value} {bs : List Nat} (h : V w v bs) (hb : ∀ b, v.ownBlock = some b → w'.heap[b]? = w.heap[b]?) : V w' v bs := by
  rcases h with h | ⟨b, off, cap, rfl, hp, hc, h⟩
  · exact .inl h
  · refine .inr ⟨b, off, cap, rfl, hp, hc, fun k hk => ?_, h.2⟩
    have he := h.1 k hk
    unfold World.cell? at he ⊢
    rw [hb b rfl]
    exact he
theorem Own.v {w : World} {B : Nat} {u : Value} {bs : List Nat} (h : Own w B u bs) : V w u bs ∧ ∀ b, u.ownBlock = some b → B ≤ b ∧ b < w.heap.size := by
  refine ⟨?_, fun b hb => h.1.lt b hb⟩
  rcases h.1.2 with ⟨rfl, h0⟩ | ⟨g, cap, cur, rfl, h1, h2, h3, h4, h5, h6⟩
  · exact .inl ⟨none, 0, rfl, List.eq_nil_of_length_eq_zero h0⟩
  · by_cases hz : bs.length = 0
    · exact .inl ⟨some ⟨g, 0, none⟩, cap, by rw [hz], List.eq_nil_of_length_eq_zero hz⟩
    · refine .inr ⟨g, 0, cap, rfl, by omega, h3, fun k hk => ?_, h.2⟩
      rw [Nat.zero_add]
      exact (h.1.cellAt k (by simpa using hk)).trans (u8s_get bs k hk)
theorem owns_same {w w' : World} {B s n : Nat} {e : TypeId} {v : Value} {xs : List Value} (h : w.ownsRow B e s v n xs) (hb : ∀ b, v.ownBlock = some b → w'.heap[b]? = w.heap[b]?) : w'.ownsRow B e s v n xs := by
  refine ⟨h.1, ?_⟩
  rcases h.2 with h2 | ⟨g, cap, cur, rfl, h1, h2, h3⟩
  · exact .inl h2
  · exact .inr ⟨g, cap, cur, rfl, h1, by rw [hb g rfl]; exact h2, h3⟩
theorem owns_one {w : World} {B s n : Nat} {e : TypeId} {v : Value} {xs : List Value} (h : w.ownsRow B e s v n xs) : v.oneCell' = true := by
  rcases h.2 with ⟨rfl, _⟩ | ⟨g, cap, cur, rfl, _⟩ <;> rfl
theorem owns_slice {w : World} {B s n : Nat} {e : TypeId} {v : Value} {xs : List Value} (h : w.ownsRow B e s v n xs) : ∃ a p, v = .slice a n p := by
  rcases h.2 with ⟨rfl, rfl⟩ | ⟨g, cap, cur, rfl, _⟩
  · exact ⟨_, _, rfl⟩
  · exact ⟨_, _, rfl⟩
theorem cell_four {w : World} {x0 x1 x2 x3 : Value} {t : TypeId} : ∀ j u, [x0, x1, x2, x3][j]? = some u → (w.alloc (.cells #[x0, x1, x2, x3] t)).cell? ((⟨w.heap.size, 0, none⟩ : Addr).add j) = some u := by
  intro j u hj
  match j, hj with
  | 0, hj => simp at hj; subst hj; simp [Addr.add]
  | 1, hj => simp at hj; subst hj; simp [Addr.add]
  | 2, hj => simp at hj; subst hj; simp [Addr.add]
  | 3, hj => simp at hj; subst hj; simp [Addr.add]
  | n + 4, hj => simp at hj
theorem cell_two {w : World} {x0 x1 : Value} {t : TypeId} : ∀ j u, [x0, x1][j]? = some u → (w.alloc (.cells #[x0, x1] t)).cell? ((⟨w.heap.size, 0, none⟩ : Addr).add j) = some u := by
  intro j u hj
  match j, hj with
  | 0, hj => simp at hj; subst hj; simp [Addr.add]
  | 1, hj => simp at hj; subst hj; simp [Addr.add]
  | n + 2, hj => simp at hj
theorem cell_three {w : World} {x0 x1 x2 : Value} {t : TypeId} : ∀ j u, [x0, x1, x2][j]? = some u → (w.alloc (.cells #[x0, x1, x2] t)).cell? ((⟨w.heap.size, 0, none⟩ : Addr).add j) = some u := by
  intro j u hj
  match j, hj with
  | 0, hj => simp at hj; subst hj; simp [Addr.add]
  | 1, hj => simp at hj; subst hj; simp [Addr.add]
  | 2, hj => simp at hj; subst hj; simp [Addr.add]
  | n + 3, hj => simp at hj

/-- A slice of n elements of 'st' cells each, every one of which is as E says. -/
def RdL (w : World) (v : Value) (n st : Nat) (E : World → Nat → Nat → Prop) : Prop :=
  ∃ ao cap, v = .slice ao n cap ∧ (0 < n → ∃ b off, ao = some ⟨b, off, none⟩ ∧ ∀ k, k < n → E w b (off + k * st))

/-- An element that stays as it is as long as what was there stays. -/
def Stays (E : World → Nat → Nat → Prop) : Prop := ∀ w w' b o, E w b o → Below w.heap.size w w' → E w' b o

theorem RdL.on {w w' : World} {v : Value} {n st : Nat} {E : World → Nat → Nat → Prop} (h : RdL w v n st E) (hE : Stays E) (hb : Below w.heap.size w w') : RdL w' v n st E := by
  obtain ⟨ao, cap, rfl, hf⟩ := h
  refine ⟨ao, cap, rfl, fun hn => ?_⟩
  obtain ⟨b, off, rfl, hE'⟩ := hf hn
  exact ⟨b, off, rfl, fun k hk => hE _ _ _ _ (hE' k hk) hb⟩

def EStr (w : World) (b o : Nat) : Prop := ∃ s, w.cell? ⟨b, o, none⟩ = some (.string s)
theorem EStr.stays : Stays EStr := fun _ _ _ _ ⟨s, h⟩ hb => ⟨s, (hb.cell (cell_lt h)).trans h⟩

/-- The longest that a slice that is read can be, by the bytes of an element. -/
def Fits (n bytes : Nat) : Prop := n * bytes ≤ 140737488351232

def ECtx (w : World) (b o : Nat) : Prop := ∃ x y s v m, w.cell? ⟨b, o, none⟩ = some (.int .u8 x) ∧ w.cell? ⟨b, o + 1, none⟩ = some (.int .u8 y) ∧ w.cell? ⟨b, o + 2, none⟩ = some (.string s) ∧ w.cell? ⟨b, o + 3, none⟩ = some v ∧ RdL w v m 1 EStr ∧ Fits m 16
theorem ECtx.stays : Stays ECtx := fun _ _ _ _ ⟨x, y, s, v, m, h0, h1, h2, h3, h4, h5⟩ hb => ⟨x, y, s, v, m, (hb.cell (cell_lt h0)).trans h0, (hb.cell (cell_lt h1)).trans h1, (hb.cell (cell_lt h2)).trans h2, (hb.cell (cell_lt h3)).trans h3, h4.on EStr.stays hb, h5⟩

def ERole (w : World) (b o : Nat) : Prop := ∃ s x y, w.cell? ⟨b, o, none⟩ = some (.string s) ∧ w.cell? ⟨b, o + 1, none⟩ = some (.int .u8 x) ∧ w.cell? ⟨b, o + 2, none⟩ = some (.int .u8 y)
theorem ERole.stays : Stays ERole := fun _ _ _ _ ⟨s, x, y, h0, h1, h2⟩ hb => ⟨s, x, y, (hb.cell (cell_lt h0)).trans h0, (hb.cell (cell_lt h1)).trans h1, (hb.cell (cell_lt h2)).trans h2⟩

def EOth (w : World) (b o : Nat) : Prop := ∃ x v bs, w.cell? ⟨b, o, none⟩ = some (.int .u8 x) ∧ w.cell? ⟨b, o + 1, none⟩ = some v ∧ V w v bs ∧ bs.length ≤ 140737488351232
theorem EOth.stays : Stays EOth := fun _ _ _ _ ⟨x, v, bs, h0, h1, h2, h3⟩ hb => ⟨x, v, bs, (hb.cell (cell_lt h0)).trans h0, (hb.cell (cell_lt h1)).trans h1, h2.next hb, h3⟩

def EPdv (w : World) (b o : Nat) : Prop := ∃ x y z v bs, w.cell? ⟨b, o, none⟩ = some (.int .u8 x) ∧ w.cell? ⟨b, o + 1, none⟩ = some (.bool y) ∧ w.cell? ⟨b, o + 2, none⟩ = some (.bool z) ∧ w.cell? ⟨b, o + 3, none⟩ = some v ∧ V w v bs ∧ bs.length ≤ 140737488351232
theorem EPdv.stays : Stays EPdv := fun _ _ _ _ ⟨x, y, z, v, bs, h0, h1, h2, h3, h4, h5⟩ hb => ⟨x, y, z, v, bs, (hb.cell (cell_lt h0)).trans h0, (hb.cell (cell_lt h1)).trans h1, (hb.cell (cell_lt h2)).trans h2, (hb.cell (cell_lt h3)).trans h3, h4.next hb, h5⟩

/-- The lists of a PDU can be read. -/
structure RP (w : World) (c : Fin 18 → Value) : Prop where
  one : ∀ i, (c i).oneCell' = true
  ctx : ∃ n, RdL w (c 4) n 4 ECtx ∧ Fits n 48
  role : ∃ n, RdL w (c 12) n 3 ERole ∧ Fits n 24
  oth : ∃ n, RdL w (c 13) n 2 EOth ∧ Fits n 32
  val : ∃ n, RdL w (c 17) n 4 EPdv ∧ Fits n 32
theorem RP.on {w w' : World} {c : Fin 18 → Value} (h : RP w c) (hb : Below w.heap.size w w') : RP w' c :=
  ⟨h.one, h.ctx.imp fun _ x => ⟨x.1.on ECtx.stays hb, x.2⟩, h.role.imp fun _ x => ⟨x.1.on ERole.stays hb, x.2⟩, h.oth.imp fun _ x => ⟨x.1.on EOth.stays hb, x.2⟩, h.val.imp fun _ x => ⟨x.1.on EPdv.stays hb, x.2⟩⟩

def up (c : Fin 18 → Value) (i : Fin 18) (v : Value) : Fin 18 → Value := fun j => if j = i then v else c j
theorem pd_size (k : Int) (c : Fin 18 → Value) : (Pd k c).size = 19 := rfl
theorem pd_get (k : Int) (c : Fin 18 → Value) (i : Fin 18) : (Pd k c)[i.val + 1]? = some (c i) := by
  match i with
  | ⟨0, _⟩ => rfl | ⟨1, _⟩ => rfl | ⟨2, _⟩ => rfl | ⟨3, _⟩ => rfl | ⟨4, _⟩ => rfl | ⟨5, _⟩ => rfl | ⟨6, _⟩ => rfl | ⟨7, _⟩ => rfl | ⟨8, _⟩ => rfl | ⟨9, _⟩ => rfl | ⟨10, _⟩ => rfl | ⟨11, _⟩ => rfl | ⟨12, _⟩ => rfl | ⟨13, _⟩ => rfl | ⟨14, _⟩ => rfl | ⟨15, _⟩ => rfl | ⟨16, _⟩ => rfl | ⟨17, _⟩ => rfl
  | ⟨n + 18, h⟩ => exact absurd h (by omega)
theorem pd_one (k : Int) (c : Fin 18 → Value) (h : ∀ i, (c i).oneCell' = true) : (Pd k c).all (·.oneCell') = true := by
  have h0 : (Value.int .i64 k).oneCell' = true := rfl
  simp [Pd, h, h0]
theorem pd_up4 (k : Int) (c : Fin 18 → Value) (v : Value) : (Pd k c).setIfInBounds 5 v = Pd k (up c 4 v) := rfl
theorem pd_up12 (k : Int) (c : Fin 18 → Value) (v : Value) : (Pd k c).setIfInBounds 13 v = Pd k (up c 12 v) := rfl
theorem pd_up13 (k : Int) (c : Fin 18 → Value) (v : Value) : (Pd k c).setIfInBounds 14 v = Pd k (up c 13 v) := rfl
theorem pd_up17 (k : Int) (c : Fin 18 → Value) (v : Value) : (Pd k c).setIfInBounds 18 v = Pd k (up c 17 v) := rfl

/-- What stands between two steps of the copy: the PDU that came, where the answer goes, the copy so far. -/
structure CI (w : World) (k : Int) (c c' : Fin 18 → Value) (z : Array Value) (W : World) : Prop where
  below : Below w.heap.size w W
  p : W.heap[w.heap.size]? = some (.cells (Pd k c) 40)
  r : W.heap[w.heap.size + 1]? = some (.cells z 40)
  q : W.heap[w.heap.size + 1 + 1]? = some (.cells (Pd k c') 40)

/-- The rows of values that were copied so far: each with bytes of its own, in a block that is not the rows'. -/
def GV (base : Nat) (W : World) (rv : Value) (j : Nat) (xs : List Value) : Prop :=
  ∀ i, i < j → ∃ x y z v bs, xs[i * 4]? = some (.int .u8 x) ∧ xs[i * 4 + 1]? = some (.bool y) ∧ xs[i * 4 + 2]? = some (.bool z) ∧ xs[i * 4 + 3]? = some v ∧ V W v bs ∧ bs.length ≤ 140737488351232 ∧ ∀ b, v.ownBlock = some b → base ≤ b ∧ b < W.heap.size ∧ rv.ownBlock ≠ some b
theorem GV.move {base : Nat} {W W' : World} {rv rv' : Value} {j : Nat} {xs : List Value} (h : GV base W rv j xs) (hs : W.heap.size ≤ W'.heap.size) (hk : ∀ b, base ≤ b → b < W.heap.size → rv.ownBlock ≠ some b → W'.heap[b]? = W.heap[b]? ∧ rv'.ownBlock ≠ some b) : GV base W' rv' j xs := by
  intro i hi
  obtain ⟨x, y, z, v, bs, h0, h1, h2, h3, hV, hl, hb⟩ := h i hi
  exact ⟨x, y, z, v, bs, h0, h1, h2, h3, hV.same (fun b e => (hk b (hb b e).1 (hb b e).2.1 (hb b e).2.2).1), hl, fun b e => ⟨(hb b e).1, Nat.lt_of_lt_of_le (hb b e).2.1 hs, (hk b (hb b e).1 (hb b e).2.1 (hb b e).2.2).2⟩⟩
theorem GV.low {base base' : Nat} {W : World} {rv : Value} {j : Nat} {xs : List Value} (h : GV base W rv j xs) (hb : base' ≤ base) : GV base' W rv j xs := by
  intro i hi
  obtain ⟨x, y, z, v, bs, h0, h1, h2, h3, hV, hl, ho⟩ := h i hi
  exact ⟨x, y, z, v, bs, h0, h1, h2, h3, hV, hl, fun b e => ⟨Nat.le_trans hb (ho b e).1, (ho b e).2⟩⟩
theorem own_low {w : World} {B B' : Nat} {e : TypeId} {sz : Nat} {v : Value} {n : Nat} {xs : List Value} (h : w.ownsRow B e sz v n xs) (hb : B' ≤ B) : w.ownsRow B' e sz v n xs := by
  refine ⟨h.1, ?_⟩
  rcases h.2 with h2 | ⟨g, cap, cur, rfl, h1, h3⟩
  · exact .inl h2
  · exact .inr ⟨g, cap, cur, rfl, Nat.le_trans hb h1, h3⟩
theorem GV.push {base : Nat} {W : World} {rv : Value} {j : Nat} {xs : List Value} (h : GV base W rv j xs) (hl : xs.length = j * 4) {x : Int} {y z : Bool} {v : Value} {bs : List Nat} (hV : V W v bs) (hb : bs.length ≤ 140737488351232) (ho : ∀ b, v.ownBlock = some b → base ≤ b ∧ b < W.heap.size ∧ rv.ownBlock ≠ some b) : GV base W rv (j + 1) (xs ++ [.int .u8 x, .bool y, .bool z, v]) := by
  intro i hi
  by_cases hij : i < j
  · obtain ⟨x', y', z', v', bs', h0, h1, h2, h3, r⟩ := h i hij
    exact ⟨x', y', z', v', bs', by rw [List.getElem?_append_left (by omega)]; exact h0, by rw [List.getElem?_append_left (by omega)]; exact h1, by rw [List.getElem?_append_left (by omega)]; exact h2, by rw [List.getElem?_append_left (by omega)]; exact h3, r⟩
  · obtain rfl : i = j := by omega
    exact ⟨x, y, z, v, bs, by rw [List.getElem?_append_right (by omega)]; simp [hl], by rw [List.getElem?_append_right (by omega), show i * 4 + 1 - xs.length = 1 by omega]; rfl, by rw [List.getElem?_append_right (by omega), show i * 4 + 2 - xs.length = 2 by omega]; rfl, by rw [List.getElem?_append_right (by omega), show i * 4 + 3 - xs.length = 3 by omega]; rfl, hV, hb, ho⟩
/-- What is asked of a copy: its values can be read. -/
structure RV (B : Nat) (w : World) (c : Fin 18 → Value) : Prop where
  one : ∀ i, (c i).oneCell' = true
  val : ∃ n xs, w.ownsRow B 105 4 (c 17) n xs ∧ GV B w (c 17) n xs ∧ Fits n 32
/-- What was copied can be read. -/
theorem GV.rd {base : Nat} {W : World} {rv : Value} {j : Nat} {xs : List Value} {e : TypeId} (h : GV base W rv j xs) (ho : W.ownsRow base e 4 rv j xs) : RdL W rv j 4 EPdv := by
  rcases ho.2 with ⟨rfl, rfl⟩ | ⟨g, cap, cur, rfl, _⟩
  · exact ⟨none, 0, rfl, fun h => by omega⟩
  · refine ⟨_, cap, rfl, fun _ => ⟨g, 0, rfl, fun i hi => ?_⟩⟩
    obtain ⟨x, y, z, v, bs, h0, h1, h2, h3, hV, hl, _⟩ := h i hi
    rw [Nat.zero_add]
    exact ⟨x, y, z, v, bs, (ho.cellAt _ (by omega)).trans h0, (ho.cellAt _ (by omega)).trans h1, (ho.cellAt _ (by omega)).trans h2, (ho.cellAt _ (by omega)).trans h3, hV, hl⟩

variable {w W W' : World} {k : Int} {c c' : Fin 18 → Value} {z : Array Value}
theorem CI.size (h : CI w k c c' z W) : w.heap.size + 3 ≤ W.heap.size := (Array.getElem?_eq_some_iff.1 h.q).1
theorem CI.cellp (h : CI w k c c' z W) (i : Fin 18) : W.cell? ⟨w.heap.size, i.val + 1, none⟩ = some (c i) := by rw [cell_of_row W _ _ _ _ _ h.p]; exact pd_get k c i
theorem CI.cellq (h : CI w k c c' z W) (i : Fin 18) : W.cell? ⟨w.heap.size + 1 + 1, i.val + 1, none⟩ = some (c' i) := by rw [cell_of_row W _ _ _ _ _ h.q]; exact pd_get k c' i
theorem CI.froz (h : CI w k c c' z W) (i : Nat) : W.frozen? ⟨w.heap.size + 1 + 1, i, none⟩ = false := by simp [World.frozen?, h.q]
theorem CI.on (h : CI w k c c' z W) (hb : Below (w.heap.size + 3) W W') : CI w k c c' z W' :=
  ⟨h.below.trans (hb.mono (by omega)), (hb.block _ (by omega)).trans h.p, (hb.block _ (by omega)).trans h.r, (hb.block _ (by omega)).trans h.q⟩
theorem CI.set (h : CI w k c c' z W) (i : Nat) (v : Value) (c2 : Fin 18 → Value) (hc : (Pd k c').setIfInBounds i v = Pd k c2) : CI w k c c2 z (W.setCell ⟨w.heap.size + 1 + 1, i, none⟩ v) := by
  rw [setCell_eq_setRow W _ _ _ _ _ v h.q, hc]
  have ho : ∀ j, j ≠ w.heap.size + 1 + 1 → (W.setRow (w.heap.size + 1 + 1) (Pd k c2)).heap[j]? = W.heap[j]? := fun j hj => by
    unfold World.setRow
    show (W.heap.modify _ _)[j]? = _
    rw [Array.getElem?_modify, if_neg (Ne.symm hj)]
  exact ⟨below_setRow h.below (by omega) _, (ho _ (by omega)).trans h.p, (ho _ (by omega)).trans h.r, setRow_heap W _ _ _ _ _ h.q⟩
end Go.Proofs.YtiieikdbhpflgaaDoor
