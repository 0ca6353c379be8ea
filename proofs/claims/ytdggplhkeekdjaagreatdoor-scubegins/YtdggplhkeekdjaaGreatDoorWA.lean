import Derived.Test.YtdggplhkeekdjaaGreatDoorProg
import Derived.WalkKit
import Derived.WalkSpells
import Derived.WalkLawsBesides
import Derived.WalkMore
import Derived.Deep.QuietTactic
import Derived.BigQuiet
import Derived.BigRegion
import Derived.KernelRfl
import Derived.Deep.RegionWith
import Derived.Deep.Cut
import Derived.Deep.AppendLies
import Derived.RegionTactic
import Derived.LoopTactic
import Derived.Below
import Derived.Laws.OwnMore
import Derived.OwnWalk
import Derived.OneCell
/-
  DERIVED. Lists of nodes, what belongs together in them: plain functions.
-/
namespace Go.Proofs.YtdggplhkeekdjaaGreatDoor.Wk
open Go Go.Proofs Go.RowKit

/-- A node. -/
structure Nd where
  t : Int
  v : Int
  n : Int
  s : ByteArray
def Nd.cs (a : Nd) : List Value := [.int .u32 a.t, .int .i64 a.v, .int .i64 a.n, .string a.s]
def nds (L : List Nd) : List Value := L.flatMap Nd.cs
theorem nds_len : ∀ L : List Nd, (nds L).length = L.length * 4
  | [] => rfl
  | a :: L => by
    rw [nds, List.flatMap_cons, List.length_append]
    have := nds_len L
    unfold nds at this
    rw [this]; simp [Nd.cs]; omega
theorem nds_append (L M : List Nd) : nds (L ++ M) = nds L ++ nds M := List.flatMap_append
theorem nds_get : ∀ (L : List Nd) (i : Nat) (h : i < L.length) (k : Nat), k < 4 → (nds L)[i * 4 + k]? = (L[i]'h).cs[k]?
  | [], i, h, k, _ => by simp at h
  | a :: L, 0, h, k, hk => by
    rw [nds, List.flatMap_cons, Nat.zero_mul, Nat.zero_add, List.getElem?_append_left (by simp [Nd.cs]; omega)]
    rfl
  | a :: L, i + 1, h, k, hk => by
    have ih := nds_get L i (by simpa using h) k hk
    rw [nds, List.flatMap_cons, List.getElem?_append_right (by simp [Nd.cs]; omega)]
    rw [show (i + 1) * 4 + k - a.cs.length = i * 4 + k by simp [Nd.cs]; omega]
    exact ih
theorem nds_one (L : List Nd) : ∀ u ∈ nds L, u.oneCell' = true := by
  intro u hu
  unfold nds at hu
  rw [List.mem_flatMap] at hu
  obtain ⟨a, -, h⟩ := hu
  simp [Nd.cs] at h
  rcases h with rfl | rfl | rfl | rfl <;> rfl

/-- How many nodes belong together. -/
def goN : List Nd → Nat → Nat
  | [], _ => 0
  | _ :: _, 0 => 0
  | a :: r, w + 1 => 1 + goN r (w + a.n.toNat)
theorem goN_le : ∀ (L : List Nd) (w : Nat), goN L w ≤ L.length
  | [], _ => by simp [goN]
  | _ :: _, 0 => by simp [goN]
  | a :: r, w + 1 => by
    have := goN_le r (w + a.n.toNat)
    simp [goN]; omega
theorem goN_min : ∀ (L : List Nd) (w u : Nat), (w = u ∨ (L.length ≤ w ∧ L.length ≤ u)) → goN L w = goN L u
  | [], _, _, _ => rfl
  | a :: r, 0, 0, _ => rfl
  | a :: r, 0, u + 1, h => by simp at h
  | a :: r, w + 1, 0, h => by simp at h
  | a :: r, w + 1, u + 1, h => by
    simp only [goN]
    congr 1
    refine goN_min r _ _ ?_
    rcases h with h | ⟨h1, h2⟩
    · exact .inl (by omega)
    · simp at h1 h2
      exact .inr ⟨by omega, by omega⟩
/-- The place behind a node and all that belongs to it. -/
def nxt (L : List Nd) (i : Nat) : Nat := i + goN (L.drop i) 1
def nxtI (L : List Nd) (i : Int) : Nat := if 0 ≤ i ∧ i < L.length then nxt L i.toNat else L.length
theorem nxt_gt {L : List Nd} {i : Nat} (h : i < L.length) : i < nxt L i := by
  unfold nxt
  rw [List.drop_eq_getElem_cons h]
  simp only [goN]
  omega
theorem nxt_le {L : List Nd} {i : Nat} (h : i ≤ L.length) : nxt L i ≤ L.length := by
  unfold nxt
  have := goN_le (L.drop i) 1
  rw [List.length_drop] at this
  omega
theorem goN_step {L : List Nd} {i w : Nat} (h : i < L.length) : goN (L.drop i) (w + 1) = 1 + goN (L.drop (i + 1)) (w + (L[i]'h).n.toNat) := by
  rw [List.drop_eq_getElem_cons h]
  rfl
theorem goN_zero (L : List Nd) : goN L 0 = 0 := by cases L <;> rfl
theorem goN_nil {L : List Nd} {i w : Nat} (h : L.length ≤ i) : goN (L.drop i) w = 0 := by
  rw [List.drop_eq_nil_of_le h]
  rfl

/-- The place of the first node of the top level with that tag; the list's end without one. -/
def plcF (L : List Nd) (t : Int) : Nat → Nat → Nat
  | 0, i => i
  | f + 1, i => if h : i < L.length then (if (L[i]'h).t = t then i else plcF L t f (nxt L i)) else i
def plc (L : List Nd) (t : Int) : Nat := plcF L t L.length 0
theorem plcF_fuel (L : List Nd) (t : Int) : ∀ (f g i : Nat), L.length ≤ i + f → L.length ≤ i + g → plcF L t f i = plcF L t g i
  | 0, 0, i, _, _ => rfl
  | 0, g + 1, i, h, _ => by
    rw [plcF, plcF, dif_neg (by omega)]
  | f + 1, 0, i, _, h => by
    rw [plcF, plcF, dif_neg (by omega)]
  | f + 1, g + 1, i, h1, h2 => by
    rw [plcF, plcF]
    by_cases h : i < L.length
    · rw [dif_pos h, dif_pos h]
      by_cases ht : (L[i]'h).t = t
      · rw [if_pos ht, if_pos ht]
      · rw [if_neg ht, if_neg ht]
        have := nxt_gt h
        exact plcF_fuel L t f g (nxt L i) (by omega) (by omega)
    · rw [dif_neg h, dif_neg h]
theorem plcF_le (L : List Nd) (t : Int) : ∀ (f i : Nat), i ≤ L.length → plcF L t f i ≤ L.length
  | 0, i, h => h
  | f + 1, i, h => by
    rw [plcF]
    by_cases h1 : i < L.length
    · rw [dif_pos h1]
      split
      · exact h
      · exact plcF_le L t f (nxt L i) (nxt_le h)
    · rw [dif_neg h1]; exact h
theorem plc_le (L : List Nd) (t : Int) : plc L t ≤ L.length := plcF_le L t _ 0 (Nat.zero_le _)

/-- The items from a place on. -/
def itF (L : List Nd) (e : Nat) : Nat → Nat → List (List Nd)
  | 0, _ => []
  | f + 1, i => if i < e then ((L.take (nxt L i)).drop (i + 1)) :: itF L e f (nxt L i) else []
theorem itF_fuel (L : List Nd) (e : Nat) (he : e ≤ L.length) : ∀ (f g i : Nat), e ≤ i + f → e ≤ i + g → itF L e f i = itF L e g i
  | 0, 0, i, _, _ => rfl
  | 0, g + 1, i, h, _ => by rw [itF, itF, if_neg (by omega)]
  | f + 1, 0, i, _, h => by rw [itF, itF, if_neg (by omega)]
  | f + 1, g + 1, i, h1, h2 => by
    rw [itF, itF]
    by_cases h : i < e
    · rw [if_pos h, if_pos h]
      have := nxt_gt (L := L) (i := i) (by omega)
      rw [itF_fuel L e he f g (nxt L i) (by omega) (by omega)]
    · rw [if_neg h, if_neg h]
/-- Is it a sequence of the top level? -/
def isSq (L : List Nd) (t : Int) : Bool := match L[plc L t]? with
  | some a => decide (a.v = 18)
  | none => false
def itm (L : List Nd) (t : Int) : List (List Nd) := if isSq L t then itF L (nxt L (plc L t)) L.length (plc L t + 1) else []

def Stop (p : Prop) : Prop := p
theorem Stop.mk {p : Prop} (h : Stop p) : p := h
theorem Stop.out {p : Prop} (h : p) : Stop p := h
structure StopF (p : Prop) : Prop where
  out : p
theorem cell_lt {w : World} {a : Addr} {v : Value} (h : w.cell? a = some v) : a.block < w.heap.size := World.block_lt_of_cell? w a h
theorem below_drw {B : Nat} {w w' : World} (h : Below B w w') (m : Nat) : Below B w (w'.drewN m) := h.trans ⟨rfl, rfl, rfl, Nat.le_refl _, fun _ _ => rfl⟩
theorem owns_succ {W : World} {base : Nat} {e : TypeId} {size : Nat} {v : Value} {k : Nat} {xs : List Value} (h : W.ownsRow base e size v (k + 1) xs) : ∃ g cap, v = .slice (some ⟨g, 0, none⟩) (k + 1) cap := by
  rcases h.2 with ⟨_, h0⟩ | ⟨g, cap, cur, rfl, _⟩
  · omega
  · exact ⟨g, cap, rfl⟩
theorem ownsRow_below {w w' : World} {A base : Nat} {e : TypeId} {size : Nat} {v : Value} {n : Nat} {xs : List Value} (h : w.ownsRow base e size v n xs) (hb : Below A w w') (hA : w.heap.size ≤ A) : w'.ownsRow base e size v n xs := by
  refine ⟨h.1, ?_⟩
  rcases h.2 with h2 | ⟨g, cap, cur, hv, hg, hh, r⟩
  · exact .inl h2
  · have hlt : g < w.heap.size := (Array.getElem?_eq_some_iff.1 hh).1
    exact .inr ⟨g, cap, cur, hv, hg, (hb.block g (by omega)).trans hh, r⟩
theorem own_keep {w w' : World} {base : Nat} {e : TypeId} {size : Nat} {v : Value} {n : Nat} {xs : List Value} (h : w.ownsRow base e size v n xs) (hk : ∀ g, v.ownBlock = some g → w'.heap[g]? = w.heap[g]?) : w'.ownsRow base e size v n xs := by
  refine ⟨h.1, ?_⟩
  rcases h.2 with h2 | ⟨g, cap, cur, hv, hg, hh, r⟩
  · exact .inl h2
  · exact .inr ⟨g, cap, cur, hv, hg, (hk g (by rw [hv]; rfl)).trans hh, r⟩
theorem own_base {w : World} {b b2 : Nat} {e : TypeId} {size : Nat} {v : Value} {n : Nat} {xs : List Value} (h : w.ownsRow b e size v n xs) (hb : b2 ≤ b) : w.ownsRow b2 e size v n xs := by
  refine ⟨h.1, ?_⟩
  rcases h.2 with h2 | ⟨g, cap, cur, hv, hg, r⟩
  · exact .inl h2
  · exact .inr ⟨g, cap, cur, hv, by omega, r⟩
theorem own_cap {w : World} {b : Nat} {e : TypeId} {s n c : Nat} {a : Option Addr} {xs : List Value} (h : w.ownsRow b e s (.slice a n c) n xs) : n ≤ c := by
  rcases h.2 with ⟨hv, hn⟩ | ⟨g1, c1, cur, hv, -, -, hc, -⟩
  · cases hv; omega
  · cases hv; exact hc
theorem own_apart {w : World} {b b' : Nat} {e e' : TypeId} {s s' : Nat} {v v' : Value} {n n' : Nat} {xs xs' : List Value} (h : w.ownsRow b e s v n xs) (h' : w.ownsRow b' e' s' v' n' xs') (he : e ≠ e') : ∀ g, v.ownBlock = some g → v'.ownBlock ≠ some g := by
  intro g hg hg'
  rcases h.2 with ⟨rfl, -⟩ | ⟨g1, c1, cur, rfl, -, hh, -⟩
  · cases hg
  · rcases h'.2 with ⟨rfl, -⟩ | ⟨g2, c2, cur2, rfl, -, hh2, -⟩
    · cases hg'
    · cases hg
      cases hg'
      rw [hh] at hh2
      cases hh2
      exact he rfl
theorem own_grown {w w' : World} {b : Nat} {e : TypeId} {s : Nat} {v : Value} {n : Nat} {xs : List Value} {row : Option Nat} (h : w.ownsRow b e s v n xs) (hg : w.grownBy w' row) (hr : ∀ k, v.ownBlock = some k → row ≠ some k) : w'.ownsRow b e s v n xs :=
  own_keep h (fun g hv => hg.block g (h.lt g hv).2 (fun q => hr g hv q.symm))
theorem size_alloc (w : World) (o : Obj) : (w.alloc o).heap.size = w.heap.size + 1 := by
  show (w.heap.push o).size = _
  simp
theorem heap_new (w : World) (o : Obj) : (w.alloc o).heap[w.heap.size]? = some o := by
  show (w.heap.push o)[w.heap.size]? = some o
  simp
theorem heap_old (w : World) (o : Obj) {k : Nat} (h : k < w.heap.size) : (w.alloc o).heap[k]? = w.heap[k]? := by
  show (w.heap.push o)[k]? = w.heap[k]?
  rw [Array.getElem?_push, if_neg (by omega)]
theorem news_new {w : World} {B : Nat} (hB : w.heap.size = B) (cs : Array Value) (t : TypeId) : ∀ j u, cs.toList[j]? = some u → (w.alloc (.cells cs t)).cell? ((⟨B, 0, none⟩ : Addr).add j) = some u := by
  subst hB
  exact World.news_of_block (heap_new w _)

/-- Nodes lie there. -/
def NAt (w : World) (b off : Nat) (L : List Nd) : Prop := ∀ i (h : i < L.length), w.cell? ⟨b, off + i * 4, none⟩ = some (.int .u32 (L[i]'h).t) ∧ w.cell? ⟨b, off + i * 4 + 1, none⟩ = some (.int .i64 (L[i]'h).v) ∧ w.cell? ⟨b, off + i * 4 + 2, none⟩ = some (.int .i64 (L[i]'h).n) ∧ w.cell? ⟨b, off + i * 4 + 3, none⟩ = some (.string (L[i]'h).s)
/-- A list of nodes that is handed in. -/
structure NV (w : World) (a : Option Addr) (n cap : Nat) (L : List Nd) : Prop where
  len : n = L.length
  room : n ≤ cap
  small : n ≤ 3518437208780
  lies : 0 < n → ∃ b off, a = some ⟨b, off, none⟩ ∧ NAt w b off L
  num : ∀ x ∈ L, -9223372036854775808 ≤ x.n ∧ x.n ≤ 9223372036854775807
theorem NAt.on {w w' : World} {b off : Nat} {L : List Nd} (h : NAt w b off L) (hb : Below w.heap.size w w') : NAt w' b off L := fun i hi => by
  obtain ⟨h0, h1, h2, h3⟩ := h i hi
  exact ⟨(hb.cell (cell_lt h0)).trans h0, (hb.cell (cell_lt h1)).trans h1, (hb.cell (cell_lt h2)).trans h2, (hb.cell (cell_lt h3)).trans h3⟩
theorem NV.on {w w' : World} {a : Option Addr} {n cap : Nat} {L : List Nd} (h : NV w a n cap L) (hb : Below w.heap.size w w') : NV w' a n cap L :=
  ⟨h.len, h.room, h.small, fun hn => by obtain ⟨b, off, ha, hl⟩ := h.lies hn; exact ⟨b, off, ha, hl.on hb⟩, h.num⟩
end Go.Proofs.YtdggplhkeekdjaaGreatDoor.Wk
