
import Derived.Test.YtnheeenkdjmhoaaDoorA
import Derived.BigQuiet
import Derived.WideMake
import Derived.Room.AppendFits
/-
  DERIVED. Bytes that are lent, and what is left of them.
-/
namespace Go.Proofs.YtnheeenkdjmhoaaDoor
open Go Go.Proofs Go.RowKit

/-- Bytes that lie there. -/
def At (w : World) (b off : Nat) (bs : List Nat) : Prop := (∀ k, k < bs.length → w.cell? ⟨b, off + k, none⟩ = some (.int .u8 (bs.getD k 0 : Nat))) ∧ (∀ x ∈ bs, x < 256)
/-- A slice value, read: these bytes. -/
def V (w : World) (v : Value) (bs : List Nat) : Prop :=
  (∃ ao cap, v = .slice ao 0 cap ∧ bs = []) ∨ (∃ b off cap, v = .slice (some ⟨b, off, none⟩) bs.length cap ∧ 0 < bs.length ∧ bs.length ≤ cap ∧ At w b off bs)


theorem info5s : (Tryd.prog.info? 5).map (fun i => (i.zero, i.size, i.bytes)) = some (some (.int .u8 0), 1, 1) := by kernel_rfl

def u8s (bs : List Nat) : List Value := bs.map fun (b : Nat) => Value.int .u8 (b : Int)

/-- Bytes in memory of our own, from block B on. -/
def Own (w : World) (B : Nat) (v : Value) (bs : List Nat) : Prop := w.ownsRow B 5 1 v bs.length (u8s bs) ∧ ∀ x ∈ bs, x < 256

theorem At.next {w w' : World} {b off : Nat} {bs : List Nat} (h : At w b off bs) (hb : Below w.heap.size w w') : At w' b off bs :=
  ⟨fun k hk => (hb.cell (World.block_lt_of_cell? w ⟨b, off + k, none⟩ (h.1 k hk))).trans (h.1 k hk), h.2⟩

theorem V.next {w w' : World} {v : Value} {bs : List Nat} (h : V w v bs) (hb : Below w.heap.size w w') : V w' v bs := by
  rcases h with h | ⟨b, off, cap, rfl, hp, hc, h⟩
  · exact .inl h
  · exact .inr ⟨b, off, cap, rfl, hp, hc, h.next hb⟩

theorem u8s_length (bs : List Nat) : (u8s bs).length = bs.length := by simp [u8s]

theorem u8s_get (bs : List Nat) (k : Nat) (hk : k < bs.length) : (u8s bs)[k]? = some (.int .u8 (bs.getD k 0 : Nat)) := by
  simp [u8s, List.getElem?_eq_getElem hk]

theorem u8s_take_succ {bs : List Nat} {k : Nat} (hk : k < bs.length) : u8s (bs.take k) ++ [.int .u8 (bs.getD k 0 : Nat)] = u8s (bs.take (k + 1)) := by
  rw [List.take_add_one, List.getElem?_eq_getElem hk]
  unfold u8s
  rw [List.map_append, List.getD_eq_getElem?_getD, List.getElem?_eq_getElem hk]
  rfl

theorem u8s_append (a b : List Nat) : u8s (a ++ b) = u8s a ++ u8s b := by simp [u8s]

theorem V.form {w : World} {v : Value} {bs : List Nat} (h : V w v bs) : ∃ ao cap, v = .slice ao bs.length cap ∧ (0 < bs.length → ∃ b off, ao = some ⟨b, off, none⟩ ∧ At w b off bs) ∧ ∀ x ∈ bs, x < 256 := by
  rcases h with ⟨a1, c1, rfl, rfl⟩ | ⟨b1, o1, c1, rfl, hp1, _, h1⟩
  · exact ⟨_, _, rfl, by simp, by simp⟩
  · exact ⟨_, _, rfl, fun _ => ⟨_, _, rfl, h1⟩, h1.2⟩

theorem take_succ_eq {l1 l2 : List Nat} {k : Nat} (h1 : k < l1.length) (h2 : k < l2.length) : (l1.take (k + 1) = l2.take (k + 1)) ↔ (l1.take k = l2.take k ∧ l1.getD k 0 = l2.getD k 0) := by
  rw [List.take_add_one, List.take_add_one, List.getElem?_eq_getElem h1, List.getElem?_eq_getElem h2, List.getD_eq_getElem?_getD, List.getD_eq_getElem?_getD, List.getElem?_eq_getElem h1, List.getElem?_eq_getElem h2]
  simp only [Option.toList_some, Option.getD_some]
  constructor
  · intro h
    have := List.append_inj' h (by simp)
    simpa using this
  · rintro ⟨ha, hb⟩
    rw [ha, hb]

theorem ownsRow_below {w w' : World} {A base : Nat} {e : TypeId} {size : Nat} {v : Value} {n : Nat} {xs : List Value} (h : w.ownsRow base e size v n xs) (hb : Below A w w') (hA : w.heap.size ≤ A) : w'.ownsRow base e size v n xs := by
  refine ⟨h.1, ?_⟩
  rcases h.2 with h2 | ⟨g, cap, cur, hv, hg, hh, r⟩
  · exact .inl h2
  · have hlt : g < w.heap.size := (Array.getElem?_eq_some_iff.1 hh).1
    exact .inr ⟨g, cap, cur, hv, hg, (hb.block g (by omega)).trans hh, r⟩

/-- What was lent, with its marks. -/
def Lent (w : World) (B g : Nat) (bs : List Nat) : Prop := Own w B (.slice (some ⟨g, 0, none⟩) (bs.length + 3) (bs.length + 3)) (bs ++ [160, 161, 162])

theorem Lent.next {w w' : World} {B g : Nat} {bs : List Nat} (h : Lent w B g bs) (hb : Below w.heap.size w w') : Lent w' B g bs := ⟨ownsRow_below h.1 hb (Nat.le_refl _), h.2⟩

theorem Lent.cell {w : World} {B g : Nat} {bs : List Nat} (h : Lent w B g bs) (k : Nat) (hk : k < bs.length + 3) : w.cell? ⟨g, k, none⟩ = some (.int .u8 ((bs ++ [160, 161, 162]).getD k 0 : Nat)) := by
  have h1 := h.1
  simp only [List.length_append, List.length_cons, List.length_nil] at h1
  have := h1.cellAt (g := g) (cap := bs.length + 3) k (by omega)
  rw [this, u8s_get _ k (by simpa using hk)]

theorem Lent.v {w : World} {B g : Nat} {bs : List Nat} (h : Lent w B g bs) {cap : Nat} (hcap : bs.length ≤ cap) : V w (.slice (some ⟨g, 0, none⟩) bs.length cap) bs := by
  by_cases hp : 0 < bs.length
  · refine .inr ⟨g, 0, cap, rfl, hp, hcap, ?_, fun x hx => h.2 x (by simp [hx])⟩
    intro k hk
    rw [Nat.zero_add, h.cell k (by omega)]
    simp [List.getD_eq_getElem?_getD, List.getElem?_append_left hk]
  · have h0 : bs = [] := List.eq_nil_of_length_eq_zero (by omega)
    subst h0
    exact .inl ⟨_, _, rfl, rfl⟩

end Go.Proofs.YtnheeenkdjmhoaaDoor
