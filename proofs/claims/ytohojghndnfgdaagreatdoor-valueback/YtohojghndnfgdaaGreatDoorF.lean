import Derived.Test.YtohojghndnfgdaaGreatDoorH
import Derived.Test.YtohojghndnfgdaaGreatDoorE
import Derived.Deep.OwnRows
section
/-
  DERIVED. The document's elements of a text, walked.
-/
namespace Go.Proofs.YtohojghndnfgdaaGreatDoor
open Go Go.Proofs Go.RowKit

def rels (s : ByteArray) : Nat → Nat → List Int
  | 0, _ => []
  | fuel + 1, pos => if pos < s.size then oneV s pos :: rels s fuel (pos + oneW s pos) else []
def relems (s : ByteArray) : List Int := rels s s.size 0

/-- What an element is made of. -/
theorem shape (s : ByteArray) (pos : Nat) (h : pos < s.size) :
    ((Utf8.decode s pos).2 = 1 ∧ (((Utf8.decode s pos).1 = (s.get! pos).toNat ∧ (s.get! pos).toNat < 128) ∨ ((Utf8.decode s pos).1 = 65533 ∧ 128 ≤ (s.get! pos).toNat))) ∨
    ((Utf8.decode s pos).2 = 2 ∧ pos + 2 ≤ s.size ∧ 194 ≤ (s.get! pos).toNat ∧ (s.get! pos).toNat ≤ 223 ∧ 128 ≤ (s.get! (pos + 1)).toNat ∧ (s.get! (pos + 1)).toNat ≤ 191 ∧ (Utf8.decode s pos).1 = ((s.get! pos).toNat - 192) * 64 + ((s.get! (pos + 1)).toNat - 128)) ∨
    ((Utf8.decode s pos).2 = 3 ∧ pos + 3 ≤ s.size ∧ 224 ≤ (s.get! pos).toNat ∧ 128 ≤ (s.get! (pos + 1)).toNat ∧ (s.get! (pos + 1)).toNat ≤ 191 ∧ 128 ≤ (s.get! (pos + 2)).toNat ∧ (s.get! (pos + 2)).toNat ≤ 191 ∧ 2048 ≤ (Utf8.decode s pos).1) ∨
    ((Utf8.decode s pos).2 = 4 ∧ pos + 4 ≤ s.size ∧ 224 ≤ (s.get! pos).toNat ∧ 128 ≤ (s.get! (pos + 1)).toNat ∧ (s.get! (pos + 1)).toNat ≤ 191 ∧ 128 ≤ (s.get! (pos + 2)).toNat ∧ (s.get! (pos + 2)).toNat ≤ 191 ∧ 128 ≤ (s.get! (pos + 3)).toNat ∧ (s.get! (pos + 3)).toNat ≤ 191 ∧ 65536 ≤ (Utf8.decode s pos).1) := by
  rw [Lib.decode_at]
  have h0 := lt256 s pos
  have h1 := lt256 s (pos + 1)
  have h2 := lt256 s (pos + 2)
  have h3 := lt256 s (pos + 3)
  generalize (s.get! pos).toNat = b0 at *
  generalize (s.get! (pos + 1)).toNat = b1 at *
  generalize (s.get! (pos + 2)).toNat = b2 at *
  generalize (s.get! (pos + 3)).toNat = b3 at *
  generalize hn : s.size - pos = n at *
  unfold Lib.decodeN
  repeat' split
  all_goals first
    | exact .inl ⟨rfl, .inl ⟨rfl, by omega⟩⟩
    | exact .inl ⟨rfl, .inr ⟨rfl, by omega⟩⟩
    | exact .inr (.inl ⟨rfl, by omega, by omega, by omega, by omega, by omega, by simp only; omega⟩)
    | exact .inr (.inr (.inl ⟨rfl, by omega, by omega, by omega, by omega, by omega, by omega, by simp only; omega⟩))
    | exact .inr (.inr (.inr ⟨rfl, by omega, by omega, by omega, by omega, by omega, by omega, by omega, by omega, by simp only; omega⟩))

theorem rels_end (s : ByteArray) (fuel pos : Nat) (h : ¬ pos < s.size) : rels s fuel pos = [] := by
  cases fuel with
  | zero => rfl
  | succ f => simp [rels, h]

def i64C (l : List Int) : List Value := l.map (.int .i64)
theorem i64C_one (l : List Int) : ∀ u ∈ i64C l, u.oneCell' = true := by
  intro u hu
  obtain ⟨x, _, rfl⟩ := List.mem_map.1 hu
  rfl
theorem i64C_append (l r : List Int) : i64C (l ++ r) = i64C l ++ i64C r := List.map_append
theorem i64Info : (Tryz.prog.info? 3).map (fun i => (i.zero, i.size, i.bytes)) = some (some (.int .i64 0), 1, 8) := by kernel_rfl

theorem oneW_pos (s : ByteArray) (pos : Nat) (h : pos < s.size) : 1 ≤ oneW s pos := width_pos s pos h
theorem oneW_le (s : ByteArray) (pos : Nat) : oneW s pos ≤ 4 := by
  unfold oneW
  rw [Lib.decode_at]
  unfold Lib.decodeN
  repeat' split
  all_goals simp only
  all_goals omega

theorem own_rd64 {w : World} {B : Nat} {v : Value} {l : List Int} (h : w.ownsRow B 3 1 v l.length (i64C l)) : ∃ a cap, v = .slice a l.length cap ∧ l.length ≤ cap ∧ (∀ k x, l[k]? = some x → ∃ g, a = some ⟨g, 0, none⟩ ∧ w.cell? ⟨g, k, none⟩ = some (.int .i64 x)) := by
  rcases h.2 with ⟨rfl, h0⟩ | ⟨g, cap, cur, rfl, hb, hg, hn, hm, hc, hx⟩
  · refine ⟨none, 0, by rw [h0], by omega, ?_⟩
    intro k x hk
    have := (List.getElem?_eq_some_iff.1 hk).1
    omega
  · refine ⟨some ⟨g, 0, none⟩, cap, rfl, hn, ?_⟩
    intro k x hk
    refine ⟨g, rfl, ?_⟩
    have := h.cells (g := g) rfl k (.int .i64 x) (by unfold i64C; rw [List.getElem?_map, hk]; rfl)
    have hadd : (⟨g, 0, none⟩ : Addr).add k = ⟨g, k, none⟩ := by unfold Addr.add; split <;> simp_all
    rw [hadd] at this
    exact this
theorem rels_len (s : ByteArray) : ∀ fuel pos, (rels s fuel pos).length ≤ fuel
  | 0, _ => by simp [rels]
  | f + 1, pos => by
    rw [rels]
    split
    · have := rels_len s f (pos + oneW s pos)
      simp; omega
    · simp
theorem relems_len (s : ByteArray) : (relems s).length ≤ s.size := rels_len s _ _

end Go.Proofs.YtohojghndnfgdaaGreatDoor
end

section
/-
  DERIVED. The places of the document's faults.
-/
namespace Go.Proofs.YtohojghndnfgdaaGreatDoor
open Go Go.Proofs Go.RowKit

def fN : Nat → Value := fun k => if k = 0 then .slice none 0 0 else .int .i64 0
def notStr : Value → Bool
  | .string _ => false
  | _ => true
theorem RErr.tset {W : World} {v : Value} {o : Option (Int × Int)} (h : RErr W v o) {B : Nat} {x : Value} (hx : notStr x = true) (h0 : W.cell? ⟨B, 0, none⟩ = some x) (i : Nat) (u : Value) : RErr (W.setCell ⟨B, i, none⟩ u) v o := by
  cases o with
  | none => exact h
  | some y =>
    obtain ⟨q, k, rfl, h1, h2⟩ := h
    have hne : q ≠ B := by rintro rfl; rw [h0] at h1; obtain rfl := Option.some.inj h1; cases hx
    have hb : (W.setCell ⟨B, i, none⟩ u).heap[q]? = W.heap[q]? := Below.heap_setCell W ⟨B, i, none⟩ u q hne
    exact ⟨q, k, rfl, (World.cell?_of_block (w := W) hb).trans h1, (World.cell?_of_block (w := W) hb).trans h2⟩
/-- A fault laid into its cell. -/
def putF (W : World) (B : Nat) (a b : Value) : World := (W.setCell ⟨B, 0, none⟩ a).setCell ⟨B, 1, none⟩ b
theorem putF_below {w W : World} {B0 B : Nat} (h : Below B0 w W) (hB : B0 ≤ B) (a b : Value) : Below B0 w (putF W B a b) :=
  (h.setCell (p := ⟨B, 0, none⟩) hB _).setCell (p := ⟨B, 1, none⟩) hB _
def PostF (w : World) (V : Value) (o : Option (Int × Int)) (e : Ending) (w' : World) : Prop := ∃ v, e = .returned (.tuple #[V, v]) ∧ RErr w' v o ∧ Below w.heap.size w w'
def PostP (w : World) (V : Value) (o : Option (Int × Int)) (e : Ending) (w' : World) : Prop := ∃ v, e = .returned (.tuple #[V, v]) ∧ PErr w' v o ∧ Below w.heap.size w w'

end Go.Proofs.YtohojghndnfgdaaGreatDoor
end
