import Derived.Test.YtohojghndnfgdaaGreatDoorPj
import Derived.Test.YtohojghndnfgdaaGreatDoorSa
/-
  DERIVED. A group, written.
-/
namespace Go.Proofs.YtohojghndnfgdaaGreatDoor
open Go Go.Proofs Go.RowKit

def l5 (L : List ByteArray) : List (List UInt8) := [(t5 L 0).data.toList, (t5 L 1).data.toList, (t5 L 2).data.toList, (t5 L 3).data.toList, (t5 L 4).data.toList]
/-- The text of a group. -/
def gB (L : List ByteArray) : ByteArray := ⟨(Lib.join (dropE (l5 L)) [94]).toArray⟩
def gE (L : List ByteArray) : Option Nat :=
  if okc (t5 L 0) = false then some 0 else if okc (t5 L 1) = false then some 1 else if okc (t5 L 2) = false then some 2 else if okc (t5 L 3) = false then some 3 else if okc (t5 L 4) = false then some 4 else none
/-- What a group tells that is to be written. -/
def GT (L : List ByteArray) : Option (Nat × Int) × ByteArray := match gE L with
  | some c => (some (c, 102), ⟨#[]⟩)
  | none => if 64 < rn (gB L) 0 then (some (0, 103), ⟨#[]⟩) else (none, gB L)
theorem gE_at {L : List ByteArray} {c : Nat} (hc : c < 5) (h : ∀ j, j < c → okc (t5 L j) = true) (hb : okc (t5 L c) = false) : gE L = some c := by
  unfold gE
  have h5 : c = 0 ∨ c = 1 ∨ c = 2 ∨ c = 3 ∨ c = 4 := by omega
  rcases h5 with rfl | rfl | rfl | rfl | rfl
  · rw [if_pos hb]
  · rw [if_neg (by rw [h 0 (by omega)]; decide), if_pos hb]
  · rw [if_neg (by rw [h 0 (by omega)]; decide), if_neg (by rw [h 1 (by omega)]; decide), if_pos hb]
  · rw [if_neg (by rw [h 0 (by omega)]; decide), if_neg (by rw [h 1 (by omega)]; decide), if_neg (by rw [h 2 (by omega)]; decide), if_pos hb]
  · rw [if_neg (by rw [h 0 (by omega)]; decide), if_neg (by rw [h 1 (by omega)]; decide), if_neg (by rw [h 2 (by omega)]; decide), if_neg (by rw [h 3 (by omega)]; decide), if_pos hb]
theorem gE_none {L : List ByteArray} (h : ∀ j, j < 5 → okc (t5 L j) = true) : gE L = none := by
  unfold gE
  rw [if_neg (by rw [h 0 (by omega)]; decide), if_neg (by rw [h 1 (by omega)]; decide), if_neg (by rw [h 2 (by omega)]; decide), if_neg (by rw [h 3 (by omega)]; decide), if_neg (by rw [h 4 (by omega)]; decide)]
theorem okc_no {x : ByteArray} (h : okc x = true) (c : UInt8) (hc : c = 94 ∨ c = 61) : c ∉ x.data.toList := by
  intro hm
  have := List.all_eq_true.1 h c hm
  rcases hc with rfl | rfl <;> exact absurd this (by decide)
theorem l5_no {L : List ByteArray} (h : ∀ j, j < 5 → okc (t5 L j) = true) : ∀ x ∈ l5 L, (94 : UInt8) ∉ x ∧ (61 : UInt8) ∉ x := by
  intro x hx
  unfold l5 at hx
  simp only [List.mem_cons, List.not_mem_nil, or_false] at hx
  rcases hx with rfl | rfl | rfl | rfl | rfl
  · exact ⟨okc_no (h 0 (by omega)) _ (.inl rfl), okc_no (h 0 (by omega)) _ (.inr rfl)⟩
  · exact ⟨okc_no (h 1 (by omega)) _ (.inl rfl), okc_no (h 1 (by omega)) _ (.inr rfl)⟩
  · exact ⟨okc_no (h 2 (by omega)) _ (.inl rfl), okc_no (h 2 (by omega)) _ (.inr rfl)⟩
  · exact ⟨okc_no (h 3 (by omega)) _ (.inl rfl), okc_no (h 3 (by omega)) _ (.inr rfl)⟩
  · exact ⟨okc_no (h 4 (by omega)) _ (.inl rfl), okc_no (h 4 (by omega)) _ (.inr rfl)⟩
theorem join_len (sep : List UInt8) : ∀ (xs : List (List UInt8)), (Lib.join xs sep).length ≤ (xs.map List.length).sum + xs.length * sep.length
  | [] => by simp [Lib.join, List.intercalate]
  | [x] => by rw [Lib.join_one]; simp
  | x :: y :: l => by
    have ih := join_len sep (y :: l)
    have e : Lib.join (x :: y :: l) sep = x ++ (sep ++ Lib.join (y :: l) sep) := by simp [Lib.join, List.intercalate, List.intersperse]
    rw [e, List.length_append, List.length_append]
    simp only [List.map_cons, List.sum_cons, List.length_cons] at ih ⊢
    rw [Nat.succ_mul]
    omega
theorem ascii_of {l : List UInt8} (h : l.all (fun b => decide (b.toNat < 128)) = true) : ∀ (j : Nat) b, l[j]? = some b → b.toNat < 128 := fun j b hb => by
  have := List.all_eq_true.1 h b (List.mem_of_getElem? hb)
  exact of_decide_eq_true this
theorem trim18_any (w : World) (s : ByteArray) (c : UInt8) (hc : c.toNat < 128) (hs : s.size ≤ 140737488351232) : Calls Tryz.prog 23 #[.string s, .string ⟨#[c]⟩] w fun e w' => e = .returned (.string ⟨(Lib.trimRightS s.data.toList [c]).toArray⟩) ∧ Below w.heap.size w w' := by
  have hcon := Any.strings_TrimRight_laid Sh.trLays162 (by kernel_rfl) s ⟨#[c]⟩ w (by omega) (by show 1 < 4294967281; decide) (ascii_of (by simpa using hc))
  exact hcon
theorem join19_any (w : World) (b n c : Nat) (xs : List ByteArray) (sep : UInt8) (hn : xs.length = n) (hcells : ∀ (j : Nat) x, xs[j]? = some x → w.cell? ⟨b, j, none⟩ = some (.string x)) (hbk : b < w.heap.size) (hN : n ≤ 1000) (hcap : n ≤ c) (hlen : (Lib.join (xs.map (·.data.toList)) [sep]).length ≤ 140737488351232) :
    Calls Tryz.prog 24 #[.slice (some ⟨b, 0, none⟩) n c, .string ⟨#[sep]⟩] w fun e w' => e = .returned (.string ⟨(Lib.join (xs.map (·.data.toList)) [sep]).toArray⟩) ∧ Below w.heap.size w w' := by
  subst hn
  have := Any.strings_Join Sh.jnLays156 Sh.jnExtra b 0 c xs ⟨#[sep]⟩ w (fun j x hj => by rw [Nat.zero_add]; exact hcells j x hj) hbk (by omega) hcap (by show (Lib.join (xs.map (·.data.toList)) [sep]).length ≤ _; omega)
  exact this
end Go.Proofs.YtohojghndnfgdaaGreatDoor
