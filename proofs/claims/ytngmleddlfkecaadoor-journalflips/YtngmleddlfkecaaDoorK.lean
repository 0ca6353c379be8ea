import Derived.Test.YtngmleddlfkecaaDoorJ
namespace Go.Proofs.YtngmleddlfkecaaDoor
open Go Go.Proofs Go.RowKit

theorem Tryd.info22 : (Tryd.prog.info? 22).map (fun i => (i.zero, i.size, i.bytes)) = some (some (.slice none 0 0), 1, 24) := by kernel_rfl

/-- A frame's body. -/
def bodyP (d : List Nat) : List Nat := (d.drop 13).take (lenP d)
/-- So many frames from the beginning on: the bytes that they have, their bodies. -/
def runP (d : List Nat) : Nat → Option (Nat × List (List Nat))
  | 0 => some (0, [])
  | k + 1 => match runP d k with
    | some (pos, bs) => if frameP (d.drop pos) k then some (pos + (17 + lenP (d.drop pos)), bs ++ [bodyP (d.drop pos)]) else none
    | none => none

theorem runP_step {d : List Nat} {k pos : Nat} {bs : List (List Nat)} (h : runP d k = some (pos, bs)) (hf : frameP (d.drop pos) k = true) : runP d (k + 1) = some (pos + (17 + lenP (d.drop pos)), bs ++ [bodyP (d.drop pos)]) := by
  simp only [runP, h, hf, if_true]

theorem frameP_len {d : List Nat} {k : Nat} (h : frameP d k = true) : 17 + lenP d ≤ d.length ∧ lenP d ≤ 131072 := by
  unfold frameP at h
  simp only [Bool.and_eq_true, decide_eq_true_eq] at h
  have := summedP_len h.2
  rw [List.length_drop] at this
  omega

theorem runP_facts {d : List Nat} : ∀ {k pos : Nat} {bs : List (List Nat)}, runP d k = some (pos, bs) → bs.length = k ∧ pos ≤ d.length ∧ 17 * k ≤ pos
  | 0, pos, bs, h => by
    simp only [runP, Option.some.injEq, Prod.mk.injEq] at h
    obtain ⟨rfl, rfl⟩ := h
    simp
  | k + 1, pos, bs, h => by
    simp only [runP] at h
    cases hr : runP d k with
    | none => rw [hr] at h; simp at h
    | some pb =>
      obtain ⟨p, b⟩ := pb
      rw [hr] at h
      simp only at h
      by_cases hf : frameP (d.drop p) k = true
      · rw [if_pos hf] at h
        simp only [Option.some.injEq, Prod.mk.injEq] at h
        obtain ⟨rfl, rfl⟩ := h
        have ih := runP_facts hr
        have h1 := (frameP_len hf).1
        rw [List.length_drop] at h1
        refine ⟨by simp [ih.1], by omega, by omega⟩
      · rw [if_neg hf] at h; simp at h

/-- Where the frames end. -/
def EndP (d : List Nat) (k pos : Nat) (bs : List (List Nat)) : Prop := runP d k = some (pos, bs) ∧ frameP (d.drop pos) k = false

/-- Bytes of our own, a list of them. -/
def VV (w : World) (B : Nat) (v : Value) (bss : List (List Nat)) : Prop := ∃ cells : List Value, w.ownsRow B 22 1 v bss.length cells ∧ ∀ i, i < bss.length → Own w B (cells.getD i undef) (bss.getD i [])

theorem VV.next {w w' : World} {B : Nat} {v : Value} {bss : List (List Nat)} (h : VV w B v bss) (hb : Below w.heap.size w w') : VV w' B v bss := by
  obtain ⟨cells, h1, h2⟩ := h
  exact ⟨cells, owns_next h1 hb, fun i hi => (h2 i hi).next hb⟩

/-- Rows of other types are other rows. -/
theorem Own.grown {w w' : World} {B n : Nat} {v u : Value} {bs : List Nat} {xs : List Value} (h : Own w B v bs) (ho : w.ownsRow B 22 1 u n xs) (hg : w.grownBy w' u.ownBlock) : Own w' B v bs := by
  refine ⟨h.1.kept hg ?_, h.2⟩
  rcases h.1.2 with ⟨rfl, _⟩ | ⟨g, cap, cur, rfl, _, h2, _⟩
  · exact .inl rfl
  · refine .inr ?_
    rcases ho.2 with ⟨rfl, _⟩ | ⟨g', cap', cur', rfl, _, h2', _⟩
    · simp [Value.ownBlock]
    · simp only [Value.ownBlock]
      intro he
      simp at he
      subst he
      rw [h2] at h2'
      simp at h2'

theorem VV.push {w w1 w2 : World} {B : Nat} {v v1 v2 : Value} {bss : List (List Nat)} {body : List Nat} {cells : List Value}
    (ho : w.ownsRow B 22 1 v bss.length cells) (hi : ∀ i, i < bss.length → Own w B (cells.getD i undef) (bss.getD i [])) (hg1 : Below w.heap.size w w1) (hn : Own w1 B v1 body)
    (ho1 : w1.ownsRow B 22 1 v bss.length cells) (ho2 : w2.ownsRow B 22 1 v2 (bss.length + 1) (cells ++ [v1])) (hg2 : w1.grownBy w2 v.ownBlock) : VV w2 B v2 (bss ++ [body]) := by
  have hcl : cells.length = bss.length := by simpa using ho.1
  refine ⟨cells ++ [v1], by simpa using ho2, ?_⟩
  intro i hii
  rw [List.length_append] at hii
  by_cases h : i < bss.length
  · have := (hi i h).next hg1
    have e1 : (cells ++ [v1]).getD i undef = cells.getD i undef := by simp [List.getD_eq_getElem?_getD, List.getElem?_append_left (show i < cells.length by omega)]
    have e2 : (bss ++ [body]).getD i [] = bss.getD i [] := by simp [List.getD_eq_getElem?_getD, List.getElem?_append_left h]
    rw [e1, e2]
    exact this.grown ho1 hg2
  · have hie : i = bss.length := by simp at hii; omega
    subst hie
    have e1 : (cells ++ [v1]).getD bss.length undef = v1 := by rw [← hcl]; simp [List.getD_eq_getElem?_getD]
    have e2 : (bss ++ [body]).getD bss.length [] = body := by simp [List.getD_eq_getElem?_getD]
    rw [e1, e2]
    exact hn.grown ho1 hg2
end Go.Proofs.YtngmleddlfkecaaDoor
