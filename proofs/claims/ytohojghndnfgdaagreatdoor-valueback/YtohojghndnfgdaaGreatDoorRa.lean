import Derived.Test.YtohojghndnfgdaaGreatDoorPn
/-
  DERIVED. Pieces of a text: cut, joined, and cut again.
-/
namespace Go.Proofs.YtohojghndnfgdaaGreatDoor
open Go Go.Proofs Go.RowKit

/-- The pieces between marks. -/
def sp (c : UInt8) : List UInt8 → List (List UInt8)
  | [] => [[]]
  | b :: l => if b = c then [] :: sp c l else (b :: (sp c l).headD []) :: (sp c l).tail
theorem sp_ne (c : UInt8) (l : List UInt8) : sp c l ≠ [] := by
  cases l with
  | nil => simp [sp]
  | cons b l => unfold sp; split <;> simp
theorem sp_none (c : UInt8) : ∀ x : List UInt8, c ∉ x → sp c x = [x]
  | [], _ => rfl
  | b :: l, h => by
    have hb : b ≠ c := fun e => h (by simp [e])
    rw [sp, if_neg hb, sp_none c l (fun e => h (List.mem_cons_of_mem _ e))]
    rfl
theorem sp_app (c : UInt8) : ∀ x l : List UInt8, c ∉ x → sp c (x ++ c :: l) = x :: sp c l
  | [], l, _ => by rw [List.nil_append, sp, if_pos rfl]
  | b :: x, l, h => by
    have hb : b ≠ c := fun e => h (by simp [e])
    rw [List.cons_append, sp, if_neg hb, sp_app c x l (fun e => h (List.mem_cons_of_mem _ e))]
    rfl
theorem join_two (c : UInt8) (x y : List UInt8) (r : List (List UInt8)) : Lib.join (x :: y :: r) [c] = x ++ c :: Lib.join (y :: r) [c] := by
  rw [Lib.join_cons, Lib.join_cons]
  simp [Lib.joinTail]
theorem sp_join (c : UInt8) : ∀ xs : List (List UInt8), xs ≠ [] → (∀ x ∈ xs, c ∉ x) → sp c (Lib.join xs [c]) = xs
  | [], h, _ => absurd rfl h
  | [x], _, h => by rw [Lib.join_one]; exact sp_none c x (h x (by simp))
  | x :: y :: r, _, h => by
    rw [join_two, sp_app c x _ (h x (by simp)), sp_join c (y :: r) (by simp) (fun z hz => h z (List.mem_cons_of_mem _ hz))]
theorem join_sp (c : UInt8) : ∀ l : List UInt8, Lib.join (sp c l) [c] = l
  | [] => by rw [sp, Lib.join_one]
  | b :: l => by
    have ih := join_sp c l
    have hne := sp_ne c l
    unfold sp
    split
    · rename_i hb
      subst hb
      cases hs : sp b l with
      | nil => exact absurd hs hne
      | cons y r => rw [hs] at ih; rw [join_two, ih]; rfl
    · cases hs : sp c l with
      | nil => exact absurd hs hne
      | cons y r =>
        rw [hs, Lib.join_cons] at ih
        show Lib.join ((b :: y) :: r) [c] = _
        rw [Lib.join_cons, List.cons_append, ih]
theorem sp_mem (c : UInt8) : ∀ (l x : List UInt8), x ∈ sp c l → c ∉ x
  | [], x, h => by
    obtain rfl : x = [] := by simpa [sp] using h
    simp
  | b :: l, x, h => by
    have hne := sp_ne c l
    unfold sp at h
    split at h
    · rcases List.mem_cons.1 h with rfl | h
      · simp
      · exact sp_mem c l x h
    · rename_i hb
      cases hs : sp c l with
      | nil => exact absurd hs hne
      | cons y r =>
        rw [hs] at h
        rcases List.mem_cons.1 h with rfl | h
        · intro hc
          rcases List.mem_cons.1 hc with e | e
          · exact hb e.symm
          · exact sp_mem c l y (by rw [hs]; simp) e
        · exact sp_mem c l x (by rw [hs]; exact List.mem_cons_of_mem _ h)
theorem sp_sub (c : UInt8) : ∀ (l x : List UInt8), x ∈ sp c l → ∀ b ∈ x, b ∈ l
  | [], x, h, b, hb => by
    obtain rfl : x = [] := by simpa [sp] using h
    exact hb
  | a :: l, x, h, b, hb => by
    have hne := sp_ne c l
    unfold sp at h
    split at h
    · rcases List.mem_cons.1 h with rfl | h
      · cases hb
      · exact List.mem_cons_of_mem _ (sp_sub c l x h b hb)
    · cases hs : sp c l with
      | nil => exact absurd hs hne
      | cons y r =>
        rw [hs] at h
        rcases List.mem_cons.1 h with rfl | h
        · rcases List.mem_cons.1 hb with rfl | e
          · simp
          · exact List.mem_cons_of_mem _ (sp_sub c l y (by rw [hs]; simp) b e)
        · exact List.mem_cons_of_mem _ (sp_sub c l x (by rw [hs]; exact List.mem_cons_of_mem _ h) b hb)

theorem dropE_nil (ys : List (List UInt8)) : dropE (ys ++ [[]]) = dropE ys := by simp [dropE]
theorem dropE_keep (ys : List (List UInt8)) (z : List UInt8) (hz : z ≠ []) : dropE (ys ++ [z]) = ys ++ [z] := by
  unfold dropE
  rw [List.reverse_append, List.reverse_singleton, List.singleton_append, List.dropWhile_cons_of_neg (by cases z; exact absurd rfl hz; simp), List.reverse_cons, List.reverse_reverse]
theorem snoc_of {α : Type} (l : List α) (n : Nat) (h : l.length = n + 1) : ∃ ys z, l = ys ++ [z] ∧ ys.length = n :=
  ⟨l.dropLast, l.getLast (by rintro rfl; simp at h), (List.dropLast_concat_getLast _).symm, by simp [h]⟩
theorem getD_nil {α : Type} (ys : List (List α)) (j : Nat) : (ys ++ [[]]).getD j [] = ys.getD j [] := by
  rw [List.getD_eq_getElem?_getD, List.getD_eq_getElem?_getD]
  by_cases h : j < ys.length
  · rw [List.getElem?_append_left h]
  · rw [List.getElem?_append_right (by omega), List.getElem?_eq_none (l := ys) (by omega)]
    cases h2 : ([([] : List α)])[j - ys.length]? with
    | none => rfl
    | some v =>
      have := List.mem_of_getElem? h2
      simp at this
      subst this
      rfl
theorem dropE_getD : ∀ (n : Nat) (xs : List (List UInt8)), xs.length = n → ∀ j, (dropE xs).getD j [] = xs.getD j []
  | 0, xs, hn, j => by
    obtain rfl := List.length_eq_zero_iff.1 hn
    rfl
  | n + 1, xs, hn, j => by
    obtain ⟨ys, z, rfl, hl⟩ := snoc_of xs n hn
    by_cases hz : z = []
    · subst hz
      rw [dropE_nil, getD_nil]
      exact dropE_getD n ys hl j
    · rw [dropE_keep ys z hz]
theorem dropE_pad (xs : List (List UInt8)) : ∀ k, dropE (xs ++ List.replicate k []) = dropE xs
  | 0 => by simp
  | k + 1 => by
    rw [List.replicate_succ', ← List.append_assoc, dropE_nil, dropE_pad xs k]

/-- A text without its last marks. -/
def trm (c : UInt8) (l : List UInt8) : List UInt8 := Lib.join (dropE (sp c l)) [c]
theorem trm_is (c : UInt8) (l : List UInt8) : trm c l = Lib.trimRightS l [c] := by
  unfold trm
  rw [← trim_join c _ (sp c l) rfl (fun x hx => sp_mem c l x hx), join_sp]
/-- Cut again: the same pieces. -/
theorem sp_trm (c : UInt8) (l : List UInt8) (j : Nat) : (sp c (trm c l)).getD j [] = (sp c l).getD j [] := by
  unfold trm
  by_cases h : dropE (sp c l) = []
  · rw [← dropE_getD _ (sp c l) rfl j, h]
    show (sp c []).getD j [] = _
    rw [sp]
    cases j <;> rfl
  · rw [sp_join c _ h (fun x hx => sp_mem c l x (dropE_mem hx)), dropE_getD _ _ rfl]
theorem sp_trm_len (c : UInt8) (l : List UInt8) : (sp c (trm c l)).length ≤ (sp c l).length := by
  unfold trm
  by_cases h : dropE (sp c l) = []
  · rw [h]
    show (sp c []).length ≤ _
    rw [sp]
    have := List.length_pos_iff.2 (sp_ne c l)
    simp; omega
  · rw [sp_join c _ h (fun x hx => sp_mem c l x (dropE_mem hx))]
    exact (dropE_len _).1
theorem trm_pre (c : UInt8) (l : List UInt8) : ∃ k, l = trm c l ++ List.replicate k c := by
  rw [trm_is]
  refine ⟨(l.reverse.takeWhile ([c].contains ·)).length, ?_⟩
  unfold Lib.trimRightS
  have h1 : (l.reverse.takeWhile ([c].contains ·)) = List.replicate (l.reverse.takeWhile ([c].contains ·)).length c := by
    apply List.eq_replicate_iff.2 ⟨rfl, fun b hb => ?_⟩
    have := List.all_takeWhile (p := ([c].contains ·)) (l := l.reverse)
    simpa using List.all_eq_true.1 this b hb
  have h2 := List.takeWhile_append_dropWhile (p := ([c].contains ·)) (l := l.reverse)
  have h3 := congrArg List.reverse h2
  rw [List.reverse_append, List.reverse_reverse, h1, List.reverse_replicate] at h3
  exact h3.symm
end Go.Proofs.YtohojghndnfgdaaGreatDoor
