
import Derived.Test.YtghaeolehjgmnaaGreatDoorOe
import Derived.Test.YtghaeolehjgmnaaGreatDoorOg
/-
  DERIVED. Has, by the program and by the document.
-/
namespace Go.Proofs.YtghaeolehjgmnaaGreatDoor
open Go Go.Proofs Go.RowKit Go.Maps

def asc (r : Int) : Bool := decide (32 ≤ r) && decide (r ≤ 126)
def wid (r : Int) : Bool := decide (160 ≤ r) && decide (r ≤ 1114111) && !(decide (55296 ≤ r) && decide (r ≤ 57343))

set_option maxRecDepth 100000 in
theorem ascii_any (w : World) (r : Int) : Calls Tryz.prog 62 #[.int .i32 r] w fun e w' => e = .returned (.bool (asc r)) ∧ w = w' := by
  unfold asc
  by_cases h1 : 32 ≤ r
  · have d1 : decide (32 ≤ r) = true := by simpa using h1
    go_enter Tryz.func62, Tryz.ntmps62
    go_wp2
    go_ret
    exact ⟨by rw [d1]; rfl, rfl⟩
  · have d1 : decide (32 ≤ r) = false := by simpa using h1
    go_enter Tryz.func62, Tryz.ntmps62
    go_wp2
    go_ret
    exact ⟨rfl, rfl⟩

theorem wide_cases (r : Int) : (wid r = true ∧ 160 ≤ r ∧ r ≤ 1114111 ∧ (r < 55296 ∨ 57343 < r)) ∨ (wid r = false ∧ (r < 160 ∨ (160 ≤ r ∧ 1114111 < r) ∨ (160 ≤ r ∧ r ≤ 1114111 ∧ 55296 ≤ r ∧ r ≤ 57343))) := by
  cases h : wid r with
  | true =>
    unfold wid at h
    simp only [Bool.and_eq_true, decide_eq_true_eq, Bool.not_eq_true', Bool.and_eq_false_iff, decide_eq_false_iff_not] at h
    exact .inl ⟨rfl, h.1.1, h.1.2, by omega⟩
  | false =>
    refine .inr ⟨rfl, ?_⟩
    unfold wid at h
    simp only [Bool.and_eq_false_iff, decide_eq_false_iff_not, Bool.not_eq_false', Bool.and_eq_true, decide_eq_true_eq] at h
    omega

set_option maxRecDepth 100000 in
theorem valid_any (w : World) (r : Int) (h : 160 ≤ r) : Calls Tryz.prog 79 #[.int .i32 r] w fun e w' => e = .returned (.bool (wid r)) ∧ w = w' := by
  rcases wide_cases r with ⟨hw, h1, h2, h3 | h3⟩ | ⟨hw, h3 | ⟨_, h3⟩ | ⟨_, h3, h4, h5⟩⟩
  · rw [hw]
    clear hw
    go_enter Tryz.func79, Tryz.ntmps79
    go_wp2
    go_ret
    exact ⟨rfl, rfl⟩
  · rw [hw]
    clear hw
    go_enter Tryz.func79, Tryz.ntmps79
    go_wp2
    go_ret
    exact ⟨rfl, rfl⟩
  · omega
  · rw [hw]
    clear hw
    go_enter Tryz.func79, Tryz.ntmps79
    go_wp2
    go_ret
    exact ⟨rfl, rfl⟩
  · rw [hw]
    clear hw
    go_enter Tryz.func79, Tryz.ntmps79
    go_wp2
    go_ret
    exact ⟨rfl, rfl⟩

set_option maxRecDepth 100000 in
theorem isWide_any (w : World) (r : Int) : Calls Tryz.prog 64 #[.int .i32 r] w fun e w' => e = .returned (.bool (wid r)) ∧ w = w' := by
  by_cases h : 160 ≤ r
  · have c := valid_any w r h
    generalize wid r = b at c ⊢
    go_enter Tryz.func64, Tryz.ntmps64
    go_wp2_with (go_at_call 79; refine c.mono ?_; rintro e w' ⟨rfl, rfl⟩)
    go_ret
    exact ⟨rfl, rfl⟩
  · have hw : wid r = false := by unfold wid; simp [h]
    rw [hw]
    go_enter Tryz.func64, Tryz.ntmps64
    go_wp2
    go_ret
    exact ⟨rfl, rfl⟩

set_option maxRecDepth 100000 in
theorem rwide_any (w : World) (r : Int) : Calls Tryz.prog 21 #[.int .i32 r] w fun e w' => e = .returned (.bool (wid r)) ∧ w = w' := by
  rcases wide_cases r with ⟨hw, h1, h2, h3 | h3⟩ | ⟨hw, h3 | ⟨h4, h3⟩ | ⟨h6, h3, h4, h5⟩⟩
  all_goals rw [hw]
  all_goals clear hw
  all_goals go_enter Tryz.func21, Tryz.ntmps21
  all_goals go_wp2
  all_goals go_ret
  all_goals first | exact ⟨rfl, rfl⟩ | exact ⟨by simp; omega, rfl⟩

set_option maxRecDepth 100000 in
theorem univ_any (w : World) (q : Nat) (v : Value) (a : Row) (R : List Row) (x : Bool) (h : SetIn w q v (a :: R) x) : Calls Tryz.prog 48 #[.pointer (some ⟨q, 0, none⟩)] w fun e w' => e = .returned (.bool (a.1 == 6)) ∧ w = w' := by
  obtain ⟨ao, cap, rfl⟩ := h.val
  have h0 := h.c0
  obtain ⟨g, rfl, -, r0, -⟩ := h.row 0 a rfl
  simp only [List.length_cons] at h0
  rw [Nat.zero_mul] at r0
  have hb : ((a.1 : Int) == 6) = (a.1 == 6) := by
    cases hx : (a.1 == 6) with
    | true => simp at hx; rw [hx]; rfl
    | false => simp at hx; simp; omega
  have hl : (0 : Int) < ((R.length : Int) + 1) := by omega
  generalize R.length = n at h0 hl
  generalize a.1 = m at r0 hb ⊢
  generalize (m == 6) = y at hb ⊢
  clear h
  go_enter Tryz.func48, Tryz.ntmps48
  go_wp2
  go_ret
  exact ⟨rfl, rfl⟩

theorem madeIn (w : World) (q : Nat) (v : Value) (a : Row) (R : List Row) (x : Bool) (h : SetIn w q v (a :: R) x) : Calls Tryz.prog 34 #[.pointer (some ⟨q, 0, none⟩)] w fun e w' => e = .returned (.bool true) ∧ w = w' := by
  obtain ⟨ao, cap, rfl⟩ := h.val
  have h0 := h.c0
  simp only [List.length_cons] at h0
  generalize R.length = n at h0
  clear h
  go_enter Tryz.func34, Tryz.ntmps34
  go_wp2
  go_ret
  exact ⟨rfl, rfl⟩

/-- Whether a rune can be written. -/
def hasS (a : Row) (R : List Row) (r : Int) : Bool := asc r || (if a.1 == 6 then wid r else !(firstB r (a :: R) == 0))

theorem repN_six : ∀ a : Fin 7, ((repN a.val : Int) == 192) = (a.val == 6) := by decide

/-- Whether a rune can be written, for the document. -/
def hitR (r : Int) (a : Nat × ByteArray) : Bool := (a.1 == 6 && wid r) || (decide (160 ≤ r) && !(writesN a.1 r == 0))
def rhasS (N : List (Nat × ByteArray)) (r : Int) : Bool := asc r || N.any (hitR r)

end Go.Proofs.YtghaeolehjgmnaaGreatDoor
