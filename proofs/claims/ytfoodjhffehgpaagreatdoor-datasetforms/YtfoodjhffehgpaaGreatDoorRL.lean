import Derived.Test.YtfoodjhffehgpaaGreatDoorRK
/-
  DERIVED. A VR's letters, read.
-/
namespace Go.Proofs.YtfoodjhffehgpaaGreatDoor.Rp
open Go Go.Proofs Go.RowKit

/-- A fault of this layer, as it lies in memory. -/
def FaultAt (w : World) (q : Nat) (a c : Int) : Prop :=
  w.cell? ⟨q, 0, none⟩ = some (.string { data := #[100, 105, 99, 116] }) ∧ w.cell? ⟨q, 1, none⟩ = some (.int .i64 a) ∧ w.cell? ⟨q, 2, none⟩ = some (.iface 74 (.int .i64 c))

theorem FaultAt.next {w w' : World} {q : Nat} {a c : Int} (h : FaultAt w q a c) (hb : Below w.heap.size w w') : FaultAt w' q a c :=
  ⟨(hb.cell (cell_lt h.1)).trans h.1, (hb.cell (cell_lt h.2.1)).trans h.2.1, (hb.cell (cell_lt h.2.2)).trans h.2.2⟩

theorem refusal_any (a c : Int) (w : World) : Calls Tryz.prog 87 #[.int .i64 a, .iface 74 (.int .i64 c)] w fun e w' => ∃ q, e = .returned (.iface 75 (.pointer (some ⟨q, 0, none⟩))) ∧ FaultAt w' q a c ∧ Below w.heap.size w w' := by
  go_enter Tryz.func87, Tryz.ntmps87
  go_wp2
  go_ret
  exact ⟨w.heap.size, rfl, ⟨by simp, by simp, by simp⟩, (Below.refl _ _).alloc (Nat.le_refl _) _⟩

/-- The program's error, or none; the document's fault, or none. -/
def PErr (w : World) (v : Value) (bad : Bool) : Prop := if bad then ∃ q, v = .iface 75 (.pointer (some ⟨q, 0, none⟩)) ∧ FaultAt w q 0 62 else v = .nilIface
def RErr (w : World) (v : Value) (bad : Bool) : Prop := if bad then ∃ g c, v = .agg #[.slice (some ⟨g, 0, none⟩) 1 c, .int .i64 62] ∧ w.cell? ⟨g, 0, none⟩ = some (.string { data := #[100, 105, 99, 116] }) ∧ w.cell? ⟨g, 1, none⟩ = some (.int .i64 0) else v = .agg #[.slice none 0 0, .int .i64 0]

theorem PErr.next {w w' : World} {v : Value} {bad : Bool} (h : PErr w v bad) (hb : Below w.heap.size w w') : PErr w' v bad := by
  unfold PErr at *
  cases bad with
  | true => obtain ⟨q, rfl, hf⟩ := h; exact ⟨q, rfl, hf.next hb⟩
  | false => exact h
theorem RErr.next {w w' : World} {v : Value} {bad : Bool} (h : RErr w v bad) (hb : Below w.heap.size w w') : RErr w' v bad := by
  unfold RErr at *
  cases bad with
  | true => obtain ⟨g, c, rfl, h0, h1⟩ := h; exact ⟨g, c, rfl, (hb.cell (cell_lt h0)).trans h0, (hb.cell (cell_lt h1)).trans h1⟩
  | false => exact h

/-- Is it this VR's word? -/
def hit (s : ByteArray) (k : Nat) : Bool := (nm k).toList == s.toList

/-- The first VR from k on whose word it is; 0, if there is none. -/
def fnd (s : ByteArray) : Nat → Nat → Nat
  | 0, _ => 0
  | n + 1, k => if hit s k then k else fnd s n (k + 1)

set_option maxRecDepth 100000 in
theorem rvrword_any (w : World) (v : Int) : Calls Tryz.prog 81 #[.int .i64 v] w fun e w' => e = .returned (.string (nm (vn v))) ∧ w = w' := by
  have c33 := fun W => rep_any W v
  by_cases hv : 1 ≤ v ∧ v ≤ 28
  · have hvn : ((vn v : Nat) : Int) = v := by unfold vn; rw [if_pos hv]; omega
    have hok := (all_ok ⟨vn v, vn_lt v⟩).resolve_left (by simp only; omega)
    simp only at hok
    rw [hvn] at hok
    obtain ⟨S, hS⟩ : ∃ S, lineB v = S := ⟨_, rfl⟩
    rw [hS] at hok c33
    unfold okS at hok
    simp only [Bool.and_eq_true, decide_eq_true_eq, List.all_eq_true, beq_iff_eq] at hok
    obtain ⟨h1, h2, h3, h4, h5, h6, h7, h8, h9, h10, h11, h12, h13, h14⟩ := hok
    have e0 : S.extract 0 2 = nm (vn v) := ByteArray.ext (Array.ext' h7)
    rw [← e0]
    have hne : (S.toList == []) = false := by
      rw [ByteArray.toList_eq]
      cases hd : S.data.toList with
      | nil =>
        have : S.size = 0 := by
          show S.data.size = 0
          rw [← Array.length_toList, hd]
          rfl
        omega
      | cons a l => rfl
    have h2i : (2 : Int) ≤ (S.size : Int) := by omega
    clear hS h1 h2 h3 h4 h5 h6 h7 h8 h9 h10 h11 h12 h13 h14 e0 hvn
    go_enter Tryz.func81, Tryz.ntmps81
    go_wp2_with (first | (go_at_call 53; refine (c33 _).mono ?_; rintro e w' ⟨rfl, rfl⟩) | fail)
    go_ret
    exact ⟨rfl, rfl⟩
  · have hvn : vn v = 0 := by unfold vn; rw [if_neg hv]
    have hL : lineB v = ⟨#[]⟩ := by unfold lineB; rw [if_neg hv]
    rw [hvn, show nm 0 = ⟨#[]⟩ from rfl]
    rw [hL] at c33
    clear hvn hL
    go_enter Tryz.func81, Tryz.ntmps81
    go_wp2_with (first | (go_at_call 53; refine (c33 _).mono ?_; rintro e w' ⟨rfl, rfl⟩) | fail)
    go_ret
    exact ⟨rfl, rfl⟩
end Go.Proofs.YtfoodjhffehgpaaGreatDoor.Rp
