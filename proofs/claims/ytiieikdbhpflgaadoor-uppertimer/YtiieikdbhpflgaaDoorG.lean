import Derived.Test.YtiieikdbhpflgaaDoorD
/-
  DERIVED. Which event a PDU is.
-/
namespace Go.Proofs.YtiieikdbhpflgaaDoor
open Go Go.Proofs Go.RowKit

def cmL : List Nat := [0, 6, 3, 4, 10, 12, 13, 16]
/-- The table of events lies in memory. -/
def Cm (w : World) : Prop := ∀ k, k < 8 → w.cell? ⟨1, k, none⟩ = some (.int .u8 ((cmL.getD k 0 : Nat) : Int))
theorem Cm.lt {w : World} (h : Cm w) : 1 < w.heap.size := cell_lt (h 0 (by omega))
theorem Cm.on {w w' : World} (h : Cm w) (hb : Below w.heap.size w w') : Cm w' := fun k hk => (hb.cell (p := ⟨1, k, none⟩) h.lt).trans (h k hk)

def evR (k : Int) : Int := if k = 1 then 6 else if k = 2 then 3 else if k = 3 then 4 else if k = 4 then 10 else if k = 5 then 12 else if k = 6 then 13 else if k = 7 then 16 else 0

/-- The cells of a PDU behind its kind. -/
def Pd (k : Int) (c : Fin 18 → Value) : Array Value := #[.int .i64 k, c 0, c 1, c 2, c 3, c 4, c 5, c 6, c 7, c 8, c 9, c 10, c 11, c 12, c 13, c 14, c 15, c 16, c 17]

set_option maxRecDepth 100000 in
theorem rev_any (w : World) (k : Int) : Calls Tryd.prog 17 #[.int .i64 k] w fun x w' => x = .returned (.int .i64 (evR k)) ∧ w' = w := by
  unfold evR
  by_cases h1 : k = 1
  · subst h1; go_enter Tryd.func17, Tryd.ntmps17; go_wp2; go_ret; exact ⟨rfl, rfl⟩
  by_cases h2 : k = 2
  · subst h2; go_enter Tryd.func17, Tryd.ntmps17; go_wp2; go_ret; exact ⟨rfl, rfl⟩
  by_cases h3 : k = 3
  · subst h3; go_enter Tryd.func17, Tryd.ntmps17; go_wp2; go_ret; exact ⟨rfl, rfl⟩
  by_cases h4 : k = 4
  · subst h4; go_enter Tryd.func17, Tryd.ntmps17; go_wp2; go_ret; exact ⟨rfl, rfl⟩
  by_cases h5 : k = 5
  · subst h5; go_enter Tryd.func17, Tryd.ntmps17; go_wp2; go_ret; exact ⟨rfl, rfl⟩
  by_cases h6 : k = 6
  · subst h6; go_enter Tryd.func17, Tryd.ntmps17; go_wp2; go_ret; exact ⟨rfl, rfl⟩
  by_cases h7 : k = 7
  · subst h7; go_enter Tryd.func17, Tryd.ntmps17; go_wp2; go_ret; exact ⟨rfl, rfl⟩
  rw [if_neg h1, if_neg h2, if_neg h3, if_neg h4, if_neg h5, if_neg h6, if_neg h7]
  have g1 : (k == 1) = false := by simpa using h1
  have g2 : (k == 2) = false := by simpa using h2
  have g3 : (k == 3) = false := by simpa using h3
  have g4 : (k == 4) = false := by simpa using h4
  have g5 : (k == 5) = false := by simpa using h5
  have g6 : (k == 6) = false := by simpa using h6
  have g7 : (k == 7) = false := by simpa using h7
  clear h1 h2 h3 h4 h5 h6 h7
  go_enter Tryd.func17, Tryd.ntmps17
  go_wp2
  all_goals first | (go_ret; exact ⟨rfl, rfl⟩) | (refine ‹∀ (a : Act) (w : World), _ → _› _ _ ?_; go_wp2; go_ret; exact ⟨rfl, rfl⟩)

set_option maxRecDepth 100000 in
theorem ev_any (w : World) (k : Int) (c : Fin 18 → Value) (hC : Cm w) : Calls Tryd.prog 16 #[.agg (Pd k c)] w fun x w' => x = .returned (.int .i64 (evR k)) ∧ Below w.heap.size w w' := by
  have hb : ∀ A, Below w.heap.size w (w.alloc (.cells A 40)) := fun A => (Below.refl _ _).alloc (Nat.le_refl _) _
  by_cases h : k < 1 ∨ 7 < k
  · have e : evR k = 0 := by unfold evR; repeat rw [if_neg (by omega)]
    rw [e]
    unfold Pd
    go_enter Tryd.func16, Tryd.ntmps16
    go_wp2
    all_goals first | (go_ret; exact ⟨rfl, hb _⟩) | (exfalso; omega)
  · obtain ⟨n, rfl⟩ : ∃ n : Nat, k = ((n : Int) + 1) := ⟨k.toNat - 1, by omega⟩
    have hn : n < 7 := by omega
    have hc := ((hC.on (hb (Pd ((n : Int) + 1) c))) (n + 1) (by omega))
    have hv : ((cmL.getD (n + 1) 0 : Nat) : Int) = evR ((n : Int) + 1) := by
      have : ∀ j : Fin 7, ((cmL.getD (j.val + 1) 0 : Nat) : Int) = evR ((j.val + 1 : Nat) : Int) := by decide +kernel
      have := this ⟨n, hn⟩
      simpa using this
    have hb2 := hb (Pd ((n : Int) + 1) c)
    have hv2 : cmL.getD (n + 1) 0 < 256 := by
      have : ∀ j : Fin 7, cmL.getD (j.val + 1) 0 < 256 := by decide +kernel
      exact this ⟨n, hn⟩
    rw [← hv]
    clear hv
    generalize cmL.getD (n + 1) 0 = v at hc hv2 ⊢
    unfold Pd at hc hb2 ⊢
    go_enter Tryd.func16, Tryd.ntmps16
    go_wp2
    all_goals first | (exfalso; omega) | (go_ret; exact ⟨rfl, hb2⟩)
end Go.Proofs.YtiieikdbhpflgaaDoor
