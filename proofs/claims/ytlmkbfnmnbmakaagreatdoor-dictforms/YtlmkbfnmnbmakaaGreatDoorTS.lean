
import Derived.Test.YtlmkbfnmnbmakaaGreatDoorTR
/-
  DERIVED. The program's dictionary, gone through.
-/
namespace Go.Proofs.YtlmkbfnmnbmakaaGreatDoor.Tb
open Go Go.RowKit Go.Shelf
attribute [local go_sem] Oper.semAt_some

theorem upTo_prefix {k : Nat} (h : k ≤ 10) : upTo k <+: upTo 10 := by
  have : ∀ m, upTo k <+: upTo (k + m) := fun m => by
    induction m with
    | zero => exact List.prefix_refl _
    | succ m ih => rw [show k + (m + 1) = (k + m) + 1 by omega, upTo_succ]; exact ih.trans (List.prefix_append _ _)
  have h2 := this (10 - k)
  rwa [show k + (10 - k) = 10 by omega] at h2
theorem upTo_more {k : Nat} (h : k < 10) {pre : List Row} (hp : pre <+: partRows k) : upTo k ++ pre <+: upTo 10 := by
  refine List.IsPrefix.trans ?_ (upTo_prefix (k := k + 1) h)
  rw [upTo_succ]
  exact (List.prefix_append_right_inj _).2 hp

theorem grownBy_of_below {W W' : World} (h : Below W.heap.size W W') : W.grownBy W' none := ⟨h.os, h.tape, h.output, h.size, fun k hk _ => h.block k hk⟩

theorem two_ways {e : Ending} {p q : Prop} (h : (e = .returned (.bool true) ∧ p) ∨ (e = .returned (.bool false) ∧ q)) : ∃ v : Bool, e = .returned (.bool v) ∧ ((v = true ∧ p) ∨ (v = false ∧ q)) := by
  rcases h with ⟨h1, h2⟩ | ⟨h1, h2⟩
  · exact ⟨true, h1, .inl ⟨rfl, h2⟩⟩
  · exact ⟨false, h1, .inr ⟨rfl, h2⟩⟩

theorem kept_below (n B : Nat) {V V' : World} (h : Below V.heap.size V V') : KeepsFrom n V V' ∧ KC B V V' :=
  ⟨⟨h.size, fun k _ _ hk _ => (h.block k (Array.getElem?_eq_some_iff.1 hk).1).trans hk⟩, ⟨h.size, fun k _ hk _ _ => (h.block k (Array.getElem?_eq_some_iff.1 hk).1).trans hk⟩⟩

/-- Between two parts. -/
def InvE (PC : Array Value) (l s : Nat) (J : List Row → World → Prop) (a : Act) (V : World) : Prop :=
  ∃ k : Nat, k ≤ 10 ∧ a.tmps.size = 18 ∧ a.tmps.toList.getD 1 undef = .pointer (some ⟨s, 0, none⟩) ∧ a.tmps.toList.getD 5 undef = .agg PC ∧ a.tmps.toList.getD 6 undef = .int .i64 (k : Int) ∧
    J (upTo k) V ∧ V.cell? ⟨s, 0, none⟩ = some (.func (.yield l) #[] #[]) ∧ Marks s a.defers V

end Go.Proofs.YtlmkbfnmnbmakaaGreatDoor.Tb
