import Derived.Test.YtngmleddlfkecaaDoorGd
namespace Go.Proofs.YtngmleddlfkecaaDoor
open Go Go.Proofs Go.RowKit

/-- A list of one row, just built. -/
theorem VV.one {w : World} {B : Nat} {v : Value} {b : List Nat} (h : Own w B v b) (hB : B ≤ w.heap.size) : VV (w.alloc (.cells #[v] 22)) B (.slice (some ⟨w.heap.size, 0, none⟩) 1 1) [b] := by
  refine ⟨[v], ⟨rfl, .inr ⟨w.heap.size, 1, #[v], rfl, hB, (show (w.heap.push (.cells #[v] 22))[w.heap.size]? = some (.cells #[v] 22) by simp), Nat.le_refl _, by unfold maxLen; omega, rfl, rfl⟩⟩, ?_⟩
  intro i hi
  obtain rfl : i = 0 := by simpa using hi
  exact h.next ((Below.refl _ _).alloc (Nat.le_refl _) _)

set_option maxRecDepth 100000 in
/-- Head, of bytes of our own, where nothing is refused. -/
theorem head_own {w : World} {B0 : Nat} {v : Value} {bss : List (List Nat)} (h : VV w B0 v bss) (hT : Tab w) (gen : Nat) (hg : gen < 18446744073709551616) (hg0 : gen ≠ 0) (hF : Few bss) (hE : baseE bss = none) :
    Calls Tryd.prog 7 #[.int .u64 (gen : Int), v] w fun e w' => ∃ v', e = .returned (.tuple #[v', .nilIface]) ∧ Own w' w.heap.size v' (headL gen bss) ∧ Below w.heap.size w w' := by
  have hgb : ((gen : Int) == 0) = false := by simp; omega
  have c27 := check_any h.vs
  have HV : Hid (VV w B0 v bss) := h
  have HT : Hid (Tab w) := hT
  have HFw : Hid (Few bss) := hF
  obtain ⟨ao, cp, hv, _⟩ := h.rows
  clear h hT hF
  subst hv
  rw [hE] at c27
  obtain ⟨h6, hs⟩ := baseE_none hE
  have c28 := fun W1 hb1 => slotBytes_own (w := W1) (HV.out.next hb1) (HT.out.next hb1) gen hg HFw.out h6 hs
  clear h6 hs hE
  go_enter Tryd.func7, Tryd.ntmps7
  go_wp2_with (go_at_call 27; fail)
  refine c27.mono ?_
  rintro e W1 ⟨ve, rfl, hE, hb1⟩
  obtain rfl : ve = .nilIface := hE
  clear c27
  go_wp2_with (go_at_call 28; fail)
  refine (c28 W1 hb1).mono ?_
  rintro e W2 ⟨v2, rfl, hO2, hb2⟩
  go_wp2
  go_ret2
  exact ⟨_, rfl, hO2.base hb1.size, hb1.trans (hb2.mono hb1.size)⟩
end Go.Proofs.YtngmleddlfkecaaDoor
