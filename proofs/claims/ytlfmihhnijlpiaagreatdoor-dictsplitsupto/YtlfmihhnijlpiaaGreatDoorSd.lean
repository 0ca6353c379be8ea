import Derived.Test.YtlfmihhnijlpiaaGreatDoorSc
/-
  DERIVED. Texts that lie in a row; that two rows say the same.
-/
namespace Go.Proofs.YtlfmihhnijlpiaaGreatDoor.Sp
open Go Go.Proofs Go.RowKit
open Wk (cell_lt own_keep Stop)

/-- These texts lie there. -/
structure TxAt (w : World) (v : Value) (xs : List ByteArray) : Prop where
  form : ∃ a cap, v = .slice a xs.length cap ∧ xs.length ≤ cap ∧ (0 < xs.length → ∃ b o, a = some ⟨b, o, none⟩ ∧ ∀ j (h : j < xs.length), w.cell? ⟨b, o + j, none⟩ = some (.string xs[j]))
theorem TxAt.on {w w' : World} {v : Value} {xs : List ByteArray} (h : TxAt w v xs) (hb : Below w.heap.size w w') : TxAt w' v xs := by
  obtain ⟨a, cap, h1, h2, h3⟩ := h.form
  refine ⟨a, cap, h1, h2, fun hp => ?_⟩
  obtain ⟨b, o, h4, h5⟩ := h3 hp
  exact ⟨b, o, h4, fun j hj => (World.cell?_of_block (hb.block b (cell_lt (h5 j hj)))).trans (h5 j hj)⟩
theorem u8s_getE (xs : List ByteArray) (j : Nat) (h : j < xs.length) : (u8s xs)[j]? = some (.string xs[j]) := by simp [u8s, h]
/-- A row of our own is one of them. -/
theorem TxAt.own {w : World} {base : Nat} {v : Value} {n : Nat} {xs : List ByteArray} (h : w.ownsRow base 9 1 v n (u8s xs)) : TxAt w v xs := by
  have hl : n = xs.length := by have := h.1; rw [u8s_length] at this; omega
  subst hl
  by_cases h0 : 0 < xs.length
  · obtain ⟨g, cap, rfl, hg, hc⟩ := h.form h0
    refine ⟨_, cap, rfl, Wk.own_cap h, fun _ => ⟨g, 0, rfl, fun j hj => ?_⟩⟩
    rw [Nat.zero_add, h.cellAt j (by omega), u8s_getE _ _ hj]
  · rcases h.2 with ⟨h1, h2⟩ | ⟨g, cap, cur, rfl, _⟩
    · refine ⟨none, 0, ?_, by omega, fun q => absurd q h0⟩
      rw [h1]; congr 1; omega
    · exact ⟨_, cap, rfl, Wk.own_cap h, fun q => absurd q h0⟩

set_option maxRecDepth 100000 in
set_option maxHeartbeats 4000000 in
theorem same_any (W : World) (a b : Value) (xs : List ByteArray) (hn : xs.length ≤ 9000000000) (ha : TxAt W a xs) (hb : TxAt W b xs) :
    Calls Tryz.prog 6 #[a, b] W fun e w' => e = .returned (.bool true) ∧ Hid (Below W.heap.size W w') := by
  obtain ⟨aa, ca, rfl, hca, h3⟩ := ha.form
  obtain ⟨ab, cb, rfl, hcb, h4⟩ := hb.form
  obtain ⟨n, hn'⟩ : ∃ n, xs.length = n := ⟨_, rfl⟩
  have HA : Hid _ := h3
  have HB : Hid _ := h4
  rw [hn'] at hca hcb hn ⊢
  have HN : Hid _ := hn'
  clear h3 h4 ha hb hn'
  go_enter Tryz.func6, Tryz.ntmps6
  go_wp2
  go_loopg [5] n (fun g s5 wx => ∃ i : Nat, s5 = .int .i64 (i : Int) ∧ g + i = n ∧ Hid (Below W.heap.size W wx))
  case atStart => exact ⟨0, rfl, by omega, Below.refl _ _⟩
  case round =>
    obtain ⟨i, rfl, hgi, HW⟩ := hrel
    by_cases hin : i < n
    · have hI : (i : Int) < (n : Int) := by omega
      obtain ⟨ba, oa, rfl, ka⟩ := HA.out (by rw [HN.out]; omega)
      obtain ⟨bb, ob, rfl, kb⟩ := HB.out (by rw [HN.out]; omega)
      have ka := ka i (by rw [HN.out]; exact hin)
      have kb := kb i (by rw [HN.out]; exact hin)
      replace ka := (World.cell?_of_block (HW.out.block ba (cell_lt ka))).trans ka
      replace kb := (World.cell?_of_block (HW.out.block bb (cell_lt kb))).trans kb
      obtain ⟨x, hx⟩ : ∃ x, xs[i]'(by rw [HN.out]; exact hin) = x := ⟨_, rfl⟩
      rw [hx] at ka kb
      clear hx
      go_wp2
      go_region_held3 (fun w' => w'.cell? ⟨ba, oa + i, none⟩ = some (.string x) ∧ w'.cell? ⟨bb, ob + i, none⟩ = some (.string x)) (go_keep) (fail)
      go_wp2
      go_roundg (n - (i + 1))
      case measure => omega
      case rel => exact ⟨i + 1, by simp, by omega, by first | exact HW.out | exact HW.out.drew⟩
    · obtain rfl : i = n := by omega
      have hI : ¬ (i : Int) < (i : Int) := by omega
      go_wp2
      go_ret
      exact ⟨rfl, HW⟩
end Go.Proofs.YtlfmihhnijlpiaaGreatDoor.Sp
