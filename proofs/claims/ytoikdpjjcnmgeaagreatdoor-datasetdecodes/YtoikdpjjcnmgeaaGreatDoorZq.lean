import Derived.Test.YtoikdpjjcnmgeaaGreatDoorZn1
import Derived.Test.YtoikdpjjcnmgeaaGreatDoorZn2
import Derived.Test.YtoikdpjjcnmgeaaGreatDoorZn3
/-
  DERIVED. The law of Decode, whole.
-/
namespace Go.Proofs.YtoikdpjjcnmgeaaGreatDoor
open Go Go.Proofs Go.RowKit
open Wk (Nd nds NV)
open Go.Sort

set_option maxRecDepth 100000 in
theorem dec_law0 (w : World) (a : Option Addr) (n cap : Nat) (bs : List Nat) (s : Int) (hV : Le.V w (.slice a n cap) bs) (hn : bs.length = n) (hl : n ≤ 140737488351232) (hno : ¬ ∃ M, OutD s (yb bs) M) :
    Calls Tryz.prog 3 #[.slice a n cap, .int .i64 s] w fun e w' => e = .returned (.bool true) ∧ Below w.heap.size w w' := by
  have HNO : Hid (¬ ∃ M, OutD s (yb bs) M) := hno
  have HN : Hid (bs.length = n) := hn
  have c9 := Le.lend_any hV (by rw [hn]; exact hl)
  rw [hn] at c9
  clear hV hn hno
  go_enter Tryz.func3, Tryz.ntmps3
  go_wp2_with (go_at_call 9; refine StopV.out ?_)
  refine ⟨Calls.mono c9 ?_⟩
  rintro e W1 ⟨rfl, hl1, hb1⟩
  have hg : Gv w.heap.size w.heap.size n bs W1 := by
    have h8 : Le.Own W1 w.heap.size (.slice (some ⟨w.heap.size, 0, none⟩) (bs.length + 3) (bs.length + 3)) (bs ++ [160, 161, 162]) := by rw [HN.out]; exact hl1
    have := Gv.of h8
    rw [HN.out] at this
    exact this
  have c10 := decode_any W1 (some ⟨w.heap.size, 0, none⟩) n (n + 3) (yb bs) s (ba_of hg.v (by rw [HN.out]; exact hl))
  clear c9 hl1 hg
  go_wp2_with (go_at_call 10; refine StopV.out ?_)
  refine ⟨Calls.mono c10 ?_⟩
  rintro e W2 ⟨nx, vx, rfl, hd2, hb2⟩
  obtain ⟨M2, ho2, -⟩ := dcr_row hd2.out
  exact absurd ⟨M2, ho2⟩ HNO.out
theorem decodes_law (w : World) (a : Option Addr) (n cap : Nat) (bs : List Nat) (s : Int) (hV : Le.V w (.slice a n cap) bs) (hn : bs.length = n) (hl : n ≤ 140737488351232) :
    Calls Tryz.prog 3 #[.slice a n cap, .int .i64 s] w fun e w' => e = .returned (.bool true) ∧ Below w.heap.size w w' := by
  by_cases hex : ∃ M, OutD s (yb bs) M
  · obtain ⟨M, hM⟩ := hex
    by_cases h0 : n = 0
    · have hb : bs = [] := List.eq_nil_of_length_eq_zero (by omega)
      have hm : M = [] := outD_nil (by rw [hb] at hM; exact hM)
      exact dec_law3 w a n cap bs s hV hn hl h0 M hM hm
    · obtain ⟨bb, off, rfl⟩ : ∃ bb off, a = some ⟨bb, off, none⟩ := by
        rcases hV with ⟨a1, c1, e, rfl⟩ | ⟨b1, o1, c1, e, -⟩
        · exact absurd hn (by simp; omega)
        · cases e
          exact ⟨_, _, rfl⟩
      by_cases hm : M = []
      · exact dec_law2 w bb off n cap bs s hV hn hl (by omega) M hM hm
      · exact dec_law1 w bb off n cap bs s hV hn hl (by omega) M hM (fun e => hm (List.length_eq_zero_iff.1 e))
  · exact dec_law0 w a n cap bs s hV hn hl hex
end Go.Proofs.YtoikdpjjcnmgeaaGreatDoor
