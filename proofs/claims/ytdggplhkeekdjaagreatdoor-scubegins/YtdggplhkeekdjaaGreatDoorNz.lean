import Derived.Test.YtdggplhkeekdjaaGreatDoorNy
/-
  DERIVED. The law.
-/
namespace Go.Proofs.YtdggplhkeekdjaaGreatDoor.Ck
open Go Go.Proofs Go.RowKit

set_option maxRecDepth 100000 in
set_option maxHeartbeats 8000000 in
theorem begins_any (w : World) (t c : ByteArray) (ao bo : Option Addr) (n cp m dp : Nat) (mo ar : Int) (T : List ByteArray) (l : List Int) (hn : T.length = n) (hm : l.length = m) (hT : TxD w ao T) (hl : IxD w bo l)
    (hao : ao = none → n = 0 ∧ cp = 0) (hbo : bo = none → m = 0 ∧ dp = 0) (hN : n * 16 ≤ 140737488351232) (hM : m * 8 ≤ 140737488351232) (ht : t.size ≤ 140737488351232) (hc : c.size ≤ 140737488351232) (hz : ∀ p ∈ T, p.size ≤ 140737488351232) (hG : Gb w) :
    Calls Tryz.prog 3 #[.agg #[.string t, .string c, .slice ao n cp, .slice bo m dp, .int .u32 mo, .int .i64 ar]] w fun e w' => e = .returned (.bool true) ∧ Below w.heap.size w w' := by
  obtain ⟨W0, hW0⟩ : ∃ W0, w.alloc (.cells #[.string t, .string c, .slice ao n cp, .slice bo m dp, .int .u32 mo, .int .i64 ar] 26) = W0 := ⟨_, rfl⟩
  have hb0 : Below w.heap.size w W0 := hW0 ▸ (Below.refl _ _).alloc (Nat.le_refl _) _
  have hk0 : Bk W0 w.heap.size #[.string t, .string c, .slice ao n cp, .slice bo m dp, .int .u32 mo, .int .i64 ar] 26 := hW0 ▸ Bk.new _ _ _
  have z0 := hk0.cell (i := 0) (v := .string t) rfl
  have z1 := hk0.cell (i := 1) (v := .string c) rfl
  have z2 := hk0.cell (i := 2) (v := .slice ao n cp) rfl
  have z3 := hk0.cell (i := 3) (v := .slice bo m dp) rfl
  have z4 := hk0.cell (i := 4) (v := .int .u32 mo) rfl
  have z5 := hk0.cell (i := 5) (v := .int .i64 ar) rfl
  have HC : Hid (Calls Tryz.prog 4 #[.agg #[.string t, .string c, .slice ao n cp, .slice bo m dp, .int .u32 mo, .int .i64 ar]] W0 (BegP W0)) := begin_any W0 t c ao bo n cp m dp mo ar T l hn hm (hT.on hb0) (hl.on hb0) hao hbo hN hM ht hc hz (hG.on hb0)
  have HB0 : Hid (Below w.heap.size w W0) := hb0
  have hf : ∀ W, (Instr.field 35 (.agg #[.int .i64 1, .slice none 0 0, .int .i64 0, .slice none 0 0]) 0).run Tryz.prog W = .ok (.int .i64 1) W := fun W => by kernel_rfl
  clear hn hm hT hl hao hbo hN hM ht hc hz hG hb0 hk0
  go_enter Tryz.func3, Tryz.ntmps3
  go_wp2_with (go_at_call 4; refine Stop.mk ?_)
  refine Stop.out (HC.out.mono ?_)
  rintro e W1 ⟨h, hb1⟩
  have HB1 : Hid (Below w.heap.size w W1) := HB0.out.trans (hb1.mono HB0.out.size)
  clear hb1 HB0 HC z0 z1 z2 z3 z4 z5 hW0
  rcases h with ⟨q, p, m', q', p', rfl, hs, hr⟩ | rfl
  · have HS : Hid (Nv.SpAt W1 q p m' ∧ Nv.RpAt W1 q' p') := ⟨hs, hr⟩
    clear hs hr
    go_wp2_with (go_at_call 6; refine Stop.mk ?_)
    refine Stop.out ((Nv.state_new _ q p m' HS.out.1).mono ?_)
    rintro e W2 ⟨rfl, hb2⟩
    have HS2 : Hid (Nv.SpAt W2 q p m' ∧ Nv.RpAt W2 q' p' ∧ Below w.heap.size w W2) := ⟨HS.out.1.on hb2, HS.out.2.on hb2, HB1.out.trans (hb2.mono HB1.out.size)⟩
    clear hb2 HS HB1
    go_wp2_with (go_at_call 7; refine Stop.mk ?_)
    refine Stop.out ((Nv.rstate_new _ q' p' HS2.out.2.1).mono ?_)
    rintro e W3 ⟨rfl, hb3⟩
    have HS3 : Hid (Nv.SpAt W3 q p m' ∧ Below w.heap.size w W3) := ⟨HS2.out.1.on hb3, HS2.out.2.2.trans (hb3.mono HS2.out.2.2.size)⟩
    clear hb3 HS2
    go_wp2_with (go_at_call 5; refine Stop.mk ?_)
    refine Stop.out ((Nv.sameState_new _).mono ?_)
    rintro e W4 ⟨rfl, hb4⟩
    have HS4 : Hid (Nv.SpAt W4 q p m' ∧ Below w.heap.size w W4) := ⟨HS3.out.1.on hb4, HS3.out.2.trans (hb4.mono HS3.out.2.size)⟩
    clear hb4 HS3
    go_wp2_with (go_at_call 6; refine Stop.mk ?_)
    refine Stop.out ((Nv.state_new _ q p m' HS4.out.1).mono ?_)
    rintro e W5 ⟨rfl, hb5⟩
    have HS5 : Hid (Below w.heap.size w W5) := HS4.out.2.trans (hb5.mono HS4.out.2.size)
    clear hb5 HS4
    go_wp2
    go_ret
    exact ⟨rfl, HS5.out⟩
  · go_wp2
    go_ret
    exact ⟨rfl, HB1.out⟩
end Go.Proofs.YtdggplhkeekdjaaGreatDoor.Ck
