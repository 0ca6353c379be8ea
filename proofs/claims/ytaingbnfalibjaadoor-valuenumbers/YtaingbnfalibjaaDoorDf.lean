import Derived.Test.YtaingbnfalibjaaDoorDe
import Derived.Test.YtaingbnfalibjaaDoorZb
/-
  DERIVED. PrintWhole of both.
-/
namespace Go.Proofs.YtaingbnfalibjaaDoor
open Go Go.Proofs Go.RowKit NumLine

/-- What PrintWhole tells. -/
def PW (n : Int) : ByteArray × Option (Int × Int) := if wrong n then (⟨#[]⟩, some (0, 101)) else (⟨(Lib.itoa n).toArray⟩, none)
theorem PW_far {n : Int} (h : wrong n) : PW n = (⟨#[]⟩, some (0, 101)) := by unfold PW; rw [if_pos h]
theorem PW_ok {n : Int} (h : ¬ wrong n) : PW n = (⟨(Lib.itoa n).toArray⟩, none) := by unfold PW; rw [if_neg h]

set_option maxRecDepth 100000 in
set_option maxHeartbeats 1000000 in
theorem pprintw_any (w : World) (n : Int) (h0 : -9223372036854775808 ≤ n) (h1 : n ≤ 9223372036854775807) (hp : Pow w) : Calls Tryd.prog 12 #[.int .i64 n] w (PostP w (.string (PW n).1) (PW n).2) := by
  obtain ⟨R1, R2, hR⟩ : ∃ a o, PW n = (a, o) := ⟨_, _, rfl⟩
  rw [hR]
  dsimp only
  have c30 := isWhole_any w n
  by_cases hw : wrong n
  · obtain ⟨rfl, rfl⟩ := Prod.mk.inj (hR.symm.trans (PW_far hw))
    rw [decide_eq_false (not_not_intro hw)] at c30
    have c17 := refusal_any 0 101 w
    clear hR hw
    go_enter Tryd.func12, Tryd.ntmps12
    go_wp2_with (go_at_call 30; refine Stop.mk ?_)
    refine Stop.out (c30.mono ?_)
    rintro e W3 ⟨rfl, rfl⟩
    go_wp2_with (go_at_call 17; refine Stop.mk ?_)
    refine Stop.out (c17.mono ?_)
    rintro e W4 ⟨v, rfl, hv, hb⟩
    have HV : Hid (PErr W4 v (some (0, 101))) := hv
    have HB4 : Hid (Below w.heap.size w W4) := hb
    clear hv hb c17 c30
    go_wp2
    refine bodyPost_ret (v := .tuple #[.string ⟨#[]⟩, v]) (by simp [results, Tryd.results12, go_sem]) rfl ⟨v, rfl, HV.out, HB4.out⟩
  · obtain ⟨hq, rfl⟩ := Prod.mk.inj (hR.symm.trans (PW_ok hw))
    rw [decide_eq_true hw] at c30
    have c35 := fmtInt_any w n h0 h1 hp
    rw [← hq] at c35
    clear hR hw hq
    go_enter Tryd.func12, Tryd.ntmps12
    go_wp2_with (go_at_call 30; refine Stop.mk ?_)
    refine Stop.out (c30.mono ?_)
    rintro e W3 ⟨rfl, rfl⟩
    go_wp2_with (go_at_call 35; refine Stop.mk ?_)
    refine Stop.out (c35.mono ?_)
    rintro e W4 ⟨rfl, hb⟩
    have HB4 : Hid (Below w.heap.size w W4) := hb
    clear hb c35 c30
    go_wp2
    refine bodyPost_ret (v := .tuple #[.string R1, .nilIface]) (by simp [results, Tryd.results12, go_sem]) rfl ⟨_, rfl, rfl, HB4.out⟩

set_option maxRecDepth 100000 in
set_option maxHeartbeats 1000000 in
theorem rprintw_any (w : World) (n : Int) (h0 : -9223372036854775808 ≤ n) (h1 : n ≤ 9223372036854775807) (hp : Pow w) : Calls Tryd.prog 13 #[.int .i64 n] w (PostF w (.string (PW n).1) (PW n).2) := by
  obtain ⟨R1, R2, hR⟩ : ∃ a o, PW n = (a, o) := ⟨_, _, rfl⟩
  rw [hR]
  dsimp only
  obtain ⟨W0, hW0⟩ : ∃ W0, w.alloc (.cells #[.slice none 0 0, .int .i64 0] 35) = W0 := ⟨_, rfl⟩
  have HF : Hid (FC w W0 w.heap.size) := hW0 ▸ FC.start w
  by_cases hw : wrong n
  · obtain ⟨rfl, rfl⟩ := Prod.mk.inj (hR.symm.trans (PW_far hw))
    have c31 := no_any 0 101 W0
    have hb2 : decide (n < -2147483648) = true ∨ (decide (n < -2147483648) = false ∧ 2147483647 < n) := by
      unfold wrong at hw
      by_cases h0 : n < -2147483648
      · exact .inl (decide_eq_true h0)
      · exact .inr ⟨decide_eq_false h0, by omega⟩
    clear hR hw
    rcases hb2 with hb2 | ⟨hb2, hb3⟩
    all_goals
      go_enter Tryd.func13, Tryd.ntmps13
      go_wp2_with (go_at_call 31; refine Stop.mk ?_)
      refine Stop.out (c31.mono ?_)
      rintro e W1 ⟨v, rfl, hv, hb⟩
      have F1 := HF.out.on hb
      have HV : Hid (RErr W1 v (some (0, 101))) := hv
      obtain ⟨g, k, rfl, _, _⟩ := hv
      obtain ⟨a0, a1, af⟩ := F1.facts
      obtain ⟨p0, p1, p2⟩ := putF_all F1.row (.slice (some ⟨g, 0, none⟩) 1 k) (.int .i64 101) rfl
      have HB : Hid _ := putF_below F1.bel (Nat.le_refl _) (.slice (some ⟨g, 0, none⟩) 1 k) (.int .i64 101)
      have HV2 : Hid (RErr _ _ _) := p2 HV.out
      clear hb c31 F1 hW0 HF HV
      unfold putF at *
      go_wp2
      refine bodyPost_ret (v := .tuple #[.string ⟨#[]⟩, .agg #[.slice (some ⟨g, 0, none⟩) 1 k, .int .i64 101]]) (by simp [results, Tryd.results13, go_sem, p0, p1]) rfl ⟨_, rfl, HV2.out, HB.out⟩
  · obtain ⟨hq, rfl⟩ := Prod.mk.inj (hR.symm.trans (PW_ok hw))
    have b0 : Below w.heap.size w W0 := hW0 ▸ (Below.refl _ _).alloc (Nat.le_refl _) _
    have c35 := fmtInt_any W0 n h0 h1 (hp.on b0)
    rw [← hq] at c35
    have hb2 : decide (n < -2147483648) = false := decide_eq_false (fun h => hw (.inl h))
    have hb3 : decide (2147483647 < n) = false := decide_eq_false (fun h => hw (.inr h))
    clear hR hw hq b0
    go_enter Tryd.func13, Tryd.ntmps13
    go_wp2_with (go_at_call 35; refine Stop.mk ?_)
    refine Stop.out (c35.mono ?_)
    rintro e W1 ⟨rfl, hb⟩
    have HF1 : Hid (FC w W1 w.heap.size) := HF.out.on hb
    have c34 := none34_any W1
    clear hb c35 HF hW0
    go_wp2_with (go_at_call 34; refine Stop.mk ?_)
    refine Stop.out (c34.mono ?_)
    rintro e W2 ⟨rfl, hb⟩
    have F1 := HF1.out.on hb
    obtain ⟨a0, a1, af⟩ := F1.facts
    obtain ⟨p0, p1, p2⟩ := putF_all F1.row (.slice none 0 0) (.int .i64 0) rfl
    have HB : Hid _ := putF_below F1.bel (Nat.le_refl _) (.slice none 0 0) (.int .i64 0)
    clear hb c34 F1 HF1
    unfold putF at *
    go_wp2
    refine bodyPost_ret (v := .tuple #[.string R1, .agg #[.slice none 0 0, .int .i64 0]]) (by simp [results, Tryd.results13, go_sem, p0, p1]) rfl ⟨_, rfl, rfl, HB.out⟩
end Go.Proofs.YtaingbnfalibjaaDoor
