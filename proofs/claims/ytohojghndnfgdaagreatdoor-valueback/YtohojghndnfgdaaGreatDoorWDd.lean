import Derived.Test.YtohojghndnfgdaaGreatDoorWT
import Derived.Deep.Cut
/-
  DERIVED. The places of the document's answers; ParseWhole of both.
-/
namespace Go.Proofs.YtohojghndnfgdaaGreatDoor.Wh
open Go Go.Proofs Go.RowKit

def PostP (w : World) (V : Value) (o : Option (Int × Int)) (e : Ending) (w' : World) : Prop := ∃ v, e = .returned (.tuple #[V, v]) ∧ PErr w' v o ∧ Below w.heap.size w w'

def wP (s : ByteArray) : Nat := tP s 0 43 45
def wC (s : ByteArray) : Nat := cnt s (wP s) s.size
def wrong (n : Int) : Prop := n < -2147483648 ∨ 2147483647 < n
instance (n : Int) : Decidable (wrong n) := by unfold wrong; infer_instance
/-- What ParseWhole tells. -/
def WR (s : ByteArray) : Int × Option (Int × Int) :=
  if 12 < s.size then (0, some (12, 103)) else if wC s < 1 ∨ wP s + wC s < s.size then (0, some ((wP s + wC s : Nat), 100)) else if wrong (whV s 0) then (0, some (0, 101)) else (whV s 0, none)

theorem WR_long {s : ByteArray} (h : 12 < s.size) : WR s = (0, some (12, 103)) := by unfold WR; rw [if_pos h]
theorem WR_bad {s : ByteArray} (h : ¬ 12 < s.size) (h2 : wC s < 1 ∨ wP s + wC s < s.size) : WR s = (0, some (((wP s + wC s : Nat) : Int), (100 : Int))) := by unfold WR; rw [if_neg h, if_pos h2]
theorem WR_far {s : ByteArray} (h : ¬ 12 < s.size) (h2 : ¬ (wC s < 1 ∨ wP s + wC s < s.size)) (h3 : wrong (whV s 0)) : WR s = (0, some (0, 101)) := by unfold WR; rw [if_neg h, if_neg h2, if_pos h3]
theorem WR_ok {s : ByteArray} (h : ¬ 12 < s.size) (h2 : ¬ (wC s < 1 ∨ wP s + wC s < s.size)) (h3 : ¬ wrong (whV s 0)) : WR s = (whV s 0, none) := by unfold WR; rw [if_neg h, if_neg h2, if_neg h3]

theorem isWhole_any (w : World) (n : Int) : Calls Tryz.prog 27 #[.int .i64 n] w fun e w' => e = .returned (.bool (decide (¬ wrong n))) ∧ w = w' := by
  unfold wrong
  by_cases h1 : -2147483648 ≤ n
  · have a1 : decide (-2147483648 ≤ n) = true := by simp; exact h1
    by_cases h2 : n ≤ 2147483647
    · have a2 : decide (n ≤ 2147483647) = true := by simp; exact h2
      rw [decide_eq_true (by omega)]
      go_enter Tryz.func27, Tryz.ntmps27
      go_wp2
      go_ret
      exact ⟨by first | rfl | simp, rfl⟩
    · have a2 : decide (n ≤ 2147483647) = false := by simp; omega
      rw [decide_eq_false (by omega)]
      go_enter Tryz.func27, Tryz.ntmps27
      go_wp2
      go_ret
      exact ⟨by first | rfl | simp, rfl⟩
  · have a1 : decide (-2147483648 ≤ n) = false := by simp; omega
    rw [decide_eq_false (by omega)]
    go_enter Tryz.func27, Tryz.ntmps27
    go_wp2
    go_ret
    exact ⟨by first | rfl | simp, rfl⟩

def cf0 (s : ByteArray) : Nat → Value
  | 0 => .string s
  | 1 => .int .i64 0
  | _ => .bool false
theorem cstart (w : World) (s : ByteArray) : Cur (w.alloc (.cells #[.string s, .int .i64 0, .bool false] 69)) w.heap.size (cf0 s) s 0 false := by
  refine ⟨World.rowIs_alloc w #[.string s, .int .i64 0, .bool false] 69 (cf0 s) (fun i hi => by
    have h3 : i = 0 ∨ i = 1 ∨ i = 2 := by simp at hi; omega
    rcases h3 with rfl | rfl | rfl <;> rfl), rfl, rfl, rfl⟩
theorem grown_below0 {w W W' : World} {q : Nat} (h : Below q w W) (hg : W.grownBy W' (some q)) (hq : q < W.heap.size) : Below q w W' :=
  h.grown hg (Nat.le_of_lt hq) (fun k hk => by cases hk; omega)

set_option maxRecDepth 100000 in
set_option maxHeartbeats 1000000 in
theorem pwhole_any (w : World) (s : ByteArray) : Calls Tryz.prog 11 #[.string s] w (PostP w (.int .i64 (WR s).1) (WR s).2) := by
  obtain ⟨R1, R2, hR⟩ : ∃ a o, WR s = (a, o) := ⟨_, _, rfl⟩
  rw [hR]
  have HR : Hid (WR s = (R1, R2)) := hR
  clear hR
  dsimp only
  by_cases h12 : 12 < s.size
  · obtain ⟨rfl, rfl⟩ := Prod.mk.inj (HR.out.symm.trans (WR_long h12))
    clear HR
    have hI : (12 : Int) < (s.size : Int) := by omega
    have c17 := refusal_any 12 103 w
    go_enter Tryz.func11, Tryz.ntmps11
    go_wp2_with (go_at_call 15; refine Stop.mk ?_)
    refine Stop.out (c17.mono ?_)
    rintro e W1 ⟨v, rfl, hv, hb⟩
    have HV : Hid (PErr W1 v (some (12, 103))) := hv
    have HB : Hid (Below w.heap.size w W1) := hb
    clear hv hb c17
    go_wp2
    refine bodyPost_ret (v := .tuple #[.int .i64 0, v]) (by simp [results, Tryz.results11, go_sem]) rfl ⟨v, rfl, HV.out, HB.out⟩
  · have hI : ¬ ((12 : Int) < (s.size : Int)) := by omega
    have C0 := cstart w s
    have HB0 : Hid (Below w.heap.size w (w.alloc (.cells #[.string s, .int .i64 0, .bool false] 69))) := (Below.refl _ _).alloc (Nat.le_refl _) _
    have c20 := whole_any _ w.heap.size (cf0 s) s 0 (wP s) (wC s) C0 (Nat.zero_le _) (by omega) rfl rfl
    have HL : Hid (w.heap.size < (w.alloc (.cells #[.string s, .int .i64 0, .bool false] 69)).heap.size) := C0.lt
    obtain ⟨V, hV⟩ : ∃ V, whV s 0 = V := ⟨_, rfl⟩
    rw [hV] at c20
    have HV0 : Hid (whV s 0 = V) := hV
    clear C0 hV
    go_enter Tryz.func11, Tryz.ntmps11
    go_wp2_with (go_at_call 25; refine Stop.mk ?_)
    refine Stop.out (c20.mono ?_)
    rintro e W1 ⟨f1, rfl, hc1, hg1⟩
    have HB1 : Hid (Below w.heap.size w W1) := grown_below0 HB0.out hg1 HL.out
    clear c20 hg1 HB0 HL
    by_cases hbad : wC s < 1 ∨ wP s + wC s < s.size
    · obtain ⟨rfl, rfl⟩ := Prod.mk.inj (HR.out.symm.trans (WR_bad h12 hbad))
      have c21 := end78_any W1 w.heap.size f1 s (wP s + wC s) (decide (wC s < 1)) hc1 (some (((wP s + wC s : Nat) : Int), 100)) (.inl ⟨by rcases hbad with h | h; exact .inl (decide_eq_true h); exact .inr h, rfl⟩)
      generalize wP s + wC s = K at *
      clear hc1 hbad
      go_wp2_with (go_at_call 26; refine Stop.mk ?_)
      refine Stop.out (c21.mono ?_)
      rintro e W2 ⟨v, rfl, hv, hb⟩
      have HV : Hid (PErr W2 v (some ((K : Int), 100))) := hv
      have HB : Hid (Below w.heap.size w W2) := HB1.out.trans (hb.mono HB1.out.size)
      obtain ⟨q, rfl, _⟩ := hv
      clear hb c21
      go_wp2
      refine bodyPost_ret (v := .tuple #[.int .i64 0, .iface 78 (.pointer (some ⟨q, 0, none⟩))]) (by simp [results, Tryz.results11, go_sem]) rfl ⟨_, rfl, HV.out, HB.out⟩
    · have HBad : Hid (¬ (wC s < 1 ∨ wP s + wC s < s.size)) := hbad
      have c21 := end78_any W1 w.heap.size f1 s (wP s + wC s) (decide (wC s < 1)) hc1 none (.inr ⟨⟨decide_eq_false (fun h => hbad (.inl h)), fun h => hbad (.inr h)⟩, rfl⟩)
      clear hc1 hbad
      go_wp2_with (go_at_call 26; refine Stop.mk ?_)
      refine Stop.out (c21.mono ?_)
      rintro e W2 ⟨v, rfl, hv, hb⟩
      obtain rfl : v = .nilIface := hv
      have HB : Hid (Below w.heap.size w W2) := HB1.out.trans (hb.mono HB1.out.size)
      have c30 := isWhole_any W2 V
      clear hb c21
      by_cases hw : wrong V
      · obtain ⟨rfl, rfl⟩ := Prod.mk.inj (HR.out.symm.trans (WR_far h12 HBad.out (HV0.out.symm ▸ hw)))
        rw [decide_eq_false (not_not_intro hw)] at c30
        have c17 := refusal_any 0 101 W2
        go_wp2_with (go_at_call 27; refine Stop.mk ?_)
        refine Stop.out (c30.mono ?_)
        rintro e W3 ⟨rfl, rfl⟩
        go_wp2_with (go_at_call 15; refine Stop.mk ?_)
        refine Stop.out (c17.mono ?_)
        rintro e W4 ⟨v, rfl, hv, hb⟩
        have HV : Hid (PErr W4 v (some (0, 101))) := hv
        have HB4 : Hid (Below w.heap.size w W4) := HB.out.trans (hb.mono HB.out.size)
        clear hv hb c17 c30
        go_wp2
        refine bodyPost_ret (v := .tuple #[.int .i64 0, v]) (by simp [results, Tryz.results11, go_sem]) rfl ⟨v, rfl, HV.out, HB4.out⟩
      · obtain ⟨rfl, rfl⟩ := Prod.mk.inj (HR.out.symm.trans ((WR_ok h12 HBad.out (HV0.out.symm ▸ hw)).trans (by rw [HV0.out])))
        rw [decide_eq_true hw] at c30
        go_wp2_with (go_at_call 27; refine Stop.mk ?_)
        refine Stop.out (c30.mono ?_)
        rintro e W3 ⟨rfl, rfl⟩
        go_wp2
        refine bodyPost_ret (v := .tuple #[.int .i64 R1, .nilIface]) (by simp [results, Tryz.results11, go_sem]) rfl ⟨_, rfl, rfl, HB.out⟩
end Go.Proofs.YtohojghndnfgdaaGreatDoor.Wh
