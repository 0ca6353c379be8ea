
import Derived.Test.YtnheeenkdjmhoaaDoorFj
import Derived.Test.YtnheeenkdjmhoaaDoorL
/-
  DERIVED. Ack of the program.
-/
namespace Go.Proofs.YtnheeenkdjmhoaaDoor
open Go Go.Proofs Go.RowKit

set_option maxRecDepth 100000 in
set_option maxHeartbeats 1000000 in
theorem ctlP_any (w : World) (s : ByteArray) : Calls Tryd.prog 16 #[.string s] w fun e w' => ∃ b : Bool, e = .returned (.bool b) ∧ (b = true ↔ (s.size ≤ 20 ∧ okB s)) ∧ Below w.heap.size w w' := by
  by_cases h : s.size ≤ 20
  · have h' : decide ((s.size : Int) ≤ 20) = true := by simp; omega
    go_enter Tryd.func16, Tryd.ntmps16
    go_wp2_with (go_at_call 18; refine StopF.out ?_)
    refine StopF.mk ((prt_any _ _).mono ?_)
    rintro e W1 ⟨b, rfl, hb, hbe⟩
    go_wp2
    go_ret
    exact ⟨b, rfl, ⟨fun x => ⟨h, hb.1 x⟩, fun x => hb.2 x.2⟩, hbe⟩
  · have h' : decide ((s.size : Int) ≤ 20) = false := by simp; omega
    go_enter Tryd.func16, Tryd.ntmps16
    go_wp2
    go_ret
    exact ⟨false, rfl, ⟨fun x => by simp at x, fun x => absurd x.1 h⟩, Below.refl _ _⟩

/-- The acknowledgement's bytes. -/
def ackT (c d x : List UInt8) : List UInt8 := [77, 83, 72, 124, 94, 126, 92, 38, 124, 77, 79, 68, 65, 76, 73, 84, 89, 124, 124, 124, 124, 124, 124, 65, 67, 75, 124] ++ escL c ++ [124, 80, 124, 50, 46, 51, 46, 49, 13, 77, 83, 65, 124] ++ d ++ [124] ++ escL c ++ [124] ++ escL x ++ [13]
/-- A code that may be. -/
def CodeOK (d : ByteArray) : Prop := d = { data := #[65, 65] } ∨ d = { data := #[65, 69] } ∨ d = { data := #[65, 82] }
/-- What Ack tells. -/
inductive AckIs (c d x : ByteArray) : Option (Int × Int) → List Nat → Prop
  | ctl : ¬ (c.size ≤ 20 ∧ okB c) → AckIs c d x (some (0, 222)) []
  | code : c.size ≤ 20 ∧ okB c → ¬ CodeOK d → AckIs c d x (some (1, 229)) []
  | long : c.size ≤ 20 ∧ okB c → CodeOK d → 200 < x.size → AckIs c d x (some (2, 230)) []
  | text : c.size ≤ 20 ∧ okB c → CodeOK d → x.size ≤ 200 → ¬ okB x → AckIs c d x (some (2, 224)) []
  | good (t : ByteArray) : c.size ≤ 20 ∧ okB c → CodeOK d → x.size ≤ 200 → okB x → tl t = ackT (tl c) (tl d) (tl x) → AckIs c d x none (fb t)
theorem ack_is (c d x : ByteArray) : ∃ o bs, AckIs c d x o bs := by
  by_cases h1 : c.size ≤ 20 ∧ okB c
  · by_cases h2 : CodeOK d
    · by_cases h3 : x.size ≤ 200
      · by_cases h4 : okB x
        · exact ⟨_, _, .good ⟨(ackT (tl c) (tl d) (tl x)).toArray⟩ h1 h2 h3 h4 (tl_mk _)⟩
        · exact ⟨_, _, .text h1 h2 h3 h4⟩
      · exact ⟨_, _, .long h1 h2 (by omega)⟩
    · exact ⟨_, _, .code h1 h2⟩
  · exact ⟨_, _, .ctl h1⟩
theorem v_nil (w : World) : V w (.slice none 0 0) [] := .inl ⟨none, 0, rfl, rfl⟩

theorem ackT_len (c d x : List UInt8) (hc : c.length ≤ 20) (hx : x.length ≤ 200) (hd : d.length = 2) : (ackT c d x).length ≤ 1000 := by
  have h1 := escL_len c
  have h2 := escL_len x
  simp only [ackT, List.length_append, List.length_cons, List.length_nil]
  omega
theorem frame_ack (w : World) (c d x t q : ByteArray) (ht : tl t = ackT (tl c) (tl d) (tl x)) (hq : tl q = ackT (tl c) (tl d) (tl x)) (hc : c.size ≤ 20) (hx : x.size ≤ 200) (hd : d.size = 2) :
    Calls Tryd.prog 20 #[.string q] w fun e w' => ∃ v, e = .returned v ∧ V w' v (fb t) ∧ Below w.heap.size w w' := by
  obtain rfl : q = t := tl_ext (hq.trans ht.symm)
  have hl := ackT_len (tl c) (tl d) (tl x) (by rw [tl_len]; exact hc) (by rw [tl_len]; exact hx) (by rw [tl_len]; exact hd)
  rw [← ht, tl_len] at hl
  exact (frame_v w q (by omega)).mono fun e w' ⟨v, h1, h2, _, h3⟩ => ⟨v, h1, h2, h3⟩
theorem code_size {d : ByteArray} (h : CodeOK d) : d.size = 2 := by rcases h with rfl | rfl | rfl <;> rfl

set_option maxRecDepth 100000 in
set_option maxHeartbeats 4000000 in
theorem ackP_any (w : World) (c d x : ByteArray) (o : Option (Int × Int)) (bs : List Nat) (h : AckIs c d x o bs) (hx : x.size ≤ maxLen) :
    Calls Tryd.prog 5 #[.string c, .string d, .string x] w fun e w' => ∃ v u, e = .returned (.tuple #[v, u]) ∧ V w' v bs ∧ PErr w' u o ∧ Below w.heap.size w w' := by
  unfold maxLen at hx
  cases h with
  | ctl h1 =>
    go_enter Tryd.func5, Tryd.ntmps5
    go_wp2_with (go_at_call 16; refine StopF.out ?_)
    refine StopF.mk ((ctlP_any _ _).mono ?_)
    rintro e W1 ⟨b, rfl, hb, hbe⟩
    obtain rfl : b = false := by
      cases b with
      | false => rfl
      | true => exact absurd (hb.1 rfl) h1
    clear hb
    go_wp2_with (go_at_call 17; refine StopF.out ?_)
    refine StopF.mk ((refusal_any _ _ _).mono ?_)
    rintro e W2 ⟨v, rfl, hp, hbe2⟩
    go_wp2
    exact bodyPost_ret (v := .tuple #[.slice none 0 0, v]) (by simp [results, Tryd.results5, go_sem]) rfl ⟨_, _, rfl, v_nil _, hp, hbe.trans (hbe2.mono hbe.size)⟩
  | code h1 h2 =>
    have n1 : (d.toList == [65, 65]) = false := by
      simp only [beq_eq_false_iff_ne]; exact fun hh => h2 (.inl (tl_ext ((ByteArray.toList_eq d).symm.trans hh)))
    have n2 : (d.toList == [65, 69]) = false := by
      simp only [beq_eq_false_iff_ne]; exact fun hh => h2 (.inr (.inl (tl_ext ((ByteArray.toList_eq d).symm.trans hh))))
    have n3 : (d.toList == [65, 82]) = false := by
      simp only [beq_eq_false_iff_ne]; exact fun hh => h2 (.inr (.inr (tl_ext ((ByteArray.toList_eq d).symm.trans hh))))
    go_enter Tryd.func5, Tryd.ntmps5
    go_wp2_with (go_at_call 16; refine StopF.out ?_)
    refine StopF.mk ((ctlP_any _ _).mono ?_)
    rintro e W1 ⟨b, rfl, hb, hbe⟩
    obtain rfl : b = true := hb.2 h1
    clear hb
    go_wp2_with (go_at_call 17; refine StopF.out ?_)
    refine StopF.mk ((refusal_any _ _ _).mono ?_)
    rintro e W2 ⟨v, rfl, hp, hbe2⟩
    go_wp2
    exact bodyPost_ret (v := .tuple #[.slice none 0 0, v]) (by simp [results, Tryd.results5, go_sem]) rfl ⟨_, _, rfl, v_nil _, hp, hbe.trans (hbe2.mono hbe.size)⟩
  | long h1 h2 h3 =>
    have h3' : decide ((200 : Int) < (x.size : Int)) = true := by simp; omega
    rcases h2 with rfl | rfl | rfl
    all_goals
      go_enter Tryd.func5, Tryd.ntmps5
      go_wp2_with (go_at_call 16; refine StopF.out ?_)
      refine StopF.mk ((ctlP_any _ _).mono ?_)
      rintro e W1 ⟨b, rfl, hb, hbe⟩
      obtain rfl : b = true := hb.2 h1
      clear hb
      go_wp2_with (go_at_call 17; refine StopF.out ?_)
      refine StopF.mk ((refusal_any _ _ _).mono ?_)
      rintro e W2 ⟨v, rfl, hp, hbe2⟩
      go_wp2
      exact bodyPost_ret (v := .tuple #[.slice none 0 0, v]) (by simp [results, Tryd.results5, go_sem]) rfl ⟨_, _, rfl, v_nil _, hp, hbe.trans (hbe2.mono hbe.size)⟩
  | text h1 h2 h3 h4 =>
    have h3' : decide ((200 : Int) < (x.size : Int)) = false := by simp; omega
    rcases h2 with rfl | rfl | rfl
    all_goals
      go_enter Tryd.func5, Tryd.ntmps5
      go_wp2_with (go_at_call 16; refine StopF.out ?_)
      refine StopF.mk ((ctlP_any _ _).mono ?_)
      rintro e W1 ⟨b, rfl, hb, hbe⟩
      obtain rfl : b = true := hb.2 h1
      clear hb
      go_wp2_with (go_at_call 18; refine StopF.out ?_)
      refine StopF.mk ((prt_any _ _).mono ?_)
      rintro e W2 ⟨b, rfl, hb, hbe2⟩
      obtain rfl : b = false := by
        cases b with
        | false => rfl
        | true => exact absurd (hb.1 rfl) h4
      clear hb
      go_wp2_with (go_at_call 17; refine StopF.out ?_)
      refine StopF.mk ((refusal_any _ _ _).mono ?_)
      rintro e W3 ⟨v, rfl, hp, hbe3⟩
      go_wp2
      exact bodyPost_ret (v := .tuple #[.slice none 0 0, v]) (by simp [results, Tryd.results5, go_sem]) rfl ⟨_, _, rfl, v_nil _, hp, (hbe.trans (hbe2.mono hbe.size)).trans (hbe3.mono (Nat.le_trans hbe.size hbe2.size))⟩
  | good t h1 h2 h3 h4 h5 =>
    have h3' : decide ((200 : Int) < (x.size : Int)) = false := by simp; omega
    have HT : Hid (tl t = ackT (tl c) (tl d) (tl x)) := h5
    clear h5
    rcases h2 with rfl | rfl | rfl
    all_goals
      go_enter Tryd.func5, Tryd.ntmps5
      go_wp2_with (go_at_call 16; refine StopF.out ?_)
      refine StopF.mk ((ctlP_any _ _).mono ?_)
      rintro e W1 ⟨b, rfl, hb, hbe⟩
      obtain rfl : b = true := hb.2 h1
      clear hb
      go_wp2_with (go_at_call 18; refine StopF.out ?_)
      refine StopF.mk ((prt_any _ _).mono ?_)
      rintro e W2 ⟨b, rfl, hb, hbe2⟩
      obtain rfl : b = true := hb.2 h4
      clear hb
      go_wp2_with (go_at_call 19; refine StopF.out ?_)
      refine StopF.mk ((escP_any _ c (by omega) h1.2).mono ?_)
      rintro e W3 ⟨oc, rfl, hoc, hbe3⟩
      have hcs : oc.size ≤ 60 := by
        have h9 := escL_len (tl c)
        rw [← hoc, tl_len, tl_len] at h9
        omega
      have a1 : ¬ (9223372036854775807 < 27 + oc.size) := by omega
      have a2 : ¬ (9223372036854775807 < 27 + oc.size + 13) := by omega
      have a3 : ¬ (9223372036854775807 < 27 + oc.size + 13 + 2) := by omega
      have a4 : ¬ (9223372036854775807 < 27 + oc.size + 13 + 2 + 1) := by omega
      have a5 : ¬ (9223372036854775807 < 27 + oc.size + 13 + 2 + 1 + oc.size) := by omega
      have a6 : ¬ (9223372036854775807 < 27 + oc.size + 13 + 2 + 1 + oc.size + 1) := by omega
      go_wp2_with (go_at_call 19; refine StopF.out ?_)
      refine StopF.mk ((escP_any _ x (by omega) h4).mono ?_)
      rintro e W4 ⟨ox, rfl, hox, hbe4⟩
      have hxs : ox.size ≤ 600 := by
        have h9 := escL_len (tl x)
        rw [← hox, tl_len, tl_len] at h9
        omega
      have a7 : ¬ (9223372036854775807 < 27 + oc.size + 13 + 2 + 1 + oc.size + 1 + ox.size) := by omega
      have a8 : ¬ (9223372036854775807 < 27 + oc.size + 13 + 2 + 1 + oc.size + 1 + ox.size + 1) := by omega
      have q1 := hbe.size; have q2 := hbe2.size; have q3 := hbe3.size; have q4 := hbe4.size
      go_wp2_with (go_at_call 20; refine StopF.out ?_)
      refine StopF.mk ((frame_ack _ c _ x t _ HT.out (by simp only [tl_app, hoc, hox]; rfl) (by omega) (by omega) (by decide)).mono ?_)
      rintro e W5 ⟨v, rfl, hv, hbe5⟩
      go_wp2
      exact bodyPost_ret (v := .tuple #[v, .nilIface]) (by simp [results, Tryd.results5, go_sem]) rfl ⟨_, _, rfl, hv, rfl, (((hbe.trans (hbe2.mono hbe.size)).trans (hbe3.mono (by omega))).trans (hbe4.mono (by omega))).trans (hbe5.mono (by omega))⟩
end Go.Proofs.YtnheeenkdjmhoaaDoor
