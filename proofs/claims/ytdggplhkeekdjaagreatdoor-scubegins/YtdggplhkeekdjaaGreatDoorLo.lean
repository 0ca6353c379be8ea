import Derived.Test.YtdggplhkeekdjaaGreatDoorLn
import Derived.Test.YtdggplhkeekdjaaGreatDoorIc
/-
  DERIVED. The program's refusals; Check.
-/
namespace Go.Proofs.YtdggplhkeekdjaaGreatDoor.Ck
open Go Go.Proofs Go.RowKit

def dB : ByteArray := { data := #[100, 105, 99, 116] }
/-- The error that says this, in the program. -/
def FltV (w : World) (v : Value) : Option (List Lk × Int) → Prop
  | none => v = .nilIface
  | some (ls, c) => Chain w ls c v
theorem FltV.on {w w' : World} {v : Value} {o : Option (List Lk × Int)} (h : FltV w v o) (hb : Below w.heap.size w w') : FltV w' v o := by
  cases o with
  | none => exact h
  | some x => exact Chain.on hb h
set_option maxRecDepth 100000 in
theorem refusal_any (w : World) (a : Int) (u : Value) (hu : (∃ c, u = .iface 94 (.int .i64 c)) ∨ ∃ g, u = .iface 115 (.pointer (some ⟨g, 0, none⟩))) : Calls Tryz.prog 83 #[.int .i64 a, u] w fun e w' => e = .returned (.iface 115 (.pointer (some ⟨w.heap.size, 0, none⟩))) ∧ w.alloc (.cells #[.string { data := #[100, 105, 99, 116] }, .int .i64 a, u] 117) = w' := by
  rcases hu with ⟨c, rfl⟩ | ⟨g, rfl⟩
  all_goals
    go_enter Tryz.func83, Tryz.ntmps83
    go_wp2
    go_ret
    exact ⟨rfl, rfl⟩
theorem refusal_new (w : World) (a c : Int) : Calls Tryz.prog 83 #[.int .i64 a, .iface 94 (.int .i64 c)] w fun e w' => ∃ q, e = .returned (.iface 115 (.pointer (some ⟨q, 0, none⟩))) ∧ Chain w' [(dB, a)] c (.iface 115 (.pointer (some ⟨q, 0, none⟩))) ∧ Below w.heap.size w w' := by
  refine (refusal_any w a _ (.inl ⟨c, rfl⟩)).mono ?_
  rintro e W1 ⟨rfl, rfl⟩
  exact ⟨_, rfl, ⟨_, _, rfl, by simp [dB], by simp, by simp, rfl⟩, (Below.refl _ _).alloc (Nat.le_refl _) _⟩
theorem refusal_more (w : World) (a c : Int) (ls : List Lk) (u : Value) (h : Chain w ls c u) (h0 : 0 < ls.length) : Calls Tryz.prog 83 #[.int .i64 a, u] w fun e w' => ∃ q, e = .returned (.iface 115 (.pointer (some ⟨q, 0, none⟩))) ∧ Chain w' ((dB, a) :: ls) c (.iface 115 (.pointer (some ⟨q, 0, none⟩))) ∧ Below w.heap.size w w' := by
  have hu : ∃ g, u = .iface 115 (.pointer (some ⟨g, 0, none⟩)) := by
    cases ls with
    | nil => simp at h0
    | cons x r => obtain ⟨q, _, h1, _⟩ := h; exact ⟨q, h1⟩
  refine (refusal_any w a _ (.inr hu)).mono ?_
  rintro e W1 ⟨rfl, rfl⟩
  have hb : Below w.heap.size w (w.alloc (.cells #[.string { data := #[100, 105, 99, 116] }, .int .i64 a, u] 117)) := (Below.refl _ _).alloc (Nat.le_refl _) _
  exact ⟨_, rfl, ⟨_, _, rfl, by simp [dB], by simp, by simp, h.on hb⟩, hb⟩
/-- What Check says. -/
def ckO (ok : Bool) (k : Nat) (wl wc : Int) (fo : Bool) : Option (List Lk × Int) :=
  if ok = false then some ([(dB, 0)], 62) else if k = 0 then none else if 0 ≤ wl then some ([(dB, wl)], 63) else if 0 ≤ wc then some ([(dB, wc)], 64) else if fo = true then none else some ([(dB, 0)], 65)
/-- A form that is asked for. -/
def FmF (ff : Value) (s : ByteArray) (fo : Bool) : Prop := (ff = .nilFunc ∧ fo = true) ∨ ∃ j, ff = .func (.func j) #[] #[] ∧ (∀ args w, (callFunc j args).run Tryz.prog w = .ok (.enter j args) w) ∧ ∀ W, Gb W → Calls Tryz.prog j #[.string s] W fun e w' => e = .returned (.bool fo) ∧ Below W.heap.size W w'
def CkP (w : World) (o : Option (List Lk × Int)) (e : Ending) (w' : World) : Prop := ∃ r, e = .returned r ∧ FltV w' r o ∧ Below w.heap.size w w'
set_option maxRecDepth 100000 in
set_option maxHeartbeats 8000000 in
theorem check_nn (w : World) (v : Int) (n : ByteArray) (p : Int) (u m : Nat) (t c q l : Bool) (s : ByteArray) (ok : Bool) (wl wc : Int) (fo : Bool)
    (c13 : ∀ W, Calls Tryz.prog 82 #[.int .i64 v] W fun e w' => e = .returned (.tuple #[.agg (rpC n p u m t c q l (.nilFunc) (.nilFunc)), .bool ok]) ∧ Below W.heap.size W w')
    (c15 : ∀ W, Calls Tryz.prog 84 #[.agg (rpC n p u m t c q l (.nilFunc) (.nilFunc)), .string s] W fun e w' => e = .returned (.int .i64 wl) ∧ Below W.heap.size W w')
    (c16 : ∀ W, Gb W → Calls Tryz.prog 85 #[.agg (rpC n p u m t c q l (.nilFunc) (.nilFunc)), .string s] W fun e w' => e = .returned (.int .i64 wc) ∧ Below W.heap.size W w')
    (hF : wl < 0 → wc < 0 → FmF (.nilFunc) s fo) (hG : Gb w) :
    Calls Tryz.prog 50 #[.int .i64 v, .string s] w (CkP w (ckO ok s.size wl wc fo)) := by
  unfold ckO
  have C13 := c13 w
  unfold rpC at c15 c16 C13
  clear c13
  cases ok with
  | false =>
    rw [if_pos rfl]
    go_enter Tryz.func50, Tryz.ntmps50
    go_wp2_with (go_at_call 82; refine Stop.mk ?_)
    refine Stop.out ((C13).mono ?_)
    rintro e W1 ⟨rfl, hb1⟩
    have HB1 : Hid (Below w.heap.size w W1) := hb1
    clear hb1
    go_wp2_with (go_at_call 83; refine Stop.mk ?_)
    refine Stop.out ((refusal_new _ 0 62).mono ?_)
    rintro e W9 ⟨q9, rfl, hq9, hb9⟩
    have hb2 : Below W1.heap.size W1 (W1.alloc (.cells #[.string n, .int .u8 p, .int .i64 (u : Int), .int .i64 (m : Int), .bool t, .bool c, .bool q, .bool l, .nilFunc, .nilFunc] 179)) := (Below.refl _ _).alloc (Nat.le_refl _) _
    have HB2 : Hid (Below w.heap.size w (W1.alloc (.cells #[.string n, .int .u8 p, .int .i64 (u : Int), .int .i64 (m : Int), .bool t, .bool c, .bool q, .bool l, .nilFunc, .nilFunc] 179))) := HB1.out.trans (hb2.mono HB1.out.size)
    clear hb2
    have HB9 : Hid (Below w.heap.size w W9) := HB2.out.trans (hb9.mono HB2.out.size)
    have HQ : Hid _ := hq9
    clear hb9 hq9
    go_wp2
    go_ret
    exact ⟨_, rfl, HQ.out, HB9.out⟩
  | true =>
    rw [if_neg (by decide)]
    by_cases h0 : s.size = 0
    · have e0 := text_none h0
      rw [if_pos h0]
      clear h0
      go_enter Tryz.func50, Tryz.ntmps50
      go_wp2_with (go_at_call 82; refine Stop.mk ?_)
      refine Stop.out ((C13).mono ?_)
      rintro e W1 ⟨rfl, hb1⟩
      have HB1 : Hid (Below w.heap.size w W1) := hb1
      clear hb1
      go_wp2
      have hb2 : Below W1.heap.size W1 (W1.alloc (.cells #[.string n, .int .u8 p, .int .i64 (u : Int), .int .i64 (m : Int), .bool t, .bool c, .bool q, .bool l, .nilFunc, .nilFunc] 179)) := (Below.refl _ _).alloc (Nat.le_refl _) _
      have HB2 : Hid (Below w.heap.size w (W1.alloc (.cells #[.string n, .int .u8 p, .int .i64 (u : Int), .int .i64 (m : Int), .bool t, .bool c, .bool q, .bool l, .nilFunc, .nilFunc] 179))) := HB1.out.trans (hb2.mono HB1.out.size)
      clear hb2
      go_ret
      exact ⟨_, rfl, rfl, HB2.out⟩
    have e0 := text_some h0
    rw [if_neg h0]
    by_cases h1 : 0 ≤ wl
    · have i1 : wl ≥ 0 := h1
      rw [if_pos h1]
      go_enter Tryz.func50, Tryz.ntmps50
      go_wp2_with (go_at_call 82; refine Stop.mk ?_)
      refine Stop.out ((C13).mono ?_)
      rintro e W1 ⟨rfl, hb1⟩
      have HB1 : Hid (Below w.heap.size w W1) := hb1
      clear hb1
      go_wp2_with (go_at_call 84; refine Stop.mk ?_)
      refine Stop.out ((c15 _).mono ?_)
      rintro e W3 ⟨rfl, hb3⟩
      have hb2 : Below W1.heap.size W1 (W1.alloc (.cells #[.string n, .int .u8 p, .int .i64 (u : Int), .int .i64 (m : Int), .bool t, .bool c, .bool q, .bool l, .nilFunc, .nilFunc] 179)) := (Below.refl _ _).alloc (Nat.le_refl _) _
      have HB2 : Hid (Below w.heap.size w (W1.alloc (.cells #[.string n, .int .u8 p, .int .i64 (u : Int), .int .i64 (m : Int), .bool t, .bool c, .bool q, .bool l, .nilFunc, .nilFunc] 179))) := HB1.out.trans (hb2.mono HB1.out.size)
      clear hb2
      have HB3 : Hid (Below w.heap.size w W3) := HB2.out.trans (hb3.mono HB2.out.size)
      have y3_0 : W3.cell? ⟨W1.heap.size, 0, none⟩ = some (.string n) := (hb3.cell (by simp)).trans (by simp)
      have y3_1 : W3.cell? ⟨W1.heap.size, 1, none⟩ = some (.int .u8 p) := (hb3.cell (by simp)).trans (by simp)
      have y3_2 : W3.cell? ⟨W1.heap.size, 2, none⟩ = some (.int .i64 (u : Int)) := (hb3.cell (by simp)).trans (by simp)
      have y3_3 : W3.cell? ⟨W1.heap.size, 3, none⟩ = some (.int .i64 (m : Int)) := (hb3.cell (by simp)).trans (by simp)
      have y3_4 : W3.cell? ⟨W1.heap.size, 4, none⟩ = some (.bool t) := (hb3.cell (by simp)).trans (by simp)
      have y3_5 : W3.cell? ⟨W1.heap.size, 5, none⟩ = some (.bool c) := (hb3.cell (by simp)).trans (by simp)
      have y3_6 : W3.cell? ⟨W1.heap.size, 6, none⟩ = some (.bool q) := (hb3.cell (by simp)).trans (by simp)
      have y3_7 : W3.cell? ⟨W1.heap.size, 7, none⟩ = some (.bool l) := (hb3.cell (by simp)).trans (by simp)
      have y3_8 : W3.cell? ⟨W1.heap.size, 8, none⟩ = some (.nilFunc) := (hb3.cell (by simp)).trans (by simp)
      have y3_9 : W3.cell? ⟨W1.heap.size, 9, none⟩ = some (.nilFunc) := (hb3.cell (by simp)).trans (by simp)
      clear hb3 HB2
      go_wp2_with (go_at_call 83; refine Stop.mk ?_)
      refine Stop.out ((refusal_new _ wl 63).mono ?_)
      rintro e W9 ⟨q9, rfl, hq9, hb9⟩
      have HB9 : Hid (Below w.heap.size w W9) := HB3.out.trans (hb9.mono HB3.out.size)
      have HQ : Hid _ := hq9
      clear hb9 hq9
      go_wp2
      go_ret
      exact ⟨_, rfl, HQ.out, HB9.out⟩
    have i1 : ¬ (wl ≥ 0) := by omega
    rw [if_neg h1]
    by_cases h2 : 0 ≤ wc
    · have i2 : wc ≥ 0 := h2
      rw [if_pos h2]
      go_enter Tryz.func50, Tryz.ntmps50
      go_wp2_with (go_at_call 82; refine Stop.mk ?_)
      refine Stop.out ((C13).mono ?_)
      rintro e W1 ⟨rfl, hb1⟩
      have HB1 : Hid (Below w.heap.size w W1) := hb1
      clear hb1
      go_wp2_with (go_at_call 84; refine Stop.mk ?_)
      refine Stop.out ((c15 _).mono ?_)
      rintro e W3 ⟨rfl, hb3⟩
      have hb2 : Below W1.heap.size W1 (W1.alloc (.cells #[.string n, .int .u8 p, .int .i64 (u : Int), .int .i64 (m : Int), .bool t, .bool c, .bool q, .bool l, .nilFunc, .nilFunc] 179)) := (Below.refl _ _).alloc (Nat.le_refl _) _
      have HB2 : Hid (Below w.heap.size w (W1.alloc (.cells #[.string n, .int .u8 p, .int .i64 (u : Int), .int .i64 (m : Int), .bool t, .bool c, .bool q, .bool l, .nilFunc, .nilFunc] 179))) := HB1.out.trans (hb2.mono HB1.out.size)
      clear hb2
      have HB3 : Hid (Below w.heap.size w W3) := HB2.out.trans (hb3.mono HB2.out.size)
      have y3_0 : W3.cell? ⟨W1.heap.size, 0, none⟩ = some (.string n) := (hb3.cell (by simp)).trans (by simp)
      have y3_1 : W3.cell? ⟨W1.heap.size, 1, none⟩ = some (.int .u8 p) := (hb3.cell (by simp)).trans (by simp)
      have y3_2 : W3.cell? ⟨W1.heap.size, 2, none⟩ = some (.int .i64 (u : Int)) := (hb3.cell (by simp)).trans (by simp)
      have y3_3 : W3.cell? ⟨W1.heap.size, 3, none⟩ = some (.int .i64 (m : Int)) := (hb3.cell (by simp)).trans (by simp)
      have y3_4 : W3.cell? ⟨W1.heap.size, 4, none⟩ = some (.bool t) := (hb3.cell (by simp)).trans (by simp)
      have y3_5 : W3.cell? ⟨W1.heap.size, 5, none⟩ = some (.bool c) := (hb3.cell (by simp)).trans (by simp)
      have y3_6 : W3.cell? ⟨W1.heap.size, 6, none⟩ = some (.bool q) := (hb3.cell (by simp)).trans (by simp)
      have y3_7 : W3.cell? ⟨W1.heap.size, 7, none⟩ = some (.bool l) := (hb3.cell (by simp)).trans (by simp)
      have y3_8 : W3.cell? ⟨W1.heap.size, 8, none⟩ = some (.nilFunc) := (hb3.cell (by simp)).trans (by simp)
      have y3_9 : W3.cell? ⟨W1.heap.size, 9, none⟩ = some (.nilFunc) := (hb3.cell (by simp)).trans (by simp)
      clear hb3 HB2
      go_wp2_with (go_at_call 85; refine Stop.mk ?_)
      refine Stop.out ((c16 _ (hG.on HB3.out)).mono ?_)
      rintro e W4 ⟨rfl, hb4⟩
      have HB4 : Hid (Below w.heap.size w W4) := HB3.out.trans (hb4.mono HB3.out.size)
      have y4_0 := (hb4.cell (clt y3_0)).trans y3_0
      have y4_1 := (hb4.cell (clt y3_1)).trans y3_1
      have y4_2 := (hb4.cell (clt y3_2)).trans y3_2
      have y4_3 := (hb4.cell (clt y3_3)).trans y3_3
      have y4_4 := (hb4.cell (clt y3_4)).trans y3_4
      have y4_5 := (hb4.cell (clt y3_5)).trans y3_5
      have y4_6 := (hb4.cell (clt y3_6)).trans y3_6
      have y4_7 := (hb4.cell (clt y3_7)).trans y3_7
      have y4_8 := (hb4.cell (clt y3_8)).trans y3_8
      have y4_9 := (hb4.cell (clt y3_9)).trans y3_9
      clear hb4
      go_wp2_with (go_at_call 83; refine Stop.mk ?_)
      refine Stop.out ((refusal_new _ wc 64).mono ?_)
      rintro e W9 ⟨q9, rfl, hq9, hb9⟩
      have HB9 : Hid (Below w.heap.size w W9) := HB4.out.trans (hb9.mono HB4.out.size)
      have HQ : Hid _ := hq9
      clear hb9 hq9
      go_wp2
      go_ret
      exact ⟨_, rfl, HQ.out, HB9.out⟩
    have i2 : ¬ (wc ≥ 0) := by omega
    rw [if_neg h2]
    have hFF := hF (by omega) (by omega)
    have n42 := ne42n
    have hfo : fo = true := by
      rcases hFF with ⟨_, h⟩ | ⟨j, h, _⟩
      · exact h
      · cases h
    subst hfo
    rw [if_pos rfl]
    go_enter Tryz.func50, Tryz.ntmps50
    go_wp2_with (go_at_call 82; refine Stop.mk ?_)
    refine Stop.out ((C13).mono ?_)
    rintro e W1 ⟨rfl, hb1⟩
    have HB1 : Hid (Below w.heap.size w W1) := hb1
    clear hb1
    go_wp2_with (go_at_call 84; refine Stop.mk ?_)
    refine Stop.out ((c15 _).mono ?_)
    rintro e W3 ⟨rfl, hb3⟩
    have hb2 : Below W1.heap.size W1 (W1.alloc (.cells #[.string n, .int .u8 p, .int .i64 (u : Int), .int .i64 (m : Int), .bool t, .bool c, .bool q, .bool l, .nilFunc, .nilFunc] 179)) := (Below.refl _ _).alloc (Nat.le_refl _) _
    have HB2 : Hid (Below w.heap.size w (W1.alloc (.cells #[.string n, .int .u8 p, .int .i64 (u : Int), .int .i64 (m : Int), .bool t, .bool c, .bool q, .bool l, .nilFunc, .nilFunc] 179))) := HB1.out.trans (hb2.mono HB1.out.size)
    clear hb2
    have HB3 : Hid (Below w.heap.size w W3) := HB2.out.trans (hb3.mono HB2.out.size)
    have y3_0 : W3.cell? ⟨W1.heap.size, 0, none⟩ = some (.string n) := (hb3.cell (by simp)).trans (by simp)
    have y3_1 : W3.cell? ⟨W1.heap.size, 1, none⟩ = some (.int .u8 p) := (hb3.cell (by simp)).trans (by simp)
    have y3_2 : W3.cell? ⟨W1.heap.size, 2, none⟩ = some (.int .i64 (u : Int)) := (hb3.cell (by simp)).trans (by simp)
    have y3_3 : W3.cell? ⟨W1.heap.size, 3, none⟩ = some (.int .i64 (m : Int)) := (hb3.cell (by simp)).trans (by simp)
    have y3_4 : W3.cell? ⟨W1.heap.size, 4, none⟩ = some (.bool t) := (hb3.cell (by simp)).trans (by simp)
    have y3_5 : W3.cell? ⟨W1.heap.size, 5, none⟩ = some (.bool c) := (hb3.cell (by simp)).trans (by simp)
    have y3_6 : W3.cell? ⟨W1.heap.size, 6, none⟩ = some (.bool q) := (hb3.cell (by simp)).trans (by simp)
    have y3_7 : W3.cell? ⟨W1.heap.size, 7, none⟩ = some (.bool l) := (hb3.cell (by simp)).trans (by simp)
    have y3_8 : W3.cell? ⟨W1.heap.size, 8, none⟩ = some (.nilFunc) := (hb3.cell (by simp)).trans (by simp)
    have y3_9 : W3.cell? ⟨W1.heap.size, 9, none⟩ = some (.nilFunc) := (hb3.cell (by simp)).trans (by simp)
    clear hb3 HB2
    go_wp2_with (go_at_call 85; refine Stop.mk ?_)
    refine Stop.out ((c16 _ (hG.on HB3.out)).mono ?_)
    rintro e W4 ⟨rfl, hb4⟩
    have HB4 : Hid (Below w.heap.size w W4) := HB3.out.trans (hb4.mono HB3.out.size)
    have y4_0 := (hb4.cell (clt y3_0)).trans y3_0
    have y4_1 := (hb4.cell (clt y3_1)).trans y3_1
    have y4_2 := (hb4.cell (clt y3_2)).trans y3_2
    have y4_3 := (hb4.cell (clt y3_3)).trans y3_3
    have y4_4 := (hb4.cell (clt y3_4)).trans y3_4
    have y4_5 := (hb4.cell (clt y3_5)).trans y3_5
    have y4_6 := (hb4.cell (clt y3_6)).trans y3_6
    have y4_7 := (hb4.cell (clt y3_7)).trans y3_7
    have y4_8 := (hb4.cell (clt y3_8)).trans y3_8
    have y4_9 := (hb4.cell (clt y3_9)).trans y3_9
    clear hb4
    go_wp2
    go_ret
    exact ⟨_, rfl, rfl, HB4.out⟩
set_option maxRecDepth 100000 in
set_option maxHeartbeats 8000000 in
theorem check_fn (w : World) (v : Int) (n : ByteArray) (p : Int) (u m : Nat) (t c q l : Bool) (jc : Nat) (s : ByteArray) (ok : Bool) (wl wc : Int) (fo : Bool)
    (c13 : ∀ W, Calls Tryz.prog 82 #[.int .i64 v] W fun e w' => e = .returned (.tuple #[.agg (rpC n p u m t c q l (.func (.func jc) #[] #[]) (.nilFunc)), .bool ok]) ∧ Below W.heap.size W w')
    (c15 : ∀ W, Calls Tryz.prog 84 #[.agg (rpC n p u m t c q l (.func (.func jc) #[] #[]) (.nilFunc)), .string s] W fun e w' => e = .returned (.int .i64 wl) ∧ Below W.heap.size W w')
    (c16 : ∀ W, Gb W → Calls Tryz.prog 85 #[.agg (rpC n p u m t c q l (.func (.func jc) #[] #[]) (.nilFunc)), .string s] W fun e w' => e = .returned (.int .i64 wc) ∧ Below W.heap.size W w')
    (hF : wl < 0 → wc < 0 → FmF (.nilFunc) s fo) (hG : Gb w) :
    Calls Tryz.prog 50 #[.int .i64 v, .string s] w (CkP w (ckO ok s.size wl wc fo)) := by
  unfold ckO
  have C13 := c13 w
  unfold rpC at c15 c16 C13
  clear c13
  cases ok with
  | false =>
    rw [if_pos rfl]
    go_enter Tryz.func50, Tryz.ntmps50
    go_wp2_with (go_at_call 82; refine Stop.mk ?_)
    refine Stop.out ((C13).mono ?_)
    rintro e W1 ⟨rfl, hb1⟩
    have HB1 : Hid (Below w.heap.size w W1) := hb1
    clear hb1
    go_wp2_with (go_at_call 83; refine Stop.mk ?_)
    refine Stop.out ((refusal_new _ 0 62).mono ?_)
    rintro e W9 ⟨q9, rfl, hq9, hb9⟩
    have hb2 : Below W1.heap.size W1 (W1.alloc (.cells #[.string n, .int .u8 p, .int .i64 (u : Int), .int .i64 (m : Int), .bool t, .bool c, .bool q, .bool l, (.func (.func jc) #[] #[]), .nilFunc] 179)) := (Below.refl _ _).alloc (Nat.le_refl _) _
    have HB2 : Hid (Below w.heap.size w (W1.alloc (.cells #[.string n, .int .u8 p, .int .i64 (u : Int), .int .i64 (m : Int), .bool t, .bool c, .bool q, .bool l, (.func (.func jc) #[] #[]), .nilFunc] 179))) := HB1.out.trans (hb2.mono HB1.out.size)
    clear hb2
    have HB9 : Hid (Below w.heap.size w W9) := HB2.out.trans (hb9.mono HB2.out.size)
    have HQ : Hid _ := hq9
    clear hb9 hq9
    go_wp2
    go_ret
    exact ⟨_, rfl, HQ.out, HB9.out⟩
  | true =>
    rw [if_neg (by decide)]
    by_cases h0 : s.size = 0
    · have e0 := text_none h0
      rw [if_pos h0]
      clear h0
      go_enter Tryz.func50, Tryz.ntmps50
      go_wp2_with (go_at_call 82; refine Stop.mk ?_)
      refine Stop.out ((C13).mono ?_)
      rintro e W1 ⟨rfl, hb1⟩
      have HB1 : Hid (Below w.heap.size w W1) := hb1
      clear hb1
      go_wp2
      have hb2 : Below W1.heap.size W1 (W1.alloc (.cells #[.string n, .int .u8 p, .int .i64 (u : Int), .int .i64 (m : Int), .bool t, .bool c, .bool q, .bool l, (.func (.func jc) #[] #[]), .nilFunc] 179)) := (Below.refl _ _).alloc (Nat.le_refl _) _
      have HB2 : Hid (Below w.heap.size w (W1.alloc (.cells #[.string n, .int .u8 p, .int .i64 (u : Int), .int .i64 (m : Int), .bool t, .bool c, .bool q, .bool l, (.func (.func jc) #[] #[]), .nilFunc] 179))) := HB1.out.trans (hb2.mono HB1.out.size)
      clear hb2
      go_ret
      exact ⟨_, rfl, rfl, HB2.out⟩
    have e0 := text_some h0
    rw [if_neg h0]
    by_cases h1 : 0 ≤ wl
    · have i1 : wl ≥ 0 := h1
      rw [if_pos h1]
      go_enter Tryz.func50, Tryz.ntmps50
      go_wp2_with (go_at_call 82; refine Stop.mk ?_)
      refine Stop.out ((C13).mono ?_)
      rintro e W1 ⟨rfl, hb1⟩
      have HB1 : Hid (Below w.heap.size w W1) := hb1
      clear hb1
      go_wp2_with (go_at_call 84; refine Stop.mk ?_)
      refine Stop.out ((c15 _).mono ?_)
      rintro e W3 ⟨rfl, hb3⟩
      have hb2 : Below W1.heap.size W1 (W1.alloc (.cells #[.string n, .int .u8 p, .int .i64 (u : Int), .int .i64 (m : Int), .bool t, .bool c, .bool q, .bool l, (.func (.func jc) #[] #[]), .nilFunc] 179)) := (Below.refl _ _).alloc (Nat.le_refl _) _
      have HB2 : Hid (Below w.heap.size w (W1.alloc (.cells #[.string n, .int .u8 p, .int .i64 (u : Int), .int .i64 (m : Int), .bool t, .bool c, .bool q, .bool l, (.func (.func jc) #[] #[]), .nilFunc] 179))) := HB1.out.trans (hb2.mono HB1.out.size)
      clear hb2
      have HB3 : Hid (Below w.heap.size w W3) := HB2.out.trans (hb3.mono HB2.out.size)
      have y3_0 : W3.cell? ⟨W1.heap.size, 0, none⟩ = some (.string n) := (hb3.cell (by simp)).trans (by simp)
      have y3_1 : W3.cell? ⟨W1.heap.size, 1, none⟩ = some (.int .u8 p) := (hb3.cell (by simp)).trans (by simp)
      have y3_2 : W3.cell? ⟨W1.heap.size, 2, none⟩ = some (.int .i64 (u : Int)) := (hb3.cell (by simp)).trans (by simp)
      have y3_3 : W3.cell? ⟨W1.heap.size, 3, none⟩ = some (.int .i64 (m : Int)) := (hb3.cell (by simp)).trans (by simp)
      have y3_4 : W3.cell? ⟨W1.heap.size, 4, none⟩ = some (.bool t) := (hb3.cell (by simp)).trans (by simp)
      have y3_5 : W3.cell? ⟨W1.heap.size, 5, none⟩ = some (.bool c) := (hb3.cell (by simp)).trans (by simp)
      have y3_6 : W3.cell? ⟨W1.heap.size, 6, none⟩ = some (.bool q) := (hb3.cell (by simp)).trans (by simp)
      have y3_7 : W3.cell? ⟨W1.heap.size, 7, none⟩ = some (.bool l) := (hb3.cell (by simp)).trans (by simp)
      have y3_8 : W3.cell? ⟨W1.heap.size, 8, none⟩ = some ((.func (.func jc) #[] #[])) := (hb3.cell (by simp)).trans (by simp)
      have y3_9 : W3.cell? ⟨W1.heap.size, 9, none⟩ = some (.nilFunc) := (hb3.cell (by simp)).trans (by simp)
      clear hb3 HB2
      go_wp2_with (go_at_call 83; refine Stop.mk ?_)
      refine Stop.out ((refusal_new _ wl 63).mono ?_)
      rintro e W9 ⟨q9, rfl, hq9, hb9⟩
      have HB9 : Hid (Below w.heap.size w W9) := HB3.out.trans (hb9.mono HB3.out.size)
      have HQ : Hid _ := hq9
      clear hb9 hq9
      go_wp2
      go_ret
      exact ⟨_, rfl, HQ.out, HB9.out⟩
    have i1 : ¬ (wl ≥ 0) := by omega
    rw [if_neg h1]
    by_cases h2 : 0 ≤ wc
    · have i2 : wc ≥ 0 := h2
      rw [if_pos h2]
      go_enter Tryz.func50, Tryz.ntmps50
      go_wp2_with (go_at_call 82; refine Stop.mk ?_)
      refine Stop.out ((C13).mono ?_)
      rintro e W1 ⟨rfl, hb1⟩
      have HB1 : Hid (Below w.heap.size w W1) := hb1
      clear hb1
      go_wp2_with (go_at_call 84; refine Stop.mk ?_)
      refine Stop.out ((c15 _).mono ?_)
      rintro e W3 ⟨rfl, hb3⟩
      have hb2 : Below W1.heap.size W1 (W1.alloc (.cells #[.string n, .int .u8 p, .int .i64 (u : Int), .int .i64 (m : Int), .bool t, .bool c, .bool q, .bool l, (.func (.func jc) #[] #[]), .nilFunc] 179)) := (Below.refl _ _).alloc (Nat.le_refl _) _
      have HB2 : Hid (Below w.heap.size w (W1.alloc (.cells #[.string n, .int .u8 p, .int .i64 (u : Int), .int .i64 (m : Int), .bool t, .bool c, .bool q, .bool l, (.func (.func jc) #[] #[]), .nilFunc] 179))) := HB1.out.trans (hb2.mono HB1.out.size)
      clear hb2
      have HB3 : Hid (Below w.heap.size w W3) := HB2.out.trans (hb3.mono HB2.out.size)
      have y3_0 : W3.cell? ⟨W1.heap.size, 0, none⟩ = some (.string n) := (hb3.cell (by simp)).trans (by simp)
      have y3_1 : W3.cell? ⟨W1.heap.size, 1, none⟩ = some (.int .u8 p) := (hb3.cell (by simp)).trans (by simp)
      have y3_2 : W3.cell? ⟨W1.heap.size, 2, none⟩ = some (.int .i64 (u : Int)) := (hb3.cell (by simp)).trans (by simp)
      have y3_3 : W3.cell? ⟨W1.heap.size, 3, none⟩ = some (.int .i64 (m : Int)) := (hb3.cell (by simp)).trans (by simp)
      have y3_4 : W3.cell? ⟨W1.heap.size, 4, none⟩ = some (.bool t) := (hb3.cell (by simp)).trans (by simp)
      have y3_5 : W3.cell? ⟨W1.heap.size, 5, none⟩ = some (.bool c) := (hb3.cell (by simp)).trans (by simp)
      have y3_6 : W3.cell? ⟨W1.heap.size, 6, none⟩ = some (.bool q) := (hb3.cell (by simp)).trans (by simp)
      have y3_7 : W3.cell? ⟨W1.heap.size, 7, none⟩ = some (.bool l) := (hb3.cell (by simp)).trans (by simp)
      have y3_8 : W3.cell? ⟨W1.heap.size, 8, none⟩ = some ((.func (.func jc) #[] #[])) := (hb3.cell (by simp)).trans (by simp)
      have y3_9 : W3.cell? ⟨W1.heap.size, 9, none⟩ = some (.nilFunc) := (hb3.cell (by simp)).trans (by simp)
      clear hb3 HB2
      go_wp2_with (go_at_call 85; refine Stop.mk ?_)
      refine Stop.out ((c16 _ (hG.on HB3.out)).mono ?_)
      rintro e W4 ⟨rfl, hb4⟩
      have HB4 : Hid (Below w.heap.size w W4) := HB3.out.trans (hb4.mono HB3.out.size)
      have y4_0 := (hb4.cell (clt y3_0)).trans y3_0
      have y4_1 := (hb4.cell (clt y3_1)).trans y3_1
      have y4_2 := (hb4.cell (clt y3_2)).trans y3_2
      have y4_3 := (hb4.cell (clt y3_3)).trans y3_3
      have y4_4 := (hb4.cell (clt y3_4)).trans y3_4
      have y4_5 := (hb4.cell (clt y3_5)).trans y3_5
      have y4_6 := (hb4.cell (clt y3_6)).trans y3_6
      have y4_7 := (hb4.cell (clt y3_7)).trans y3_7
      have y4_8 := (hb4.cell (clt y3_8)).trans y3_8
      have y4_9 := (hb4.cell (clt y3_9)).trans y3_9
      clear hb4
      go_wp2_with (go_at_call 83; refine Stop.mk ?_)
      refine Stop.out ((refusal_new _ wc 64).mono ?_)
      rintro e W9 ⟨q9, rfl, hq9, hb9⟩
      have HB9 : Hid (Below w.heap.size w W9) := HB4.out.trans (hb9.mono HB4.out.size)
      have HQ : Hid _ := hq9
      clear hb9 hq9
      go_wp2
      go_ret
      exact ⟨_, rfl, HQ.out, HB9.out⟩
    have i2 : ¬ (wc ≥ 0) := by omega
    rw [if_neg h2]
    have hFF := hF (by omega) (by omega)
    have n42 := ne42n
    have hfo : fo = true := by
      rcases hFF with ⟨_, h⟩ | ⟨j, h, _⟩
      · exact h
      · cases h
    subst hfo
    rw [if_pos rfl]
    go_enter Tryz.func50, Tryz.ntmps50
    go_wp2_with (go_at_call 82; refine Stop.mk ?_)
    refine Stop.out ((C13).mono ?_)
    rintro e W1 ⟨rfl, hb1⟩
    have HB1 : Hid (Below w.heap.size w W1) := hb1
    clear hb1
    go_wp2_with (go_at_call 84; refine Stop.mk ?_)
    refine Stop.out ((c15 _).mono ?_)
    rintro e W3 ⟨rfl, hb3⟩
    have hb2 : Below W1.heap.size W1 (W1.alloc (.cells #[.string n, .int .u8 p, .int .i64 (u : Int), .int .i64 (m : Int), .bool t, .bool c, .bool q, .bool l, (.func (.func jc) #[] #[]), .nilFunc] 179)) := (Below.refl _ _).alloc (Nat.le_refl _) _
    have HB2 : Hid (Below w.heap.size w (W1.alloc (.cells #[.string n, .int .u8 p, .int .i64 (u : Int), .int .i64 (m : Int), .bool t, .bool c, .bool q, .bool l, (.func (.func jc) #[] #[]), .nilFunc] 179))) := HB1.out.trans (hb2.mono HB1.out.size)
    clear hb2
    have HB3 : Hid (Below w.heap.size w W3) := HB2.out.trans (hb3.mono HB2.out.size)
    have y3_0 : W3.cell? ⟨W1.heap.size, 0, none⟩ = some (.string n) := (hb3.cell (by simp)).trans (by simp)
    have y3_1 : W3.cell? ⟨W1.heap.size, 1, none⟩ = some (.int .u8 p) := (hb3.cell (by simp)).trans (by simp)
    have y3_2 : W3.cell? ⟨W1.heap.size, 2, none⟩ = some (.int .i64 (u : Int)) := (hb3.cell (by simp)).trans (by simp)
    have y3_3 : W3.cell? ⟨W1.heap.size, 3, none⟩ = some (.int .i64 (m : Int)) := (hb3.cell (by simp)).trans (by simp)
    have y3_4 : W3.cell? ⟨W1.heap.size, 4, none⟩ = some (.bool t) := (hb3.cell (by simp)).trans (by simp)
    have y3_5 : W3.cell? ⟨W1.heap.size, 5, none⟩ = some (.bool c) := (hb3.cell (by simp)).trans (by simp)
    have y3_6 : W3.cell? ⟨W1.heap.size, 6, none⟩ = some (.bool q) := (hb3.cell (by simp)).trans (by simp)
    have y3_7 : W3.cell? ⟨W1.heap.size, 7, none⟩ = some (.bool l) := (hb3.cell (by simp)).trans (by simp)
    have y3_8 : W3.cell? ⟨W1.heap.size, 8, none⟩ = some ((.func (.func jc) #[] #[])) := (hb3.cell (by simp)).trans (by simp)
    have y3_9 : W3.cell? ⟨W1.heap.size, 9, none⟩ = some (.nilFunc) := (hb3.cell (by simp)).trans (by simp)
    clear hb3 HB2
    go_wp2_with (go_at_call 85; refine Stop.mk ?_)
    refine Stop.out ((c16 _ (hG.on HB3.out)).mono ?_)
    rintro e W4 ⟨rfl, hb4⟩
    have HB4 : Hid (Below w.heap.size w W4) := HB3.out.trans (hb4.mono HB3.out.size)
    have y4_0 := (hb4.cell (clt y3_0)).trans y3_0
    have y4_1 := (hb4.cell (clt y3_1)).trans y3_1
    have y4_2 := (hb4.cell (clt y3_2)).trans y3_2
    have y4_3 := (hb4.cell (clt y3_3)).trans y3_3
    have y4_4 := (hb4.cell (clt y3_4)).trans y3_4
    have y4_5 := (hb4.cell (clt y3_5)).trans y3_5
    have y4_6 := (hb4.cell (clt y3_6)).trans y3_6
    have y4_7 := (hb4.cell (clt y3_7)).trans y3_7
    have y4_8 := (hb4.cell (clt y3_8)).trans y3_8
    have y4_9 := (hb4.cell (clt y3_9)).trans y3_9
    clear hb4
    go_wp2
    go_ret
    exact ⟨_, rfl, rfl, HB4.out⟩
set_option maxRecDepth 100000 in
set_option maxHeartbeats 8000000 in
theorem check_ff (w : World) (v : Int) (n : ByteArray) (p : Int) (u m : Nat) (t c q l : Bool) (jc jf : Nat) (s : ByteArray) (ok : Bool) (wl wc : Int) (fo : Bool)
    (c13 : ∀ W, Calls Tryz.prog 82 #[.int .i64 v] W fun e w' => e = .returned (.tuple #[.agg (rpC n p u m t c q l (.func (.func jc) #[] #[]) (.func (.func jf) #[] #[])), .bool ok]) ∧ Below W.heap.size W w')
    (c15 : ∀ W, Calls Tryz.prog 84 #[.agg (rpC n p u m t c q l (.func (.func jc) #[] #[]) (.func (.func jf) #[] #[])), .string s] W fun e w' => e = .returned (.int .i64 wl) ∧ Below W.heap.size W w')
    (c16 : ∀ W, Gb W → Calls Tryz.prog 85 #[.agg (rpC n p u m t c q l (.func (.func jc) #[] #[]) (.func (.func jf) #[] #[])), .string s] W fun e w' => e = .returned (.int .i64 wc) ∧ Below W.heap.size W w')
    (hF : wl < 0 → wc < 0 → FmF (.func (.func jf) #[] #[]) s fo) (hG : Gb w) :
    Calls Tryz.prog 50 #[.int .i64 v, .string s] w (CkP w (ckO ok s.size wl wc fo)) := by
  unfold ckO
  have C13 := c13 w
  unfold rpC at c15 c16 C13
  clear c13
  cases ok with
  | false =>
    rw [if_pos rfl]
    go_enter Tryz.func50, Tryz.ntmps50
    go_wp2_with (go_at_call 82; refine Stop.mk ?_)
    refine Stop.out ((C13).mono ?_)
    rintro e W1 ⟨rfl, hb1⟩
    have HB1 : Hid (Below w.heap.size w W1) := hb1
    clear hb1
    go_wp2_with (go_at_call 83; refine Stop.mk ?_)
    refine Stop.out ((refusal_new _ 0 62).mono ?_)
    rintro e W9 ⟨q9, rfl, hq9, hb9⟩
    have hb2 : Below W1.heap.size W1 (W1.alloc (.cells #[.string n, .int .u8 p, .int .i64 (u : Int), .int .i64 (m : Int), .bool t, .bool c, .bool q, .bool l, (.func (.func jc) #[] #[]), (.func (.func jf) #[] #[])] 179)) := (Below.refl _ _).alloc (Nat.le_refl _) _
    have HB2 : Hid (Below w.heap.size w (W1.alloc (.cells #[.string n, .int .u8 p, .int .i64 (u : Int), .int .i64 (m : Int), .bool t, .bool c, .bool q, .bool l, (.func (.func jc) #[] #[]), (.func (.func jf) #[] #[])] 179))) := HB1.out.trans (hb2.mono HB1.out.size)
    clear hb2
    have HB9 : Hid (Below w.heap.size w W9) := HB2.out.trans (hb9.mono HB2.out.size)
    have HQ : Hid _ := hq9
    clear hb9 hq9
    go_wp2
    go_ret
    exact ⟨_, rfl, HQ.out, HB9.out⟩
  | true =>
    rw [if_neg (by decide)]
    by_cases h0 : s.size = 0
    · have e0 := text_none h0
      rw [if_pos h0]
      clear h0
      go_enter Tryz.func50, Tryz.ntmps50
      go_wp2_with (go_at_call 82; refine Stop.mk ?_)
      refine Stop.out ((C13).mono ?_)
      rintro e W1 ⟨rfl, hb1⟩
      have HB1 : Hid (Below w.heap.size w W1) := hb1
      clear hb1
      go_wp2
      have hb2 : Below W1.heap.size W1 (W1.alloc (.cells #[.string n, .int .u8 p, .int .i64 (u : Int), .int .i64 (m : Int), .bool t, .bool c, .bool q, .bool l, (.func (.func jc) #[] #[]), (.func (.func jf) #[] #[])] 179)) := (Below.refl _ _).alloc (Nat.le_refl _) _
      have HB2 : Hid (Below w.heap.size w (W1.alloc (.cells #[.string n, .int .u8 p, .int .i64 (u : Int), .int .i64 (m : Int), .bool t, .bool c, .bool q, .bool l, (.func (.func jc) #[] #[]), (.func (.func jf) #[] #[])] 179))) := HB1.out.trans (hb2.mono HB1.out.size)
      clear hb2
      go_ret
      exact ⟨_, rfl, rfl, HB2.out⟩
    have e0 := text_some h0
    rw [if_neg h0]
    by_cases h1 : 0 ≤ wl
    · have i1 : wl ≥ 0 := h1
      rw [if_pos h1]
      go_enter Tryz.func50, Tryz.ntmps50
      go_wp2_with (go_at_call 82; refine Stop.mk ?_)
      refine Stop.out ((C13).mono ?_)
      rintro e W1 ⟨rfl, hb1⟩
      have HB1 : Hid (Below w.heap.size w W1) := hb1
      clear hb1
      go_wp2_with (go_at_call 84; refine Stop.mk ?_)
      refine Stop.out ((c15 _).mono ?_)
      rintro e W3 ⟨rfl, hb3⟩
      have hb2 : Below W1.heap.size W1 (W1.alloc (.cells #[.string n, .int .u8 p, .int .i64 (u : Int), .int .i64 (m : Int), .bool t, .bool c, .bool q, .bool l, (.func (.func jc) #[] #[]), (.func (.func jf) #[] #[])] 179)) := (Below.refl _ _).alloc (Nat.le_refl _) _
      have HB2 : Hid (Below w.heap.size w (W1.alloc (.cells #[.string n, .int .u8 p, .int .i64 (u : Int), .int .i64 (m : Int), .bool t, .bool c, .bool q, .bool l, (.func (.func jc) #[] #[]), (.func (.func jf) #[] #[])] 179))) := HB1.out.trans (hb2.mono HB1.out.size)
      clear hb2
      have HB3 : Hid (Below w.heap.size w W3) := HB2.out.trans (hb3.mono HB2.out.size)
      have y3_0 : W3.cell? ⟨W1.heap.size, 0, none⟩ = some (.string n) := (hb3.cell (by simp)).trans (by simp)
      have y3_1 : W3.cell? ⟨W1.heap.size, 1, none⟩ = some (.int .u8 p) := (hb3.cell (by simp)).trans (by simp)
      have y3_2 : W3.cell? ⟨W1.heap.size, 2, none⟩ = some (.int .i64 (u : Int)) := (hb3.cell (by simp)).trans (by simp)
      have y3_3 : W3.cell? ⟨W1.heap.size, 3, none⟩ = some (.int .i64 (m : Int)) := (hb3.cell (by simp)).trans (by simp)
      have y3_4 : W3.cell? ⟨W1.heap.size, 4, none⟩ = some (.bool t) := (hb3.cell (by simp)).trans (by simp)
      have y3_5 : W3.cell? ⟨W1.heap.size, 5, none⟩ = some (.bool c) := (hb3.cell (by simp)).trans (by simp)
      have y3_6 : W3.cell? ⟨W1.heap.size, 6, none⟩ = some (.bool q) := (hb3.cell (by simp)).trans (by simp)
      have y3_7 : W3.cell? ⟨W1.heap.size, 7, none⟩ = some (.bool l) := (hb3.cell (by simp)).trans (by simp)
      have y3_8 : W3.cell? ⟨W1.heap.size, 8, none⟩ = some ((.func (.func jc) #[] #[])) := (hb3.cell (by simp)).trans (by simp)
      have y3_9 : W3.cell? ⟨W1.heap.size, 9, none⟩ = some ((.func (.func jf) #[] #[])) := (hb3.cell (by simp)).trans (by simp)
      clear hb3 HB2
      go_wp2_with (go_at_call 83; refine Stop.mk ?_)
      refine Stop.out ((refusal_new _ wl 63).mono ?_)
      rintro e W9 ⟨q9, rfl, hq9, hb9⟩
      have HB9 : Hid (Below w.heap.size w W9) := HB3.out.trans (hb9.mono HB3.out.size)
      have HQ : Hid _ := hq9
      clear hb9 hq9
      go_wp2
      go_ret
      exact ⟨_, rfl, HQ.out, HB9.out⟩
    have i1 : ¬ (wl ≥ 0) := by omega
    rw [if_neg h1]
    by_cases h2 : 0 ≤ wc
    · have i2 : wc ≥ 0 := h2
      rw [if_pos h2]
      go_enter Tryz.func50, Tryz.ntmps50
      go_wp2_with (go_at_call 82; refine Stop.mk ?_)
      refine Stop.out ((C13).mono ?_)
      rintro e W1 ⟨rfl, hb1⟩
      have HB1 : Hid (Below w.heap.size w W1) := hb1
      clear hb1
      go_wp2_with (go_at_call 84; refine Stop.mk ?_)
      refine Stop.out ((c15 _).mono ?_)
      rintro e W3 ⟨rfl, hb3⟩
      have hb2 : Below W1.heap.size W1 (W1.alloc (.cells #[.string n, .int .u8 p, .int .i64 (u : Int), .int .i64 (m : Int), .bool t, .bool c, .bool q, .bool l, (.func (.func jc) #[] #[]), (.func (.func jf) #[] #[])] 179)) := (Below.refl _ _).alloc (Nat.le_refl _) _
      have HB2 : Hid (Below w.heap.size w (W1.alloc (.cells #[.string n, .int .u8 p, .int .i64 (u : Int), .int .i64 (m : Int), .bool t, .bool c, .bool q, .bool l, (.func (.func jc) #[] #[]), (.func (.func jf) #[] #[])] 179))) := HB1.out.trans (hb2.mono HB1.out.size)
      clear hb2
      have HB3 : Hid (Below w.heap.size w W3) := HB2.out.trans (hb3.mono HB2.out.size)
      have y3_0 : W3.cell? ⟨W1.heap.size, 0, none⟩ = some (.string n) := (hb3.cell (by simp)).trans (by simp)
      have y3_1 : W3.cell? ⟨W1.heap.size, 1, none⟩ = some (.int .u8 p) := (hb3.cell (by simp)).trans (by simp)
      have y3_2 : W3.cell? ⟨W1.heap.size, 2, none⟩ = some (.int .i64 (u : Int)) := (hb3.cell (by simp)).trans (by simp)
      have y3_3 : W3.cell? ⟨W1.heap.size, 3, none⟩ = some (.int .i64 (m : Int)) := (hb3.cell (by simp)).trans (by simp)
      have y3_4 : W3.cell? ⟨W1.heap.size, 4, none⟩ = some (.bool t) := (hb3.cell (by simp)).trans (by simp)
      have y3_5 : W3.cell? ⟨W1.heap.size, 5, none⟩ = some (.bool c) := (hb3.cell (by simp)).trans (by simp)
      have y3_6 : W3.cell? ⟨W1.heap.size, 6, none⟩ = some (.bool q) := (hb3.cell (by simp)).trans (by simp)
      have y3_7 : W3.cell? ⟨W1.heap.size, 7, none⟩ = some (.bool l) := (hb3.cell (by simp)).trans (by simp)
      have y3_8 : W3.cell? ⟨W1.heap.size, 8, none⟩ = some ((.func (.func jc) #[] #[])) := (hb3.cell (by simp)).trans (by simp)
      have y3_9 : W3.cell? ⟨W1.heap.size, 9, none⟩ = some ((.func (.func jf) #[] #[])) := (hb3.cell (by simp)).trans (by simp)
      clear hb3 HB2
      go_wp2_with (go_at_call 85; refine Stop.mk ?_)
      refine Stop.out ((c16 _ (hG.on HB3.out)).mono ?_)
      rintro e W4 ⟨rfl, hb4⟩
      have HB4 : Hid (Below w.heap.size w W4) := HB3.out.trans (hb4.mono HB3.out.size)
      have y4_0 := (hb4.cell (clt y3_0)).trans y3_0
      have y4_1 := (hb4.cell (clt y3_1)).trans y3_1
      have y4_2 := (hb4.cell (clt y3_2)).trans y3_2
      have y4_3 := (hb4.cell (clt y3_3)).trans y3_3
      have y4_4 := (hb4.cell (clt y3_4)).trans y3_4
      have y4_5 := (hb4.cell (clt y3_5)).trans y3_5
      have y4_6 := (hb4.cell (clt y3_6)).trans y3_6
      have y4_7 := (hb4.cell (clt y3_7)).trans y3_7
      have y4_8 := (hb4.cell (clt y3_8)).trans y3_8
      have y4_9 := (hb4.cell (clt y3_9)).trans y3_9
      clear hb4
      go_wp2_with (go_at_call 83; refine Stop.mk ?_)
      refine Stop.out ((refusal_new _ wc 64).mono ?_)
      rintro e W9 ⟨q9, rfl, hq9, hb9⟩
      have HB9 : Hid (Below w.heap.size w W9) := HB4.out.trans (hb9.mono HB4.out.size)
      have HQ : Hid _ := hq9
      clear hb9 hq9
      go_wp2
      go_ret
      exact ⟨_, rfl, HQ.out, HB9.out⟩
    have i2 : ¬ (wc ≥ 0) := by omega
    rw [if_neg h2]
    have hFF := hF (by omega) (by omega)
    have n42 := ne42 jf
    obtain ⟨hE, hC⟩ : (∀ args w, (callFunc jf args).run Tryz.prog w = .ok (.enter jf args) w) ∧ ∀ W, Gb W → Calls Tryz.prog jf #[.string s] W fun e w' => e = .returned (.bool fo) ∧ Below W.heap.size W w' := by
      rcases hFF with ⟨h, _⟩ | ⟨j, h, h1, h2⟩
      · cases h
      · cases h; exact ⟨h1, h2⟩
    have HC : Hid (∀ W, Gb W → Calls Tryz.prog jf #[.string s] W fun e w' => e = .returned (.bool fo) ∧ Below W.heap.size W w') := hC
    clear hC
    cases fo with
    | true =>
      rw [if_pos rfl]
      go_enter Tryz.func50, Tryz.ntmps50
      go_wp2_with (go_at_call 82; refine Stop.mk ?_)
      refine Stop.out ((C13).mono ?_)
      rintro e W1 ⟨rfl, hb1⟩
      have HB1 : Hid (Below w.heap.size w W1) := hb1
      clear hb1
      go_wp2_with (go_at_call 84; refine Stop.mk ?_)
      refine Stop.out ((c15 _).mono ?_)
      rintro e W3 ⟨rfl, hb3⟩
      have hb2 : Below W1.heap.size W1 (W1.alloc (.cells #[.string n, .int .u8 p, .int .i64 (u : Int), .int .i64 (m : Int), .bool t, .bool c, .bool q, .bool l, (.func (.func jc) #[] #[]), (.func (.func jf) #[] #[])] 179)) := (Below.refl _ _).alloc (Nat.le_refl _) _
      have HB2 : Hid (Below w.heap.size w (W1.alloc (.cells #[.string n, .int .u8 p, .int .i64 (u : Int), .int .i64 (m : Int), .bool t, .bool c, .bool q, .bool l, (.func (.func jc) #[] #[]), (.func (.func jf) #[] #[])] 179))) := HB1.out.trans (hb2.mono HB1.out.size)
      clear hb2
      have HB3 : Hid (Below w.heap.size w W3) := HB2.out.trans (hb3.mono HB2.out.size)
      have y3_0 : W3.cell? ⟨W1.heap.size, 0, none⟩ = some (.string n) := (hb3.cell (by simp)).trans (by simp)
      have y3_1 : W3.cell? ⟨W1.heap.size, 1, none⟩ = some (.int .u8 p) := (hb3.cell (by simp)).trans (by simp)
      have y3_2 : W3.cell? ⟨W1.heap.size, 2, none⟩ = some (.int .i64 (u : Int)) := (hb3.cell (by simp)).trans (by simp)
      have y3_3 : W3.cell? ⟨W1.heap.size, 3, none⟩ = some (.int .i64 (m : Int)) := (hb3.cell (by simp)).trans (by simp)
      have y3_4 : W3.cell? ⟨W1.heap.size, 4, none⟩ = some (.bool t) := (hb3.cell (by simp)).trans (by simp)
      have y3_5 : W3.cell? ⟨W1.heap.size, 5, none⟩ = some (.bool c) := (hb3.cell (by simp)).trans (by simp)
      have y3_6 : W3.cell? ⟨W1.heap.size, 6, none⟩ = some (.bool q) := (hb3.cell (by simp)).trans (by simp)
      have y3_7 : W3.cell? ⟨W1.heap.size, 7, none⟩ = some (.bool l) := (hb3.cell (by simp)).trans (by simp)
      have y3_8 : W3.cell? ⟨W1.heap.size, 8, none⟩ = some ((.func (.func jc) #[] #[])) := (hb3.cell (by simp)).trans (by simp)
      have y3_9 : W3.cell? ⟨W1.heap.size, 9, none⟩ = some ((.func (.func jf) #[] #[])) := (hb3.cell (by simp)).trans (by simp)
      clear hb3 HB2
      go_wp2_with (go_at_call 85; refine Stop.mk ?_)
      refine Stop.out ((c16 _ (hG.on HB3.out)).mono ?_)
      rintro e W4 ⟨rfl, hb4⟩
      have HB4 : Hid (Below w.heap.size w W4) := HB3.out.trans (hb4.mono HB3.out.size)
      have y4_0 := (hb4.cell (clt y3_0)).trans y3_0
      have y4_1 := (hb4.cell (clt y3_1)).trans y3_1
      have y4_2 := (hb4.cell (clt y3_2)).trans y3_2
      have y4_3 := (hb4.cell (clt y3_3)).trans y3_3
      have y4_4 := (hb4.cell (clt y3_4)).trans y3_4
      have y4_5 := (hb4.cell (clt y3_5)).trans y3_5
      have y4_6 := (hb4.cell (clt y3_6)).trans y3_6
      have y4_7 := (hb4.cell (clt y3_7)).trans y3_7
      have y4_8 := (hb4.cell (clt y3_8)).trans y3_8
      have y4_9 := (hb4.cell (clt y3_9)).trans y3_9
      clear hb4
      go_wp2_with (go_at_fn jf; refine Stop.mk ?_)
      refine Stop.out ((HC.out _ (hG.on HB4.out)).mono ?_)
      rintro e W5 ⟨rfl, hb5⟩
      have HB5 : Hid (Below w.heap.size w W5) := HB4.out.trans (hb5.mono HB4.out.size)
      clear hb5
      go_wp2
      go_ret
      exact ⟨_, rfl, rfl, HB5.out⟩
    | false =>
      rw [if_neg (by decide)]
      go_enter Tryz.func50, Tryz.ntmps50
      go_wp2_with (go_at_call 82; refine Stop.mk ?_)
      refine Stop.out ((C13).mono ?_)
      rintro e W1 ⟨rfl, hb1⟩
      have HB1 : Hid (Below w.heap.size w W1) := hb1
      clear hb1
      go_wp2_with (go_at_call 84; refine Stop.mk ?_)
      refine Stop.out ((c15 _).mono ?_)
      rintro e W3 ⟨rfl, hb3⟩
      have hb2 : Below W1.heap.size W1 (W1.alloc (.cells #[.string n, .int .u8 p, .int .i64 (u : Int), .int .i64 (m : Int), .bool t, .bool c, .bool q, .bool l, (.func (.func jc) #[] #[]), (.func (.func jf) #[] #[])] 179)) := (Below.refl _ _).alloc (Nat.le_refl _) _
      have HB2 : Hid (Below w.heap.size w (W1.alloc (.cells #[.string n, .int .u8 p, .int .i64 (u : Int), .int .i64 (m : Int), .bool t, .bool c, .bool q, .bool l, (.func (.func jc) #[] #[]), (.func (.func jf) #[] #[])] 179))) := HB1.out.trans (hb2.mono HB1.out.size)
      clear hb2
      have HB3 : Hid (Below w.heap.size w W3) := HB2.out.trans (hb3.mono HB2.out.size)
      have y3_0 : W3.cell? ⟨W1.heap.size, 0, none⟩ = some (.string n) := (hb3.cell (by simp)).trans (by simp)
      have y3_1 : W3.cell? ⟨W1.heap.size, 1, none⟩ = some (.int .u8 p) := (hb3.cell (by simp)).trans (by simp)
      have y3_2 : W3.cell? ⟨W1.heap.size, 2, none⟩ = some (.int .i64 (u : Int)) := (hb3.cell (by simp)).trans (by simp)
      have y3_3 : W3.cell? ⟨W1.heap.size, 3, none⟩ = some (.int .i64 (m : Int)) := (hb3.cell (by simp)).trans (by simp)
      have y3_4 : W3.cell? ⟨W1.heap.size, 4, none⟩ = some (.bool t) := (hb3.cell (by simp)).trans (by simp)
      have y3_5 : W3.cell? ⟨W1.heap.size, 5, none⟩ = some (.bool c) := (hb3.cell (by simp)).trans (by simp)
      have y3_6 : W3.cell? ⟨W1.heap.size, 6, none⟩ = some (.bool q) := (hb3.cell (by simp)).trans (by simp)
      have y3_7 : W3.cell? ⟨W1.heap.size, 7, none⟩ = some (.bool l) := (hb3.cell (by simp)).trans (by simp)
      have y3_8 : W3.cell? ⟨W1.heap.size, 8, none⟩ = some ((.func (.func jc) #[] #[])) := (hb3.cell (by simp)).trans (by simp)
      have y3_9 : W3.cell? ⟨W1.heap.size, 9, none⟩ = some ((.func (.func jf) #[] #[])) := (hb3.cell (by simp)).trans (by simp)
      clear hb3 HB2
      go_wp2_with (go_at_call 85; refine Stop.mk ?_)
      refine Stop.out ((c16 _ (hG.on HB3.out)).mono ?_)
      rintro e W4 ⟨rfl, hb4⟩
      have HB4 : Hid (Below w.heap.size w W4) := HB3.out.trans (hb4.mono HB3.out.size)
      have y4_0 := (hb4.cell (clt y3_0)).trans y3_0
      have y4_1 := (hb4.cell (clt y3_1)).trans y3_1
      have y4_2 := (hb4.cell (clt y3_2)).trans y3_2
      have y4_3 := (hb4.cell (clt y3_3)).trans y3_3
      have y4_4 := (hb4.cell (clt y3_4)).trans y3_4
      have y4_5 := (hb4.cell (clt y3_5)).trans y3_5
      have y4_6 := (hb4.cell (clt y3_6)).trans y3_6
      have y4_7 := (hb4.cell (clt y3_7)).trans y3_7
      have y4_8 := (hb4.cell (clt y3_8)).trans y3_8
      have y4_9 := (hb4.cell (clt y3_9)).trans y3_9
      clear hb4
      go_wp2_with (go_at_fn jf; refine Stop.mk ?_)
      refine Stop.out ((HC.out _ (hG.on HB4.out)).mono ?_)
      rintro e W5 ⟨rfl, hb5⟩
      have HB5 : Hid (Below w.heap.size w W5) := HB4.out.trans (hb5.mono HB4.out.size)
      clear hb5
      go_wp2_with (go_at_call 83; refine Stop.mk ?_)
      refine Stop.out ((refusal_new _ 0 65).mono ?_)
      rintro e W9 ⟨q9, rfl, hq9, hb9⟩
      have HB9 : Hid (Below w.heap.size w W9) := HB5.out.trans (hb9.mono HB5.out.size)
      have HQ : Hid _ := hq9
      clear hb9 hq9
      go_wp2
      go_ret
      exact ⟨_, rfl, HQ.out, HB9.out⟩
set_option maxRecDepth 100000 in
set_option maxHeartbeats 8000000 in
theorem check_no (w : World) (v : Int) (n : ByteArray) (p : Int) (u m : Nat) (t c q l : Bool) (s : ByteArray)
    (c13 : ∀ W, Calls Tryz.prog 82 #[.int .i64 v] W fun e w' => e = .returned (.tuple #[.agg (rpC n p u m t c q l .nilFunc .nilFunc), .bool false]) ∧ Below W.heap.size W w') :
    Calls Tryz.prog 50 #[.int .i64 v, .string s] w (CkP w (some ([(dB, 0)], 62))) := by
  have C13 := c13 w
  unfold rpC at C13
  clear c13
  go_enter Tryz.func50, Tryz.ntmps50
  go_wp2_with (go_at_call 82; refine Stop.mk ?_)
  refine Stop.out ((C13).mono ?_)
  rintro e W1 ⟨rfl, hb1⟩
  have HB1 : Hid (Below w.heap.size w W1) := hb1
  clear hb1
  go_wp2_with (go_at_call 83; refine Stop.mk ?_)
  refine Stop.out ((refusal_new _ 0 62).mono ?_)
  rintro e W9 ⟨q9, rfl, hq9, hb9⟩
  have hb2 : Below W1.heap.size W1 (W1.alloc (.cells #[.string n, .int .u8 p, .int .i64 (u : Int), .int .i64 (m : Int), .bool t, .bool c, .bool q, .bool l, .nilFunc, .nilFunc] 179)) := (Below.refl _ _).alloc (Nat.le_refl _) _
  have HB2 : Hid (Below w.heap.size w (W1.alloc (.cells #[.string n, .int .u8 p, .int .i64 (u : Int), .int .i64 (m : Int), .bool t, .bool c, .bool q, .bool l, .nilFunc, .nilFunc] 179))) := HB1.out.trans (hb2.mono HB1.out.size)
  clear hb2
  have HB9 : Hid (Below w.heap.size w W9) := HB2.out.trans (hb9.mono HB2.out.size)
  have HQ : Hid _ := hq9
  clear hb9 hq9
  go_wp2
  go_ret
  exact ⟨_, rfl, HQ.out, HB9.out⟩
end Go.Proofs.YtdggplhkeekdjaaGreatDoor.Ck
