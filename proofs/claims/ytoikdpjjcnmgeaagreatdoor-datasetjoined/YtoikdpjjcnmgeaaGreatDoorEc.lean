import Derived.Test.YtoikdpjjcnmgeaaGreatDoorCh
import Derived.Test.YtoikdpjjcnmgeaaGreatDoorRM
import Derived.Test.YtoikdpjjcnmgeaaGreatDoorBh
import Derived.Test.YtoikdpjjcnmgeaaGreatDoorIb
import Derived.Lib.QuietBelow
section
/-
  DERIVED. Faults in chains, held against each other.
-/
namespace Go.Proofs.YtoikdpjjcnmgeaaGreatDoor
open Go Go.Proofs Go.RowKit

structure StopI (p : Prop) : Prop where
  out : p
/-- Links lie there. -/
def LkAt (w : World) (g : Nat) (ls : List Lk) : Prop := ∀ i (h : i < ls.length), w.cell? ⟨g, i * 2, none⟩ = some (.string (ls[i]'h).1) ∧ w.cell? ⟨g, i * 2 + 1, none⟩ = some (.int .i64 (ls[i]'h).2)
theorem LkAt.on {w w' : World} {g : Nat} {ls : List Lk} (h : LkAt w g ls) (hb : Below w.heap.size w w') : LkAt w' g ls := fun i hi => ⟨(hb.cell (Rp.cell_lt (h i hi).1)).trans (h i hi).1, (hb.cell (Rp.cell_lt (h i hi).2)).trans (h i hi).2⟩
theorem lk_own {w : World} {base g n cap : Nat} {ls : List Lk} (h : w.ownsRow base 102 2 (.slice (some ⟨g, 0, none⟩) n cap) n (lkc ls)) (hn : n = ls.length) : LkAt w g ls := fun i hi => by
  have h1 := World.ownsRow.cellAt h
  exact ⟨(h1 (i * 2) (by omega)).trans (lkc_get ls i hi).1, (h1 (i * 2 + 1) (by omega)).trans (lkc_get ls i hi).2⟩

set_option maxRecDepth 100000 in
set_option maxHeartbeats 2000000 in
theorem same_chain (w : World) (ls : List Lk) (g h cg ch k : Nat) (c : Int) (hk : k = ls.length) (hs : k ≤ 100) (hg : LkAt w g ls) (hh : LkAt w h ls) :
    Calls Tryz.prog 40 #[.agg #[.slice (some ⟨g, 0, none⟩) k cg, .int .i64 c], .agg #[.slice (some ⟨h, 0, none⟩) k ch, .int .i64 c]] w fun e w' => e = .returned (.bool true) ∧ Hid (Below w.heap.size w w') := by
  have HG : Hid (LkAt w g ls) := hg
  have HH : Hid (LkAt w h ls) := hh
  have HK : Hid (k = ls.length) := hk
  clear hg hh hk
  obtain ⟨W1, hW1⟩ : ∃ W1, (w.alloc (.cells #[.slice (some ⟨g, 0, none⟩) k cg, .int .i64 c] 32)).alloc (.cells #[.slice (some ⟨h, 0, none⟩) k ch, .int .i64 c] 32) = W1 := ⟨_, rfl⟩
  have HB1 : Hid (Below w.heap.size w W1) := by rw [← hW1]; exact ((Below.refl _ _).alloc (Nat.le_refl _) _).alloc (by simp) _
  have a0 : W1.cell? ⟨w.heap.size, 0, none⟩ = some (.slice (some ⟨g, 0, none⟩) k cg) := by rw [← hW1]; simp
  have a1 : W1.cell? ⟨w.heap.size, 1, none⟩ = some (.int .i64 c) := by rw [← hW1]; simp
  have b0 : W1.cell? ⟨w.heap.size + 1, 0, none⟩ = some (.slice (some ⟨h, 0, none⟩) k ch) := by rw [← hW1]; simp
  have b1 : W1.cell? ⟨w.heap.size + 1, 1, none⟩ = some (.int .i64 c) := by rw [← hW1]; simp
  go_enter Tryz.func40, Tryz.ntmps40
  go_wp2
  clear hW1
  go_loopw [5] (fun x5 wr => ∃ i : Nat, x5 = .int .i64 (i : Int) ∧ i ≤ k ∧ ∃ m, wr = W1.drewN m) (fun x5 _ => 200 - (intOf x5).toNat)
  case atStart => exact ⟨0, rfl, by omega, 0, rfl⟩
  case round =>
    obtain ⟨i, rfl, hi, m, rfl⟩ := hrel
    by_cases hlt : i < k
    · have hltI : (i : Int) < (k : Int) := by omega
      have hil : i < ls.length := by rw [← HK.out]; exact hlt
      obtain ⟨x0, x1⟩ := HG.out.on HB1.out i hil
      obtain ⟨y0, y1⟩ := HH.out.on HB1.out i hil
      generalize ls[i]'hil = q at x0 x1 y0 y1
      go_wp2
      go_quiet (fail)
      go_wp2
      go_roundw
      case rel => exact ⟨i + 1, by go_num, by omega, _, rfl⟩
      case measure => simp [intOf]; omega
    · have hltI : ¬ (i : Int) < (k : Int) := by omega
      go_wp2
      go_ret
      exact ⟨rfl, Wk.below_drw HB1.out _⟩

set_option maxRecDepth 100000 in
set_option maxHeartbeats 2000000 in
theorem is_chain (w : World) (ls : List Lk) (c : Int) (v : Value) (g cg k : Nat) (h : Chain w ls c v) (hc : c ≠ 0) (hk : k = ls.length) (h1 : 0 < k) (h11 : k ≤ 11) (hg : LkAt w g ls) :
    Calls Tryz.prog 12 #[v, .agg #[.slice (some ⟨g, 0, none⟩) k cg, .int .i64 c]] w fun e w' => e = .returned (.bool true) ∧ Below w.heap.size w w' := by
  obtain ⟨W1, hW1⟩ : ∃ W1, w.alloc (.cells #[.slice (some ⟨g, 0, none⟩) k cg, .int .i64 c] 32) = W1 := ⟨_, rfl⟩
  have hb1 : Below w.heap.size w W1 := hW1 ▸ (Below.refl _ _).alloc (Nat.le_refl _) _
  have hs1 : w.heap.size < W1.heap.size := by rw [← hW1]; simp
  have a0 : W1.cell? ⟨w.heap.size, 0, none⟩ = some (.slice (some ⟨g, 0, none⟩) k cg) := by rw [← hW1]; simp
  have a1 : W1.cell? ⟨w.heap.size, 1, none⟩ = some (.int .i64 c) := by rw [← hW1]; simp
  have ht := told_any W1 ls c v (h.on hb1) hc (by omega) (by omega)
  rw [← hk] at ht
  have HG1 : Hid (LkAt W1 g ls) := hg.on hb1
  have HB1 : Hid (Below w.heap.size w W1) := hb1
  have HK : Hid (k = ls.length) := hk
  clear h hg hk hb1 hc
  go_enter Tryz.func12, Tryz.ntmps12
  go_wp2_with (go_at_call 39; refine StopI.out ?_)
  refine ⟨Calls.mono ht ?_⟩
  rintro e W2 ⟨g4, cap4, rfl, hb2, ho2⟩
  have e0 := (hb2.out.cell (p := ⟨w.heap.size, 0, none⟩) hs1).trans a0
  have e1 := (hb2.out.cell (p := ⟨w.heap.size, 1, none⟩) hs1).trans a1
  have hs2 : w.heap.size < W2.heap.size := Nat.lt_of_lt_of_le hs1 hb2.out.size
  have HG2 : Hid (LkAt W2 g ls) := HG1.out.on hb2.out
  have HL2 : Hid (LkAt W2 g4 ls) := lk_own ho2.out HK.out
  have HB2 : Hid (Below w.heap.size w W2) := HB1.out.trans (hb2.out.mono HB1.out.size)
  clear ht hb2 ho2 a0 a1 hW1
  have hb3 : Below W2.heap.size W2 (W2.alloc (.cells #[.slice (some ⟨g4, 0, none⟩) k cap4, .int .i64 c] 32)) := (Below.refl _ _).alloc (Nat.le_refl _) _
  have c27 := same_chain (W2.alloc (.cells #[.slice (some ⟨g4, 0, none⟩) k cap4, .int .i64 c] 32)) ls g g4 cg cap4 k c HK.out (by omega) (HG2.out.on hb3) (HL2.out.on hb3)
  go_wp2_with (go_at_call 40; refine StopI.out ?_)
  refine ⟨Calls.mono c27 ?_⟩
  rintro e W3 ⟨rfl, hb4⟩
  go_wp2
  go_ret
  exact ⟨rfl, HB2.out.trans ((hb3.trans (hb4.out.mono hb3.size)).mono HB2.out.size)⟩
end Go.Proofs.YtoikdpjjcnmgeaaGreatDoor
end

section
/-
  DERIVED. The layer's refusal with a number.
-/
namespace Go.Proofs.YtoikdpjjcnmgeaaGreatDoor
open Go Go.Proofs Go.RowKit

def dsB : ByteArray := { data := #[100, 97, 116, 97, 115, 101, 116] }
def dcB : ByteArray := { data := #[100, 105, 99, 116] }
set_option maxRecDepth 100000 in
theorem refuseD_any (w : World) (a c : Int) : Calls Tryz.prog 31 #[.int .i64 a, .iface 69 (.int .i64 c)] w fun e w' => ∃ q, e = .returned (.iface 70 (.pointer (some ⟨q, 0, none⟩))) ∧ Hid (Chain w' [(dsB, a)] c (.iface 70 (.pointer (some ⟨q, 0, none⟩)))) ∧ Hid (Below w.heap.size w w') := by
  go_enter Tryz.func31, Tryz.ntmps31
  go_wp2
  go_ret
  exact ⟨_, rfl, ⟨w.heap.size, _, rfl, by simp [dsB], by simp, by simp, rfl⟩, (Below.refl _ _).alloc (Nat.le_refl _) _⟩
end Go.Proofs.YtoikdpjjcnmgeaaGreatDoor
end

section
/-
  DERIVED. Which node may be an item: the document's look.
-/
namespace Go.Proofs.YtoikdpjjcnmgeaaGreatDoor
open Go Go.Proofs Go.RowKit
open Wk (Nd)

set_option maxRecDepth 100000 in
set_option maxHeartbeats 1000000 in
theorem ritem_any (w : World) (a : Nd) (d : Nat) (hd : d ≤ 1000) : Calls Tryz.prog 124 #[.agg #[.int .u32 a.t, .int .i64 a.v, .int .i64 a.n, .string a.s], .int .i64 (d : Int)] w fun e w' => e = .returned (.bool (itemOk a && decide (d ≤ 4))) ∧ Below w.heap.size w w' := by
  obtain ⟨R, hR⟩ : ∃ R, (itemOk a && decide (d ≤ 4)) = R := ⟨_, rfl⟩
  rw [hR]
  unfold itemOk at hR
  have HR : Hid _ := hR
  clear hR
  obtain ⟨t, v, n, s⟩ := a
  simp only at *
  by_cases h1 : t = 4294893568
  · subst h1
    by_cases h2 : v = 29
    · subst h2
      obtain ⟨z, hz⟩ : ∃ z, (s.toList == []) = z := ⟨_, rfl⟩
      cases z with
      | true =>
        by_cases h3 : 0 ≤ n
        · have HR2 : Hid (R = decide ((d : Int) ≤ 4)) := by
            have := HR.out
            rw [hz] at this
            simp [h3] at this
            show R = _
            rw [← this]
            by_cases hd4 : d ≤ 4
            · rw [show decide (d ≤ 4) = true by simpa using hd4]; symm; simp; omega
            · rw [show decide (d ≤ 4) = false by simpa using hd4]; symm; simp; omega
          go_enter Tryz.func124, Tryz.ntmps124
          go_wp2
          go_ret
          exact ⟨by rw [HR2.out]; rfl, (Below.refl _ _).alloc (Nat.le_refl _) _⟩
        · have HR2 : Hid (R = false) := by
            have := HR.out
            rw [hz] at this
            simp [h3] at this
            exact this
          go_enter Tryz.func124, Tryz.ntmps124
          go_wp2
          go_ret
          exact ⟨by rw [HR2.out]; rfl, (Below.refl _ _).alloc (Nat.le_refl _) _⟩
      | false =>
        have HR2 : Hid (R = false) := by
          have := HR.out
          rw [hz] at this
          simp at this
          exact this
        go_enter Tryz.func124, Tryz.ntmps124
        go_wp2
        go_ret
        exact ⟨by rw [HR2.out]; rfl, (Below.refl _ _).alloc (Nat.le_refl _) _⟩
    · have b2 : (v == 29) = false := beq_eq_false_iff_ne.2 h2
      have HR2 : Hid (R = false) := by
        have := HR.out
        simp [h2] at this
        exact this
      go_enter Tryz.func124, Tryz.ntmps124
      go_wp2
      go_ret
      exact ⟨by rw [HR2.out]; rfl, (Below.refl _ _).alloc (Nat.le_refl _) _⟩
  · have b1 : (t == 4294893568) = false := beq_eq_false_iff_ne.2 h1
    have HR2 : Hid (R = false) := by
      have := HR.out
      simp [h1] at this
      exact this
    go_enter Tryz.func124, Tryz.ntmps124
    go_wp2
    go_ret
    exact ⟨by rw [HR2.out]; rfl, (Below.refl _ _).alloc (Nat.le_refl _) _⟩
end Go.Proofs.YtoikdpjjcnmgeaaGreatDoor
end

section
/-
  DERIVED. Which node may stand where the levels are: the program's look.
-/
namespace Go.Proofs.YtoikdpjjcnmgeaaGreatDoor
open Go Go.Proofs Go.RowKit Go.Sort
open Wk (Nd)

theorem hmix : Tryz.prog.follows .mixedOrders = true := by kernel_rfl
/-- A goal that no look goes into. -/
structure ShutQ (p : Prop) : Prop where
  out : p
theorem sq_skip {P : Program} {ops : Array Oper} {C : World → Prop} {Q : Act → Prop} {a : Act} {o : Oper} {rest : List Oper} (hwant : Region.wanted o (yielded ops a.tmps) = false) (h : ShutQ (wpQuiet P ops C Q rest (a.put o.dst undef))) : ShutQ (wpQuiet P ops C Q (o :: rest) a) := by
  refine ⟨?_⟩
  unfold wpQuiet
  rw [if_neg (by simp [hwant])]
  exact h.out
theorem sq_move {P : Program} {ops : Array Oper} {C : World → Prop} {Q : Act → Prop} {a : Act} {o : Oper} {rest : List Oper} (x : Operand) (ho : o.op = .move x) (hwant : Region.wanted o (yielded ops a.tmps) = true) (h : ShutQ (wpQuiet P ops C Q rest (a.put o.dst (a.eval x)))) : ShutQ (wpQuiet P ops C Q (o :: rest) a) := by
  refine ⟨?_⟩
  unfold wpQuiet
  rw [if_pos hwant]
  refine ⟨a.eval x, fun w hw => ?_, h.out⟩
  unfold Oper.quietAt execOp
  simp only [ho, Sem.run_pure]
  exact ⟨rfl, rfl⟩
theorem sq_pick {P : Program} {ops : Array Oper} {C : World → Prop} {Q : Act → Prop} {a : Act} {o : Oper} {rest : List Oper} (c x y : Operand) (b : Bool) (ho : o.op = .pick c x y) (hc : a.eval c = .bool b) (hwant : Region.wanted o (yielded ops a.tmps) = true) (h : ShutQ (wpQuiet P ops C Q rest (a.put o.dst (if b = true then a.eval x else a.eval y)))) : ShutQ (wpQuiet P ops C Q (o :: rest) a) := by
  refine ⟨?_⟩
  unfold wpQuiet
  rw [if_pos hwant]
  refine ⟨_, fun w hw => ?_, h.out⟩
  unfold Oper.quietAt execOp
  simp only [ho, hc, asBool, Sem.run_bind, Sem.run_pure, Result.andThen_ok]
  exact ⟨rfl, rfl⟩

set_option maxRecDepth 100000 in
set_option maxHeartbeats 2000000 in
theorem isRight_item (w : World) (a : Nd) (g k c : Nat) (hk : k < 100) (he : (k + 1) % 2 = 0) :
    Calls Tryz.prog 50 #[.agg #[.int .u32 a.t, .int .i64 a.v, .int .i64 a.n, .string a.s], .slice (some ⟨g, 0, none⟩) (k + 1) c] w fun e w' => e = .returned (.bool (itemOk a && decide ((k + 1) / 2 ≤ 4))) ∧ Below w.heap.size w w' := by
  have c21 := fun W => wants_any W (some ⟨g, 0, none⟩) (k + 1) c true (by simp [he])
  have c22 := fun W => isItem_any W a
  obtain ⟨R, hR⟩ : ∃ R, (itemOk a && decide ((k + 1) / 2 ≤ 4)) = R := ⟨_, rfl⟩
  rw [hR]
  have HR : Hid _ := hR
  clear hR
  generalize itemOk a = z at c22 HR
  obtain ⟨t, v, n, s⟩ := a
  simp only at *
  obtain ⟨W1, hW1⟩ : ∃ W1, w.alloc (.cells #[.int .u32 t, .int .i64 v, .int .i64 n, .string s] 54) = W1 := ⟨_, rfl⟩
  have HN1 : Hid (NC W1 w.heap.size t v n s) := by rw [← hW1]; exact ⟨by simp, by simp, by simp, by simp⟩
  have HB1 : Hid (Below w.heap.size w W1) := by rw [← hW1]; exact (Below.refl _ _).alloc (Nat.le_refl _) _
  obtain ⟨y0, y1, y2, y3⟩ := HN1.out
  have HQ : Hid (decide ((k + 1) / 2 ≤ 4) = decide (((k : Int) + 1) / 2 ≤ 4)) := by
    show _ = _
    by_cases h : (k + 1) / 2 ≤ 4
    · rw [show decide ((k + 1) / 2 ≤ 4) = true by simpa using h]; symm; simp; omega
    · rw [show decide ((k + 1) / 2 ≤ 4) = false by simpa using h]; symm; simp; omega
  clear he
  cases z with
  | false =>
    have HR2 : Hid (R = false) := HR.out.symm
    go_enter Tryz.func50, Tryz.ntmps50
    go_wp2_with (first | (go_at_call 82; refine (c21 _).mono ?_; rintro e W2 ⟨rfl, rfl⟩) | (go_at_call 83; refine (c22 _).mono ?_; rintro e W2 ⟨rfl, hb2⟩))
    go_ret
    exact ⟨by rw [HR2.out]; rfl, HB1.out.trans (hb2.mono HB1.out.size)⟩
  | true =>
    have HR2 : Hid (R = decide (((k : Int) + 1) / 2 ≤ 4)) := by rw [← HQ.out]; exact HR.out.symm
    go_enter Tryz.func50, Tryz.ntmps50
    go_wp2_with (first | (go_at_call 82; refine (c21 _).mono ?_; rintro e W2 ⟨rfl, rfl⟩) | (go_at_call 83; refine (c22 _).mono ?_; rintro e W2 ⟨rfl, hb2⟩))
    go_ret
    exact ⟨by rw [HR2.out]; rfl, HB1.out.trans (hb2.mono HB1.out.size)⟩

set_option maxRecDepth 100000 in
set_option maxHeartbeats 2000000 in
theorem isRight_elem (w : World) (a : Nd) (h0 : 0 ≤ a.t) (h1 : a.t < 4294967296) (g k c : Nat) (hk : k < 100) (he : (k + 1) % 2 = 1) (last : Int) (hl : w.cell? ⟨g, k * 2 + 1, none⟩ = some (.int .u32 last)) :
    Calls Tryz.prog 50 #[.agg #[.int .u32 a.t, .int .i64 a.v, .int .i64 a.n, .string a.s], .slice (some ⟨g, 0, none⟩) (k + 1) c] w fun e w' => e = .returned (.bool (elemOk a && decide (last < a.t))) ∧ Below w.heap.size w w' := by
  have c21 := fun W => wants_any W (some ⟨g, 0, none⟩) (k + 1) c false (by simp; omega)
  have c23 := fun W => isElement_any W a h0 h1
  obtain ⟨R, hR⟩ : ∃ R, (elemOk a && decide (last < a.t)) = R := ⟨_, rfl⟩
  rw [hR]
  have HR : Hid _ := hR
  clear hR
  generalize elemOk a = z at c23 HR
  obtain ⟨t, v, n, s⟩ := a
  simp only at *
  obtain ⟨W1, hW1⟩ : ∃ W1, w.alloc (.cells #[.int .u32 t, .int .i64 v, .int .i64 n, .string s] 54) = W1 := ⟨_, rfl⟩
  have HN1 : Hid (NC W1 w.heap.size t v n s) := by rw [← hW1]; exact ⟨by simp, by simp, by simp, by simp⟩
  have HB1 : Hid (Below w.heap.size w W1) := by rw [← hW1]; exact (Below.refl _ _).alloc (Nat.le_refl _) _
  obtain ⟨y0, y1, y2, y3⟩ := HN1.out
  have hl1 := (HB1.out.cell (p := ⟨g, k * 2 + 1, none⟩) (Tb.cell_lt hl)).trans hl
  have hs1 : w.heap.size ≤ W1.heap.size := HB1.out.size
  clear he hl
  have k0 := fun d os => cell_regrown y0 d os
  have k1 := fun d os => cell_regrown y1 d os
  have k2 := fun d os => cell_regrown y2 d os
  have k3 := fun d os => cell_regrown y3 d os
  have k4 := fun d os => cell_regrown hl1 d os
  have cM : ∀ d os, Calls Tryz.prog 84 #[.agg #[.int .u32 t, .int .i64 v, .int .i64 n, .string s]] (grow (redrawn W1 d) os) fun x w'' => x = .returned (.bool z) ∧ ∃ p : Regrown, w'' = grow (redrawn W1 p.d) p.os := fun d os => Calls.regrown_of (c23 _)
  clear c23
  have hwr : IntKind.i64.wrap (k : Int) = (k : Int) := by rw [IntKind.wrap_i64]; omega
  have hki : (k : Int) < (k : Int) + 1 := by omega
  cases z with
  | true =>
    have HR2 : Hid (R = decide (last < t)) := HR.out.symm
    go_enter Tryz.func50, Tryz.ntmps50
    go_wp2_with (first | (go_at_call 82; refine (c21 _).mono ?_; rintro e W2 ⟨rfl, rfl⟩) | fail)
    refine wp_region_quiet_below hmix (by kernel_rfl) ?_
    repeat (quiet_step (first | exact cM _ _))
    refine wpQuiet_nil ?_
    intro _ hw'
    obtain ⟨⟨dq, osq⟩, hw''⟩ := hw'
    subst hw''
    have hBW := below_regrown W1 dq osq
    have HB : Hid (Below w.heap.size w (grow (redrawn W1 dq) osq)) := HB1.out.trans (hBW.mono hs1)
    clear cM hBW k0 k1 k2 k3 k4
    go_wp2
    go_ret
    exact ⟨by rw [HR2.out]; rfl, HB.out⟩
  | false =>
    have HR2 : Hid (R = false) := HR.out.symm
    go_enter Tryz.func50, Tryz.ntmps50
    go_wp2_with (first | (go_at_call 82; refine (c21 _).mono ?_; rintro e W2 ⟨rfl, rfl⟩) | fail)
    refine wp_region_quiet_below hmix (by kernel_rfl) ?_
    iterate 2 (quiet_step (first | exact cM _ _))
    refine ShutQ.out ?_
    refine sq_move (.tmp 16) rfl (by kernel_rfl) ?_
    iterate 10 (refine sq_skip (by kernel_rfl) ?_)
    refine sq_pick (.tmp 17) (.tmp 27) (.const (.bool false)) false rfl (by kernel_rfl) (by kernel_rfl) ?_
    refine ⟨?_⟩
    quiet_step (fail)
    refine wpQuiet_nil ?_
    intro _ hw'
    obtain ⟨⟨dq, osq⟩, hw''⟩ := hw'
    subst hw''
    have hBW := below_regrown W1 dq osq
    have HB : Hid (Below w.heap.size w (grow (redrawn W1 dq) osq)) := HB1.out.trans (hBW.mono hs1)
    clear cM hBW k0 k1 k2 k3 k4
    try go_simp
    go_wp2
    go_ret
    exact ⟨by rw [HR2.out]; rfl, HB.out⟩
end Go.Proofs.YtoikdpjjcnmgeaaGreatDoor
end
