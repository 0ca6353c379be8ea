import Derived.Test.YtehgeninocbpeaaDoorQA
import Derived.Deep.RegionLawGrows
import Derived.WideMake
import Derived.Deep.OwnRows
import Derived.Lib.OthersKept
/-
  DERIVED. Errors and the document's faults, held against each other.
-/
namespace Go.Proofs.YtehgeninocbpeaaDoor.Tm
open Go Go.Proofs Go.RowKit

theorem cell_lt {w : World} {a : Addr} {v : Value} (h : w.cell? a = some v) : a.block < w.heap.size := by
  by_cases hl : a.block < w.heap.size
  · exact hl
  · have : w.heap[a.block]? = none := by simp; omega
    simp [World.cell?, this] at h
theorem cell_set_ne {W : World} {b i j : Nat} {v : Value} (h : i ≠ j) : (W.setCell ⟨b, i, none⟩ v).cell? ⟨b, j, none⟩ = W.cell? ⟨b, j, none⟩ := by
  apply World.cell?_setCell_other; simp
theorem cell_set_eq {W : World} {b i : Nat} {v u : Value} (h : W.cell? ⟨b, i, none⟩ = some u) : (W.setCell ⟨b, i, none⟩ v).cell? ⟨b, i, none⟩ = some v := by
  apply World.cell?_setCell_same; exact h
theorem cell_set_off {W : World} {b i c j : Nat} {v : Value} (h : b ≠ c) : (W.setCell ⟨b, i, none⟩ v).cell? ⟨c, j, none⟩ = W.cell? ⟨c, j, none⟩ := by
  apply World.cell?_setCell_other; intro e; exact h (by simpa using congrArg Addr.block e)

theorem owns_succ {W : World} {base : Nat} {e : TypeId} {size : Nat} {v : Value} {k : Nat} {xs : List Value} (h : W.ownsRow base e size v (k + 1) xs) : ∃ g cap, v = .slice (some ⟨g, 0, none⟩) (k + 1) cap := by
  rcases h.2 with ⟨_, h0⟩ | ⟨g, cap, cur, rfl, _⟩
  · omega
  · exact ⟨g, cap, rfl⟩


theorem cell_two_at {w : World} {x0 x1 : Value} {t : TypeId} {B : Nat} (h : B = w.heap.size) : ∀ j u, [x0, x1][j]? = some u → (w.alloc (.cells #[x0, x1] t)).cell? ((⟨B, 0, none⟩ : Addr).add j) = some u := by
  subst h
  intro j u hj
  match j, hj with
  | 0, hj => simp at hj; subst hj; simp [Addr.add]
  | 1, hj => simp at hj; subst hj; simp [Addr.add]
  | n + 2, hj => simp at hj

/-- A fault of this layer, as it lies in memory. -/
def FaultAt (w : World) (q : Nat) (a c : Int) : Prop :=
  w.cell? ⟨q, 0, none⟩ = some (.string { data := #[118, 97, 108, 117, 101] }) ∧ w.cell? ⟨q, 1, none⟩ = some (.int .i64 a) ∧ w.cell? ⟨q, 2, none⟩ = some (.iface 61 (.int .i64 c))

theorem FaultAt.next {w w' : World} {q : Nat} {a c : Int} (h : FaultAt w q a c) (hb : Below w.heap.size w w') : FaultAt w' q a c :=
  ⟨(hb.cell (cell_lt h.1)).trans h.1, (hb.cell (cell_lt h.2.1)).trans h.2.1, (hb.cell (cell_lt h.2.2)).trans h.2.2⟩

/-- The program's error, or none; the document's fault, or none: the place and the number. -/
def PErr (w : World) (v : Value) : Option (Int × Int) → Prop
  | some (a, c) => ∃ q, v = .iface 87 (.pointer (some ⟨q, 0, none⟩)) ∧ FaultAt w q a c
  | none => v = .nilIface
def RErr (w : World) (v : Value) : Option (Int × Int) → Prop
  | some (a, c) => ∃ g k, v = .agg #[.slice (some ⟨g, 0, none⟩) 1 k, .int .i64 c] ∧ w.cell? ⟨g, 0, none⟩ = some (.string { data := #[118, 97, 108, 117, 101] }) ∧ w.cell? ⟨g, 1, none⟩ = some (.int .i64 a)
  | none => v = .agg #[.slice none 0 0, .int .i64 0]

theorem PErr.next {w w' : World} {v : Value} {o : Option (Int × Int)} (h : PErr w v o) (hb : Below w.heap.size w w') : PErr w' v o := by
  cases o with
  | some x => obtain ⟨q, rfl, hf⟩ := h; exact ⟨q, rfl, hf.next hb⟩
  | none => exact h
theorem RErr.next {w w' : World} {v : Value} {o : Option (Int × Int)} (h : RErr w v o) (hb : Below w.heap.size w w') : RErr w' v o := by
  cases o with
  | some x => obtain ⟨g, c, rfl, h0, h1⟩ := h; exact ⟨g, c, rfl, (hb.cell (cell_lt h0)).trans h0, (hb.cell (cell_lt h1)).trans h1⟩
  | none => exact h

theorem refusal_any (a c : Int) (w : World) : Calls Tryd.prog 21 #[.int .i64 a, .iface 61 (.int .i64 c)] w fun e w' => ∃ v, e = .returned v ∧ PErr w' v (some (a, c)) ∧ Below w.heap.size w w' := by
  go_enter Tryd.func21, Tryd.ntmps21
  go_wp2
  go_ret
  exact ⟨_, rfl, ⟨w.heap.size, rfl, by simp, by simp, by simp⟩, (Below.refl _ _).alloc (Nat.le_refl _) _⟩
end Go.Proofs.YtehgeninocbpeaaDoor.Tm

/-
  DERIVED. Days: which are days, and their numbers.
-/
namespace Go.Proofs.YtehgeninocbpeaaDoor.Tm
open Go Go.Proofs Go.RowKit

def dv (y m d : Int) : Value := .agg #[.int .i64 y, .int .i64 m, .int .i64 d]

/-- The first field that may not be. -/
def uf (y m d : Int) : Int := if y < 1 ∨ 9999 < y then 0 else if m < 1 ∨ 12 < m then 1 else if d < 1 ∨ (md y.toNat m.toNat : Int) < d then 2 else -1

end Go.Proofs.YtehgeninocbpeaaDoor.Tm

/-
  DERIVED. The number of a day.
-/
namespace Go.Proofs.YtehgeninocbpeaaDoor.Tm
open Go Go.Proofs Go.RowKit

/-- The days of so many months. -/
def cu (y : Nat) : Nat → Nat
  | 0 => 0
  | k + 1 => cu y k + md y (k + 1)
theorem md_le (y m : Nat) : md y m ≤ 31 := by
  unfold md
  split
  · omega
  · split
    · omega
    · unfold mL
      rename_i h _
      have : m - 1 < 12 := by omega
      generalize m - 1 = k at *
      rcases (by omega : k = 0 ∨ k = 1 ∨ k = 2 ∨ k = 3 ∨ k = 4 ∨ k = 5 ∨ k = 6 ∨ k = 7 ∨ k = 8 ∨ k = 9 ∨ k = 10 ∨ k = 11) with rfl | rfl | rfl | rfl | rfl | rfl | rfl | rfl | rfl | rfl | rfl | rfl <;> decide
theorem cu_le (y : Nat) : ∀ k, cu y k ≤ 31 * k
  | 0 => by simp [cu]
  | k + 1 => by have := cu_le y k; have := md_le y (k + 1); rw [cu]; omega

/-- A day that is one. -/
def Day (y m d : Nat) : Prop := 1 ≤ y ∧ y ≤ 9999 ∧ 1 ≤ m ∧ m ≤ 12 ∧ 1 ≤ d ∧ d ≤ md y m
def num (y m d : Nat) : Nat := dA y + cu y (m - 1) + d - 1
theorem dA_le {y : Nat} (h : y ≤ 10000) : dA y ≤ 3652059 := by unfold dA; omega
end Go.Proofs.YtehgeninocbpeaaDoor.Tm

/-
  DERIVED. A text, read digit by digit.
-/
namespace Go.Proofs.YtehgeninocbpeaaDoor.Tm
open Go Go.Proofs Go.RowKit

theorem get_get! (s : ByteArray) (pos : Nat) (h : pos < s.size) : s[pos] = s.get! pos := by
  simp [ByteArray.get!, getElem!_pos, h]
  rfl

/-- The reader in memory: the text, the place, whether it is broken; all else is whatever it is. -/
structure Cur (w : World) (q : Nat) (f : Nat → Value) (s : ByteArray) (a : Nat) (b : Bool) : Prop where
  row : w.rowIs q 95 15 f
  c0 : f 0 = .string s
  c1 : f 1 = .int .i64 (a : Int)
  c2 : f 2 = .bool b
theorem Cur.cells {w : World} {q : Nat} {f : Nat → Value} {s : ByteArray} {a : Nat} {b : Bool} (h : Cur w q f s a b) :
    w.cell? ⟨q, 0, none⟩ = some (.string s) ∧ w.cell? ⟨q, 1, none⟩ = some (.int .i64 (a : Int)) ∧ w.cell? ⟨q, 2, none⟩ = some (.bool b) :=
  ⟨h.c0 ▸ h.row.cell (i := 0) (by omega), h.c1 ▸ h.row.cell (i := 1) (by omega), h.c2 ▸ h.row.cell (i := 2) (by omega)⟩

/-- Is there a digit at hand? -/
def isD (s : ByteArray) (a : Nat) : Bool := decide (a < s.size) && (decide (48 ≤ (s.get! a).toNat) && decide ((s.get! a).toNat ≤ 57))

theorem isDigit_any (w : World) (b : Nat) : Calls Tryd.prog 73 #[.int .u8 (b : Int)] w fun e w' => e = .returned (.bool (decide (48 ≤ b) && decide (b ≤ 57))) ∧ w = w' := by
  by_cases h1 : 48 ≤ b
  · have a1 : (48 : Int) ≤ (b : Int) := by omega
    by_cases h2 : b ≤ 57
    · have a2 : (b : Int) ≤ 57 := by omega
      rw [decide_eq_true h1, decide_eq_true h2]
      go_enter Tryd.func73, Tryd.ntmps73
      go_wp2
      go_ret
      exact ⟨rfl, rfl⟩
    · have a2 : decide ((b : Int) ≤ 57) = false := by simp; omega
      rw [decide_eq_true h1, decide_eq_false h2]
      go_enter Tryd.func73, Tryd.ntmps73
      go_wp2
      go_ret
      exact ⟨rfl, rfl⟩
  · have a1 : decide ((48 : Int) ≤ (b : Int)) = false := by simp; omega
    rw [decide_eq_false h1, Bool.false_and]
    go_enter Tryd.func73, Tryd.ntmps73
    go_wp2
    go_ret
    exact ⟨rfl, rfl⟩

def nx (s : ByteArray) (a : Nat) (b : Bool) : Nat := if b = true ∨ ¬ a < s.size then 0 else (s.get! a).toNat

set_option maxRecDepth 100000 in
set_option maxHeartbeats 1000000 in
theorem next_any (w : World) (q : Nat) (f : Nat → Value) (s : ByteArray) (a : Nat) (b : Bool) (h : Cur w q f s a b) (ha : a ≤ s.size) :
    Calls Tryd.prog 60 #[.pointer (some ⟨q, 0, none⟩)] w fun e w' => e = .returned (.int .u8 (nx s a b : Nat)) ∧ ∃ n, w' = w.drewN n := by
  obtain ⟨q0, q1, q2⟩ := h.cells
  clear h
  unfold nx
  cases b with
  | true =>
    rw [if_pos (.inl rfl)]
    go_enter Tryd.func60, Tryd.ntmps60
    go_wp2
    go_quiet (fail)
    go_wp2
    go_ret
    exact ⟨rfl, _, rfl⟩
  | false =>
    by_cases hl : a < s.size
    · rw [if_neg (by simp; exact hl)]
      obtain ⟨c, hc⟩ : ∃ c, s[a].toNat = c := ⟨_, rfl⟩
      rw [show (s.get! a).toNat = c by rw [← hc, get_get! s a hl]]
      have e1 : ((a : Int) == (s.size : Int)) = false := by simp; omega
      have e2 : (a : Int) < (s.size : Int) := by omega
      go_enter Tryd.func60, Tryd.ntmps60
      go_wp2
      go_quiet (fail)
      go_wp2
      go_quiet (fail)
      go_wp2
      go_ret
      exact ⟨rfl, _, by rw [World.drewN_drewN]⟩
    · rw [if_pos (.inr hl)]
      obtain rfl : a = s.size := by omega
      go_enter Tryd.func60, Tryd.ntmps60
      go_wp2
      go_quiet (fail)
      go_wp2
      go_ret
      exact ⟨rfl, _, rfl⟩

theorem nx_digit (s : ByteArray) (a : Nat) (b : Bool) : (decide (48 ≤ nx s a b) && decide (nx s a b ≤ 57)) = (!b && isD s a) := by
  unfold nx isD
  cases b with
  | true => simp
  | false =>
    by_cases h : a < s.size
    · simp [h]
    · simp [h]

set_option maxRecDepth 100000 in
theorem onDigit_any (w : World) (q : Nat) (f : Nat → Value) (s : ByteArray) (a : Nat) (b : Bool) (h : Cur w q f s a b) (ha : a ≤ s.size) :
    Calls Tryd.prog 62 #[.pointer (some ⟨q, 0, none⟩)] w fun e w' => e = .returned (.bool (!b && isD s a)) ∧ ∃ n, w' = w.drewN n := by
  have c := next_any w q f s a b h ha
  have c86 := fun W => isDigit_any W (nx s a b)
  rw [nx_digit] at c86
  generalize nx s a b = x at *
  go_enter Tryd.func62, Tryd.ntmps62
  go_wp2_with (first | (go_at_call 60; refine c.mono ?_; rintro e w' ⟨rfl, n, rfl⟩) | (go_at_call 73; refine (c86 _).mono ?_; rintro e w' ⟨rfl, rfl⟩))
  go_ret
  exact ⟨rfl, _, rfl⟩
end Go.Proofs.YtehgeninocbpeaaDoor.Tm
