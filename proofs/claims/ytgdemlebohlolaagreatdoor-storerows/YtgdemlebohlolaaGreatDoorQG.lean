import Derived.Test.YtgdemlebohlolaaGreatDoorProg
import Derived.WalkKit
import Derived.WalkSpells
import Derived.WalkLawsBesides
import Derived.Deep.QuietTactic
import Derived.BigQuiet
import Derived.BigRegion
import Derived.KernelRfl
import Derived.Deep.RegionWith
import Derived.Deep.LoopGhost
import Derived.WalkMore
import Derived.Deep.RegionLawGrows
import Derived.WideMake
import Derived.Deep.OwnRows
import Derived.Lib.OthersKept
/-
  DERIVED. The calendar: years and months, by the program.
-/
namespace Go.Proofs.YtgdemlebohlolaaGreatDoor.Tm
open Go Go.Proofs Go.RowKit

def Stop (p : Prop) : Prop := p
theorem Stop.mk {p : Prop} (h : Stop p) : p := h
theorem Stop.out {p : Prop} (h : p) : Stop p := h

/-- Has a year a 29th of February? -/
def Lp (y : Nat) : Prop := y % 4 = 0 ∧ (y % 100 ≠ 0 ∨ y % 400 = 0)
instance (y : Nat) : Decidable (Lp y) := by unfold Lp; infer_instance

theorem dec_int (a b : Nat) : decide (a = b) = ((a : Int) == (b : Int)) := by rw [Bool.eq_iff_iff, decide_eq_true_eq, beq_iff_eq]; omega

set_option maxRecDepth 100000 in
theorem isLeap_any (w : World) (y : Nat) : Calls Tryz.prog 170 #[.int .i64 (y : Int)] w fun e w' => e = .returned (.bool (decide (Lp y))) ∧ w = w' := by
  by_cases h4 : y % 4 = 0
  · have a4 : ((y : Int) % 4 == 0) = true := by simp; omega
    by_cases h1 : y % 100 = 0
    · have e : decide (Lp y) = decide (y % 400 = 0) := by unfold Lp; simp [h4, h1]
      rw [e]
      have a1 : ((y : Int) % 100 == 0) = true := by simp; omega
      have a1' : (y : Int) % 100 = 0 := by omega
      have a0 : decide (y % 400 = 0) = ((y : Int) % 400 == 0) := by rw [Bool.eq_iff_iff, decide_eq_true_eq, beq_iff_eq]; omega
      rw [a0]
      clear a0 e
      go_enter Tryz.func170, Tryz.ntmps170
      go_wp2
      go_ret
      exact ⟨rfl, rfl⟩
    · have e : decide (Lp y) = true := by unfold Lp; simp [h4, h1]
      rw [e]
      have a1 : ((y : Int) % 100 == 0) = false := by simp; omega
      have a1' : ¬ ((y : Int) % 100 = 0) := by omega
      clear e
      go_enter Tryz.func170, Tryz.ntmps170
      go_wp2
      go_ret
      exact ⟨rfl, rfl⟩
  · have e : decide (Lp y) = false := by unfold Lp; simp [h4]
    rw [e]
    have a4 : ((y : Int) % 4 == 0) = false := by simp; omega
    clear e
    go_enter Tryz.func170, Tryz.ntmps170
    go_wp2
    go_ret
    exact ⟨rfl, rfl⟩

/-- How many days lie ahead of a year. -/
def dA (y : Nat) : Nat := 365 * (y - 1) + (y - 1) / 4 - (y - 1) / 100 + (y - 1) / 400
theorem div_up (z d : Nat) (hd : 0 < d) (h : (z + 1) % d = 0) : (z + 1) / d = z / d + 1 := by
  have h1 := Nat.div_add_mod (z + 1) d
  rw [h, Nat.add_zero] at h1
  have h2 : z + 1 = d * ((z + 1) / d) := h1.symm
  generalize (z + 1) / d = q at *
  obtain ⟨p, rfl⟩ : ∃ p, q = p + 1 := ⟨q - 1, by
    rcases Nat.eq_zero_or_pos q with h | h
    · subst h; omega
    · omega⟩
  have h3 : z = d * p + (d - 1) := by rw [Nat.mul_add, Nat.mul_one] at h2; omega
  rw [h3, Nat.mul_add_div hd, Nat.div_eq_of_lt (by omega)]
theorem div_same (z d : Nat) (hd : 0 < d) (h : (z + 1) % d ≠ 0) : (z + 1) / d = z / d := by
  have h1 := Nat.div_add_mod (z + 1) d
  have h2 := Nat.mod_lt (z + 1) hd
  generalize (z + 1) / d = q at *
  generalize (z + 1) % d = r at *
  have h3 : z = d * q + (r - 1) := by omega
  rw [h3, Nat.mul_add_div hd, Nat.div_eq_of_lt (by omega)]
  omega
theorem dA_next (y : Nat) (h : 1 ≤ y) : dA (y + 1) = dA y + if Lp y then 366 else 365 := by
  obtain ⟨z, rfl⟩ : ∃ z, y = z + 1 := ⟨y - 1, by omega⟩
  have hle : z / 100 ≤ z / 4 := by omega
  unfold dA
  simp only [Nat.add_sub_cancel]
  by_cases h4 : (z + 1) % 4 = 0
  · rw [div_up z 4 (by omega) h4]
    by_cases h1 : (z + 1) % 100 = 0
    · rw [div_up z 100 (by omega) h1]
      by_cases h0 : (z + 1) % 400 = 0
      · rw [div_up z 400 (by omega) h0, if_pos (show Lp (z + 1) from ⟨h4, .inr h0⟩)]
        generalize z / 4 = a at *; generalize z / 100 = b at *; generalize z / 400 = c at *
        clear h4 h1 h0
        omega
      · rw [div_same z 400 (by omega) h0, if_neg (show ¬ Lp (z + 1) from fun hl => by rcases hl.2 with h | h; exact h h1; exact h0 h)]
        generalize z / 4 = a at *; generalize z / 100 = b at *; generalize z / 400 = c at *
        clear h4 h1 h0
        omega
    · rw [div_same z 100 (by omega) h1, div_same z 400 (by omega) (by omega), if_pos (show Lp (z + 1) from ⟨h4, .inl h1⟩)]
      generalize z / 4 = a at *; generalize z / 100 = b at *; generalize z / 400 = c at *
      clear h4 h1
      omega
  · rw [div_same z 4 (by omega) h4, div_same z 100 (by omega) (by omega), div_same z 400 (by omega) (by omega), if_neg (show ¬ Lp (z + 1) from fun hl => h4 hl.1)]
    generalize z / 4 = a at *; generalize z / 100 = b at *; generalize z / 400 = c at *
    clear h4
    omega
theorem dA_step (a : Nat) (h : 1 ≤ a) : dA a + 365 ≤ dA (a + 1) ∧ dA (a + 1) ≤ dA a + 366 := by
  rw [dA_next a h]
  by_cases hl : Lp a
  · rw [if_pos hl]; omega
  · rw [if_neg hl]; omega
theorem dA_mono {a : Nat} (h : 1 ≤ a) : ∀ k, dA a ≤ dA (a + k)
  | 0 => Nat.le_refl _
  | k + 1 => Nat.le_trans (dA_mono h k) (by have := dA_step (a + k) (by omega); rw [show a + (k + 1) = a + k + 1 by omega]; omega)

/-- The lengths of the months. -/
def mL (i : Nat) : Nat := [31, 28, 31, 30, 31, 30, 31, 31, 30, 31, 30, 31].getD i 0
structure Mt (w : World) : Prop where
  p : ∀ i, i < 12 → w.cell? ⟨5, i, none⟩ = some (.int .i64 (mL i : Nat))
theorem Mt.on {w w' : World} (h : Mt w) (hb : Below w.heap.size w w') : Mt w' :=
  ⟨fun i hi => (hb.cell (p := ⟨5, i, none⟩) (World.block_lt_of_cell? w ⟨5, i, none⟩ (h.p i hi))).trans (h.p i hi)⟩
def md (y m : Nat) : Nat := if m < 1 ∨ 12 < m then 0 else if m = 2 ∧ Lp y then 29 else mL (m - 1)

set_option maxRecDepth 100000 in
theorem month_any (w : World) (y m : Nat) (hT : Mt w) : Calls Tryz.prog 149 #[.int .i64 (y : Int), .int .i64 (m : Int)] w fun e w' => e = .returned (.int .i64 (md y m : Nat)) ∧ w = w' := by
  have c := fun W => isLeap_any W y
  unfold md
  by_cases h : m < 1 ∨ 12 < m
  · rw [if_pos h]
    rcases h with h | h
    · have a : (m : Int) < 1 := by omega
      go_enter Tryz.func149, Tryz.ntmps149
      go_wp2
      go_ret
      exact ⟨rfl, rfl⟩
    · have a : ¬ ((m : Int) < 1) := by omega
      have b : (12 : Int) < (m : Int) := by omega
      go_enter Tryz.func149, Tryz.ntmps149
      go_wp2
      go_ret
      exact ⟨rfl, rfl⟩
  · rw [if_neg h]
    obtain ⟨k, rfl⟩ : ∃ k, m = k + 1 := ⟨m - 1, by omega⟩
    have hk : k < 12 := by omega
    have hc := hT.p k hk
    have a : ¬ (((k + 1 : Nat) : Int) < 1) := by omega
    have b : ¬ ((12 : Int) < ((k + 1 : Nat) : Int)) := by omega
    have hsub : ((k + 1 : Nat) : Int) - 1 = (k : Int) := by omega
    have hkI : (k : Int) < 12 := by omega
    rw [show k + 1 - 1 = k by omega]
    generalize mL k = L at *
    by_cases h2 : k = 1
    · subst h2
      by_cases hl : Lp y
      · rw [if_pos ⟨rfl, hl⟩]
        have hd : decide (Lp y) = true := by simpa using hl
        rw [hd] at c
        clear hd h hl
        go_enter Tryz.func149, Tryz.ntmps149
        go_wp2_with (go_at_call 170; refine (c _).mono ?_; rintro e w' ⟨rfl, rfl⟩)
        go_ret
        exact ⟨rfl, rfl⟩
      · rw [if_neg (fun h => hl h.2)]
        have hd : decide (Lp y) = false := by simpa using hl
        rw [hd] at c
        clear hd h hl
        go_enter Tryz.func149, Tryz.ntmps149
        go_wp2_with (go_at_call 170; refine (c _).mono ?_; rintro e w' ⟨rfl, rfl⟩)
        go_ret
        exact ⟨rfl, rfl⟩
    · rw [if_neg (fun h => h2 (by omega))]
      have h2' : (((k + 1 : Nat) : Int) == 2) = false := by simp; omega
      have h3' : ((k : Int) + 1 == 2) = false := by simp; omega
      clear h
      go_enter Tryz.func149, Tryz.ntmps149
      go_wp2
      go_ret
      exact ⟨rfl, rfl⟩
end Go.Proofs.YtgdemlebohlolaaGreatDoor.Tm

/-
  DERIVED. Errors and the document's faults, held against each other.
-/
namespace Go.Proofs.YtgdemlebohlolaaGreatDoor.Tm
open Go Go.Proofs Go.RowKit

theorem cell_lt {w : World} {a : Addr} {v : Value} (h : w.cell? a = some v) : a.block < w.heap.size := by
  by_cases hl : a.block < w.heap.size
  · exact hl
  · have : w.heap[a.block]? = none := by simp; omega
    simp [World.cell?, this] at h
theorem cell_set_ne {W : World} {b i j : Nat} {v : Value} (h : i ≠ j) : (W.setCell ⟨b, i, none⟩ v).cell? ⟨b, j, none⟩ = W.cell? ⟨b, j, none⟩ := by
  apply World.cell?_setCell_other; simp
theorem cell_set_eq {W : World} {b i : Nat} {v u : Value} (h : W.cell? ⟨b, i, none⟩ = some u) : (W.setCell ⟨b, i, none⟩ v).cell? ⟨b, i, none⟩ = some v := by
  apply World.cell?_setCell_same; exact h
theorem cell_set_off {W : World} {b i c j : Nat} {v : Value} (h : b ≠ c) : (W.setCell ⟨b, i, none⟩ v).cell? ⟨c, j, none⟩ = W.cell? ⟨c, j, none⟩ := by
  apply World.cell?_setCell_other; intro e; exact h (by simpa using congrArg Addr.block e)

theorem owns_succ {W : World} {base : Nat} {e : TypeId} {size : Nat} {v : Value} {k : Nat} {xs : List Value} (h : W.ownsRow base e size v (k + 1) xs) : ∃ g cap, v = .slice (some ⟨g, 0, none⟩) (k + 1) cap := by
  rcases h.2 with ⟨_, h0⟩ | ⟨g, cap, cur, rfl, _⟩
  · omega
  · exact ⟨g, cap, rfl⟩


theorem cell_two_at {w : World} {x0 x1 : Value} {t : TypeId} {B : Nat} (h : B = w.heap.size) : ∀ j u, [x0, x1][j]? = some u → (w.alloc (.cells #[x0, x1] t)).cell? ((⟨B, 0, none⟩ : Addr).add j) = some u := by
  subst h
  intro j u hj
  match j, hj with
  | 0, hj => simp at hj; subst hj; simp [Addr.add]
  | 1, hj => simp at hj; subst hj; simp [Addr.add]
  | n + 2, hj => simp at hj

/-- A fault of this layer, as it lies in memory. -/
def FaultAt (w : World) (q : Nat) (a c : Int) : Prop :=
  w.cell? ⟨q, 0, none⟩ = some (.string { data := #[118, 97, 108, 117, 101] }) ∧ w.cell? ⟨q, 1, none⟩ = some (.int .i64 a) ∧ w.cell? ⟨q, 2, none⟩ = some (.iface 40 (.int .i64 c))

theorem FaultAt.next {w w' : World} {q : Nat} {a c : Int} (h : FaultAt w q a c) (hb : Below w.heap.size w w') : FaultAt w' q a c :=
  ⟨(hb.cell (cell_lt h.1)).trans h.1, (hb.cell (cell_lt h.2.1)).trans h.2.1, (hb.cell (cell_lt h.2.2)).trans h.2.2⟩

/-- The program's error, or none; the document's fault, or none: the place and the number. -/
def PErr (w : World) (v : Value) : Option (Int × Int) → Prop
  | some (a, c) => ∃ q, v = .iface 44 (.pointer (some ⟨q, 0, none⟩)) ∧ FaultAt w q a c
  | none => v = .nilIface
def RErr (w : World) (v : Value) : Option (Int × Int) → Prop
  | some (a, c) => ∃ g k, v = .agg #[.slice (some ⟨g, 0, none⟩) 1 k, .int .i64 c] ∧ w.cell? ⟨g, 0, none⟩ = some (.string { data := #[118, 97, 108, 117, 101] }) ∧ w.cell? ⟨g, 1, none⟩ = some (.int .i64 a)
  | none => v = .agg #[.slice none 0 0, .int .i64 0]

theorem PErr.next {w w' : World} {v : Value} {o : Option (Int × Int)} (h : PErr w v o) (hb : Below w.heap.size w w') : PErr w' v o := by
  cases o with
  | some x => obtain ⟨q, rfl, hf⟩ := h; exact ⟨q, rfl, hf.next hb⟩
  | none => exact h
theorem RErr.next {w w' : World} {v : Value} {o : Option (Int × Int)} (h : RErr w v o) (hb : Below w.heap.size w w') : RErr w' v o := by
  cases o with
  | some x => obtain ⟨g, c, rfl, h0, h1⟩ := h; exact ⟨g, c, rfl, (hb.cell (cell_lt h0)).trans h0, (hb.cell (cell_lt h1)).trans h1⟩
  | none => exact h

theorem refusal_any (a c : Int) (w : World) : Calls Tryz.prog 126 #[.int .i64 a, .iface 40 (.int .i64 c)] w fun e w' => ∃ v, e = .returned v ∧ PErr w' v (some (a, c)) ∧ Below w.heap.size w w' := by
  go_enter Tryz.func126, Tryz.ntmps126
  go_wp2
  go_ret
  exact ⟨_, rfl, ⟨w.heap.size, rfl, by simp, by simp, by simp⟩, (Below.refl _ _).alloc (Nat.le_refl _) _⟩
end Go.Proofs.YtgdemlebohlolaaGreatDoor.Tm

/-
  DERIVED. Days: which are days, and their numbers.
-/
namespace Go.Proofs.YtgdemlebohlolaaGreatDoor.Tm
open Go Go.Proofs Go.RowKit

def dv (y m d : Int) : Value := .agg #[.int .i64 y, .int .i64 m, .int .i64 d]

/-- The first field that may not be. -/
def uf (y m d : Int) : Int := if y < 1 ∨ 9999 < y then 0 else if m < 1 ∨ 12 < m then 1 else if d < 1 ∨ (md y.toNat m.toNat : Int) < d then 2 else -1

end Go.Proofs.YtgdemlebohlolaaGreatDoor.Tm

/-
  DERIVED. The number of a day.
-/
namespace Go.Proofs.YtgdemlebohlolaaGreatDoor.Tm
open Go Go.Proofs Go.RowKit

/-- The days of so many months. -/
def cu (y : Nat) : Nat → Nat
  | 0 => 0
  | k + 1 => cu y k + md y (k + 1)
theorem md_le (y m : Nat) : md y m ≤ 31 := by
  unfold md
  split
  · omega
  · split
    · omega
    · unfold mL
      rename_i h _
      have : m - 1 < 12 := by omega
      generalize m - 1 = k at *
      rcases (by omega : k = 0 ∨ k = 1 ∨ k = 2 ∨ k = 3 ∨ k = 4 ∨ k = 5 ∨ k = 6 ∨ k = 7 ∨ k = 8 ∨ k = 9 ∨ k = 10 ∨ k = 11) with rfl | rfl | rfl | rfl | rfl | rfl | rfl | rfl | rfl | rfl | rfl | rfl <;> decide
theorem cu_le (y : Nat) : ∀ k, cu y k ≤ 31 * k
  | 0 => by simp [cu]
  | k + 1 => by have := cu_le y k; have := md_le y (k + 1); rw [cu]; omega

/-- A day that is one. -/
def Day (y m d : Nat) : Prop := 1 ≤ y ∧ y ≤ 9999 ∧ 1 ≤ m ∧ m ≤ 12 ∧ 1 ≤ d ∧ d ≤ md y m
def num (y m d : Nat) : Nat := dA y + cu y (m - 1) + d - 1
theorem dA_le {y : Nat} (h : y ≤ 10000) : dA y ≤ 3652059 := by unfold dA; omega
end Go.Proofs.YtgdemlebohlolaaGreatDoor.Tm

/-
  DERIVED. A text, read digit by digit.
-/
namespace Go.Proofs.YtgdemlebohlolaaGreatDoor.Tm
open Go Go.Proofs Go.RowKit

theorem get_get! (s : ByteArray) (pos : Nat) (h : pos < s.size) : s[pos] = s.get! pos := by
  simp [ByteArray.get!, getElem!_pos, h]
  rfl

/-- The reader in memory: the text, the place, whether it is broken; all else is whatever it is. -/
structure Cur (w : World) (q : Nat) (f : Nat → Value) (s : ByteArray) (a : Nat) (b : Bool) : Prop where
  row : w.rowIs q 131 15 f
  c0 : f 0 = .string s
  c1 : f 1 = .int .i64 (a : Int)
  c2 : f 2 = .bool b
theorem Cur.cells {w : World} {q : Nat} {f : Nat → Value} {s : ByteArray} {a : Nat} {b : Bool} (h : Cur w q f s a b) :
    w.cell? ⟨q, 0, none⟩ = some (.string s) ∧ w.cell? ⟨q, 1, none⟩ = some (.int .i64 (a : Int)) ∧ w.cell? ⟨q, 2, none⟩ = some (.bool b) :=
  ⟨h.c0 ▸ h.row.cell (i := 0) (by omega), h.c1 ▸ h.row.cell (i := 1) (by omega), h.c2 ▸ h.row.cell (i := 2) (by omega)⟩

/-- Is there a digit at hand? -/
def isD (s : ByteArray) (a : Nat) : Bool := decide (a < s.size) && (decide (48 ≤ (s.get! a).toNat) && decide ((s.get! a).toNat ≤ 57))

theorem isDigit_any (w : World) (b : Nat) : Calls Tryz.prog 171 #[.int .u8 (b : Int)] w fun e w' => e = .returned (.bool (decide (48 ≤ b) && decide (b ≤ 57))) ∧ w = w' := by
  by_cases h1 : 48 ≤ b
  · have a1 : (48 : Int) ≤ (b : Int) := by omega
    by_cases h2 : b ≤ 57
    · have a2 : (b : Int) ≤ 57 := by omega
      rw [decide_eq_true h1, decide_eq_true h2]
      go_enter Tryz.func171, Tryz.ntmps171
      go_wp2
      go_ret
      exact ⟨rfl, rfl⟩
    · have a2 : decide ((b : Int) ≤ 57) = false := by simp; omega
      rw [decide_eq_true h1, decide_eq_false h2]
      go_enter Tryz.func171, Tryz.ntmps171
      go_wp2
      go_ret
      exact ⟨rfl, rfl⟩
  · have a1 : decide ((48 : Int) ≤ (b : Int)) = false := by simp; omega
    rw [decide_eq_false h1, Bool.false_and]
    go_enter Tryz.func171, Tryz.ntmps171
    go_wp2
    go_ret
    exact ⟨rfl, rfl⟩

def nx (s : ByteArray) (a : Nat) (b : Bool) : Nat := if b = true ∨ ¬ a < s.size then 0 else (s.get! a).toNat

set_option maxRecDepth 100000 in
set_option maxHeartbeats 1000000 in
theorem next_any (w : World) (q : Nat) (f : Nat → Value) (s : ByteArray) (a : Nat) (b : Bool) (h : Cur w q f s a b) (ha : a ≤ s.size) :
    Calls Tryz.prog 172 #[.pointer (some ⟨q, 0, none⟩)] w fun e w' => e = .returned (.int .u8 (nx s a b : Nat)) ∧ ∃ n, w' = w.drewN n := by
  obtain ⟨q0, q1, q2⟩ := h.cells
  clear h
  unfold nx
  cases b with
  | true =>
    rw [if_pos (.inl rfl)]
    go_enter Tryz.func172, Tryz.ntmps172
    go_wp2
    go_quiet (fail)
    go_wp2
    go_ret
    exact ⟨rfl, _, rfl⟩
  | false =>
    by_cases hl : a < s.size
    · rw [if_neg (by simp; exact hl)]
      obtain ⟨c, hc⟩ : ∃ c, s[a].toNat = c := ⟨_, rfl⟩
      rw [show (s.get! a).toNat = c by rw [← hc, get_get! s a hl]]
      have e1 : ((a : Int) == (s.size : Int)) = false := by simp; omega
      have e2 : (a : Int) < (s.size : Int) := by omega
      go_enter Tryz.func172, Tryz.ntmps172
      go_wp2
      go_quiet (fail)
      go_wp2
      go_quiet (fail)
      go_wp2
      go_ret
      exact ⟨rfl, _, by rw [World.drewN_drewN]⟩
    · rw [if_pos (.inr hl)]
      obtain rfl : a = s.size := by omega
      go_enter Tryz.func172, Tryz.ntmps172
      go_wp2
      go_quiet (fail)
      go_wp2
      go_ret
      exact ⟨rfl, _, rfl⟩

theorem nx_digit (s : ByteArray) (a : Nat) (b : Bool) : (decide (48 ≤ nx s a b) && decide (nx s a b ≤ 57)) = (!b && isD s a) := by
  unfold nx isD
  cases b with
  | true => simp
  | false =>
    by_cases h : a < s.size
    · simp [h]
    · simp [h]

set_option maxRecDepth 100000 in
theorem onDigit_any (w : World) (q : Nat) (f : Nat → Value) (s : ByteArray) (a : Nat) (b : Bool) (h : Cur w q f s a b) (ha : a ≤ s.size) :
    Calls Tryz.prog 150 #[.pointer (some ⟨q, 0, none⟩)] w fun e w' => e = .returned (.bool (!b && isD s a)) ∧ ∃ n, w' = w.drewN n := by
  have c := next_any w q f s a b h ha
  have c86 := fun W => isDigit_any W (nx s a b)
  rw [nx_digit] at c86
  generalize nx s a b = x at *
  go_enter Tryz.func150, Tryz.ntmps150
  go_wp2_with (first | (go_at_call 172; refine c.mono ?_; rintro e w' ⟨rfl, n, rfl⟩) | (go_at_call 171; refine (c86 _).mono ?_; rintro e w' ⟨rfl, rfl⟩))
  go_ret
  exact ⟨rfl, _, rfl⟩
end Go.Proofs.YtgdemlebohlolaaGreatDoor.Tm
