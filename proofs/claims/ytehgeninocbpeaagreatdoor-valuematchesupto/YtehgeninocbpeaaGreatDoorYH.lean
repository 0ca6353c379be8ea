import Derived.Test.YtehgeninocbpeaaGreatDoorProg
import Derived.WalkKit
import Derived.WalkSpells
import Derived.WalkLawsBesides
import Derived.Deep.QuietTactic
import Derived.BigQuiet
import Derived.BigRegion
import Derived.KernelRfl
import Derived.Deep.RegionWith
import Derived.Deep.LoopGhost
import Derived.WalkMore
import Derived.Deep.RegionLawGrows
import Derived.WideMake
import Derived.Deep.OwnRows
import Derived.Lib.OthersKept
namespace Go.Proofs.YtehgeninocbpeaaGreatDoor.Nu
open Go Go.Proofs Go.RowKit
def Stop (p : Prop) : Prop := p
theorem Stop.mk {p : Prop} (h : Stop p) : p := h
theorem Stop.out {p : Prop} (h : p) : Stop p := h
theorem cell_set_off {W : World} {b i c j : Nat} {v : Value} (h : b ≠ c) : (W.setCell ⟨b, i, none⟩ v).cell? ⟨c, j, none⟩ = W.cell? ⟨c, j, none⟩ := by
  apply World.cell?_setCell_other; intro e; exact h (by simpa using congrArg Addr.block e)
set_option maxHeartbeats 400000 in
theorem new0_any (c at' : Int) (w : World) : Calls Tryz.prog 13 #[.string { data := #[118, 97, 108, 117, 101] }, .int .i64 at', .int .i64 c] w fun e w' => e = .returned (.agg #[.slice (some ⟨w.heap.size + 1, 0, none⟩) 1 1, .int .i64 c]) ∧ Below w.heap.size w w' ∧ w'.cell? ⟨w.heap.size + 1, 0, none⟩ = some (.string { data := #[118, 97, 108, 117, 101] }) ∧ w'.cell? ⟨w.heap.size + 1, 1, none⟩ = some (.int .i64 at') ∧ w.heap.size + 1 < w'.heap.size := by
  go_enter Tryz.func13, Tryz.ntmps13
  go_wp2
  refine bodyPost_ret (v := .agg #[.slice (some ⟨w.heap.size + 1, 0, none⟩) 1 1, .int .i64 c]) (by simp [results, Tryz.results13, go_sem]) rfl ⟨rfl, ((Below.refl _ _).alloc (Nat.le_refl _) _).alloc (by simp) _, by simp, by simp, by simp⟩
def FaultAt (w : World) (q : Nat) (a c : Int) : Prop :=
  w.cell? ⟨q, 0, none⟩ = some (.string { data := #[118, 97, 108, 117, 101] }) ∧ w.cell? ⟨q, 1, none⟩ = some (.int .i64 a) ∧ w.cell? ⟨q, 2, none⟩ = some (.iface 83 (.int .i64 c))
def PErr (w : World) (v : Value) : Option (Int × Int) → Prop
  | some (a, c) => ∃ q, v = .iface 88 (.pointer (some ⟨q, 0, none⟩)) ∧ FaultAt w q a c
  | none => v = .nilIface
def RErr (w : World) (v : Value) : Option (Int × Int) → Prop
  | some (a, c) => ∃ g k, v = .agg #[.slice (some ⟨g, 0, none⟩) 1 k, .int .i64 c] ∧ w.cell? ⟨g, 0, none⟩ = some (.string { data := #[118, 97, 108, 117, 101] }) ∧ w.cell? ⟨g, 1, none⟩ = some (.int .i64 a)
  | none => v = .agg #[.slice none 0 0, .int .i64 0]
theorem refusal_any (a c : Int) (w : World) : Calls Tryz.prog 46 #[.int .i64 a, .iface 83 (.int .i64 c)] w fun e w' => ∃ v, e = .returned v ∧ PErr w' v (some (a, c)) ∧ Below w.heap.size w w' := by
  go_enter Tryz.func46, Tryz.ntmps46
  go_wp2
  go_ret
  exact ⟨_, rfl, ⟨w.heap.size, rfl, by simp, by simp, by simp⟩, (Below.refl _ _).alloc (Nat.le_refl _) _⟩
theorem no_any (a c : Int) (w : World) : Calls Tryz.prog 31 #[.int .i64 c, .int .i64 a] w fun e w' => ∃ v, e = .returned v ∧ RErr w' v (some (a, c)) ∧ Below w.heap.size w w' := by
  have hn := fun W => new0_any c a W
  obtain ⟨W0, hW0⟩ : ∃ W0, w.alloc (.cells #[.slice none 0 0, .int .i64 0] 35) = W0 := ⟨_, rfl⟩
  have hb0 : Below w.heap.size w W0 := hW0 ▸ (Below.refl _ _).alloc (Nat.le_refl _) _
  have hs0 : W0.heap.size = w.heap.size + 1 := by rw [← hW0]; simp
  have a0 : W0.cell? ⟨w.heap.size, 0, none⟩ = some (.slice none 0 0) := by rw [← hW0]; simp
  have a1 : W0.cell? ⟨w.heap.size, 1, none⟩ = some (.int .i64 0) := by rw [← hW0]; simp
  have af : ∀ i, W0.frozen? ⟨w.heap.size, i, none⟩ = false := fun i => by rw [← hW0]; simp
  go_enter Tryz.func31, Tryz.ntmps31
  go_wp2_with (go_at_call 13; fail)
  refine (hn _).mono ?_
  rintro e W1 ⟨rfl, hb, h0, h1, h2⟩
  have hlt : w.heap.size < W0.heap.size := by omega
  have b0 := (hb.cell (p := ⟨w.heap.size, 0, none⟩) hlt).trans a0
  have b1 := (hb.cell (p := ⟨w.heap.size, 1, none⟩) hlt).trans a1
  have bf := fun i => (hb.frozen (p := ⟨w.heap.size, i, none⟩) hlt).trans (af i)
  have HB : Hid (Below w.heap.size w W1) := hb0.trans (hb.mono hb0.size)
  clear hn a0 a1 af hW0
  go_wp2
  refine bodyPost_ret (v := .agg #[.slice (some ⟨W0.heap.size + 1, 0, none⟩) 1 1, .int .i64 c]) (by simp [results, Tryz.results31, go_sem, b0, b1]) rfl ?_
  exact ⟨_, rfl, ⟨W0.heap.size + 1, 1, rfl, (cell_set_off (by omega)).trans ((cell_set_off (by omega)).trans h0), (cell_set_off (by omega)).trans ((cell_set_off (by omega)).trans h1)⟩, (HB.out.setCell (p := ⟨w.heap.size, 0, none⟩) (Nat.le_refl _) _).setCell (p := ⟨w.heap.size, 1, none⟩) (Nat.le_refl _) _⟩
end Go.Proofs.YtehgeninocbpeaaGreatDoor.Nu

namespace Go.Proofs.YtehgeninocbpeaaGreatDoor.Nu
open Go Go.Proofs Go.RowKit
theorem get_get! (s : ByteArray) (pos : Nat) (h : pos < s.size) : s[pos] = s.get! pos := by
  simp [ByteArray.get!, getElem!_pos, h]
  rfl
structure Cur (w : World) (q : Nat) (f : Nat → Value) (s : ByteArray) (a : Nat) (b : Bool) : Prop where
  row : w.rowIs q 105 3 f
  c0 : f 0 = .string s
  c1 : f 1 = .int .i64 (a : Int)
  c2 : f 2 = .bool b
theorem Cur.cells {w : World} {q : Nat} {f : Nat → Value} {s : ByteArray} {a : Nat} {b : Bool} (h : Cur w q f s a b) :
    w.cell? ⟨q, 0, none⟩ = some (.string s) ∧ w.cell? ⟨q, 1, none⟩ = some (.int .i64 (a : Int)) ∧ w.cell? ⟨q, 2, none⟩ = some (.bool b) :=
  ⟨h.c0 ▸ h.row.cell (i := 0) (by omega), h.c1 ▸ h.row.cell (i := 1) (by omega), h.c2 ▸ h.row.cell (i := 2) (by omega)⟩
def isD (s : ByteArray) (a : Nat) : Bool := decide (a < s.size) && (decide (48 ≤ (s.get! a).toNat) && decide ((s.get! a).toNat ≤ 57))
theorem isDigit_any (w : World) (b : Nat) : Calls Tryz.prog 155 #[.int .u8 (b : Int)] w fun e w' => e = .returned (.bool (decide (48 ≤ b) && decide (b ≤ 57))) ∧ w = w' := by
  by_cases h1 : 48 ≤ b
  · have a1 : (48 : Int) ≤ (b : Int) := by omega
    by_cases h2 : b ≤ 57
    · have a2 : (b : Int) ≤ 57 := by omega
      rw [decide_eq_true h1, decide_eq_true h2]
      go_enter Tryz.func155, Tryz.ntmps155
      go_wp2
      go_ret
      exact ⟨rfl, rfl⟩
    · have a2 : decide ((b : Int) ≤ 57) = false := by simp; omega
      rw [decide_eq_true h1, decide_eq_false h2]
      go_enter Tryz.func155, Tryz.ntmps155
      go_wp2
      go_ret
      exact ⟨rfl, rfl⟩
  · have a1 : decide ((48 : Int) ≤ (b : Int)) = false := by simp; omega
    rw [decide_eq_false h1, Bool.false_and]
    go_enter Tryz.func155, Tryz.ntmps155
    go_wp2
    go_ret
    exact ⟨rfl, rfl⟩
def nx (s : ByteArray) (a : Nat) (b : Bool) : Nat := if b = true ∨ ¬ a < s.size then 0 else (s.get! a).toNat
set_option maxRecDepth 100000 in
set_option maxHeartbeats 1000000 in
theorem next_any (w : World) (q : Nat) (f : Nat → Value) (s : ByteArray) (a : Nat) (b : Bool) (h : Cur w q f s a b) (ha : a ≤ s.size) :
    Calls Tryz.prog 101 #[.pointer (some ⟨q, 0, none⟩)] w fun e w' => e = .returned (.int .u8 (nx s a b : Nat)) ∧ ∃ n, w' = w.drewN n := by
  obtain ⟨q0, q1, q2⟩ := h.cells
  clear h
  unfold nx
  cases b with
  | true =>
    rw [if_pos (.inl rfl)]
    go_enter Tryz.func101, Tryz.ntmps101
    go_wp2
    go_quiet (fail)
    go_wp2
    go_ret
    exact ⟨rfl, _, rfl⟩
  | false =>
    by_cases hl : a < s.size
    · rw [if_neg (by simp; exact hl)]
      obtain ⟨c, hc⟩ : ∃ c, s[a].toNat = c := ⟨_, rfl⟩
      rw [show (s.get! a).toNat = c by rw [← hc, get_get! s a hl]]
      have e1 : ((a : Int) == (s.size : Int)) = false := by simp; omega
      have e2 : (a : Int) < (s.size : Int) := by omega
      go_enter Tryz.func101, Tryz.ntmps101
      go_wp2
      go_quiet (fail)
      go_wp2
      go_quiet (fail)
      go_wp2
      go_ret
      exact ⟨rfl, _, by rw [World.drewN_drewN]⟩
    · rw [if_pos (.inr hl)]
      obtain rfl : a = s.size := by omega
      go_enter Tryz.func101, Tryz.ntmps101
      go_wp2
      go_quiet (fail)
      go_wp2
      go_ret
      exact ⟨rfl, _, rfl⟩
theorem nx_digit (s : ByteArray) (a : Nat) (b : Bool) : (decide (48 ≤ nx s a b) && decide (nx s a b ≤ 57)) = (!b && isD s a) := by
  unfold nx isD
  cases b with
  | true => simp
  | false =>
    by_cases h : a < s.size
    · simp [h]
    · simp [h]
set_option maxRecDepth 100000 in
theorem onDigit_any (w : World) (q : Nat) (f : Nat → Value) (s : ByteArray) (a : Nat) (b : Bool) (h : Cur w q f s a b) (ha : a ≤ s.size) :
    Calls Tryz.prog 131 #[.pointer (some ⟨q, 0, none⟩)] w fun e w' => e = .returned (.bool (!b && isD s a)) ∧ ∃ n, w' = w.drewN n := by
  have c := next_any w q f s a b h ha
  have c86 := fun W => isDigit_any W (nx s a b)
  rw [nx_digit] at c86
  generalize nx s a b = x at *
  go_enter Tryz.func131, Tryz.ntmps131
  go_wp2_with (first | (go_at_call 101; refine c.mono ?_; rintro e w' ⟨rfl, n, rfl⟩) | (go_at_call 155; refine (c86 _).mono ?_; rintro e w' ⟨rfl, rfl⟩))
  go_ret
  exact ⟨rfl, _, rfl⟩
end Go.Proofs.YtehgeninocbpeaaGreatDoor.Nu

namespace Go.Proofs.YtehgeninocbpeaaGreatDoor.Nu
open Go Go.Proofs Go.RowKit
def cnt (s : ByteArray) : Nat → Nat → Nat
  | _, 0 => 0
  | a, m + 1 => if isD s a = true then 1 + cnt s (a + 1) m else 0
theorem cnt_le (s : ByteArray) : ∀ m a, cnt s a m ≤ m
  | 0, _ => by simp [cnt]
  | m + 1, a => by
    rw [cnt]
    split
    · have := cnt_le s m (a + 1); omega
    · omega
theorem cnt_size (s : ByteArray) : ∀ m a, a ≤ s.size → a + cnt s a m ≤ s.size
  | 0, a, h => by simpa [cnt] using h
  | m + 1, a, h => by
    rw [cnt]
    split
    · rename_i hd
      have hl : a < s.size := by unfold isD at hd; simp at hd; exact hd.1
      have := cnt_size s m (a + 1) hl
      omega
    · omega
theorem grown_set {w w0 : World} {q : Nat} (h : w0.grownBy w (some q)) (i : Nat) (v : Value) : w0.grownBy (w.setCell ⟨q, i, none⟩ v) (some q) :=
  ⟨h.os, h.tape, h.output, by rw [World.size_setCell]; exact h.size, fun k hk hne => by
    rw [Below.heap_setCell w ⟨q, i, none⟩ v k (fun e => hne (by rw [e]))]
    exact h.block k hk hne⟩
theorem grown_drewN {w w0 : World} {q : Option Nat} (h : w0.grownBy w q) (n : Nat) : w0.grownBy (w.drewN n) q := ⟨h.os, h.tape, h.output, h.size, h.block⟩
theorem grown_refl (w : World) (q : Option Nat) : w.grownBy w q := ⟨rfl, rfl, rfl, Nat.le_refl _, fun _ _ _ => rfl⟩
def up (f : Nat → Value) (i : Nat) (v : Value) : Nat → Value := fun j => if j = i then v else f j
set_option maxRecDepth 100000 in
set_option maxHeartbeats 1000000 in
theorem digits_any (w : World) (q : Nat) (f : Nat → Value) (s : ByteArray) (a : Nat) (b : Bool) (h : Cur w q f s a b) (ha : a ≤ s.size) (hs : s.size ≤ 140737488351232) (least most : Nat) (hm : most ≤ 100) (hl : least ≤ 100) (c : Nat) (hc : c = if b = true then 0 else cnt s a most) :
    Calls Tryz.prog 100 #[.pointer (some ⟨q, 0, none⟩), .int .i64 (least : Int), .int .i64 (most : Int)] w fun e w' => ∃ f', e = .returned (.string (s.extract a (a + c))) ∧ Cur w' q f' s (a + c) (b || decide (c < least)) ∧ (∀ k, 3 ≤ k → f' k = f k) ∧ w.grownBy w' (some q) := by
  have hcs : a + c ≤ s.size := by
    rw [hc]
    cases b with
    | true => simpa using ha
    | false => exact cnt_size s most a ha
  have hcm : c ≤ most := by
    rw [hc]
    cases b with
    | true => simp
    | false => exact cnt_le s most a
  obtain ⟨q0, q1, q2⟩ := h.cells
  have HC0 : Hid (Cur w q f s a b) := h
  have HE0 : Hid (0 + (if b = true then 0 else cnt s (a + 0) (most - 0)) = c) := by show _ = _; rw [hc, Nat.zero_add]; rfl
  clear h hc
  go_enter Tryz.func100, Tryz.ntmps100
  go_wp2
  clear q0 q1 q2
  go_loopg [] most (fun g wx => ∃ (j p : Nat) (fj : Nat → Value), g + j = most ∧ Hid (a + j = p) ∧ p ≤ s.size ∧ a ≤ p ∧ Hid (Cur wx q fj s p b) ∧ Hid (∀ k, 3 ≤ k → fj k = f k) ∧ Hid (j + (if b = true then 0 else cnt s p (most - j)) = c) ∧ Hid (w.grownBy wx (some q)))
  case atStart => exact ⟨0, a, f, by omega, rfl, by omega, by omega, HC0, fun _ _ => rfl, HE0, grown_refl _ _⟩
  case round =>
    clear HC0 HE0
    obtain ⟨j, p, fj, hg, HP, haj, hap, HC, HF, HE, HG⟩ := hrel
    obtain ⟨q0, q1, q2⟩ := HC.out.cells
    have qf : ∀ i, wr.frozen? ⟨q, i, none⟩ = false := fun i => HC.out.row.frozen i
    have hsub : (p : Int) - (a : Int) = (j : Int) := by have := HP.out; omega
    have c72 := onDigit_any wr q fj s p b HC.out haj
    have hp63 : (p : Int) + 1 < 9223372036854775807 := by omega
    by_cases hj : j < most
    · have hjI : (j : Int) < (most : Int) := by omega
      cases hd : (!b && isD s p) with
      | true =>
        rw [hd] at c72
        have hb : b = false := by cases b with | true => simp at hd | false => rfl
        subst hb
        have hd' : isD s p = true := by simpa using hd
        have hlt : p < s.size := by unfold isD at hd'; simp at hd'; exact hd'.1
        have HE2 : Hid (j + 1 + (if false = true then 0 else cnt s (p + 1) (most - (j + 1))) = c) := by
          have h1 := HE.out
          show _ = _
          rw [if_neg (by decide)] at h1 ⊢
          obtain ⟨r, hr⟩ : ∃ r, most - j = r + 1 := ⟨most - j - 1, by omega⟩
          rw [hr, cnt, if_pos hd'] at h1
          rw [show most - (j + 1) = r by omega]
          omega
        have HC2 : Hid (Cur (wr.setCell ⟨q, 1, none⟩ (.int .i64 ((p : Int) + 1))) q (up fj 1 (.int .i64 ((p : Int) + 1))) s (p + 1) false) := by
          refine ⟨HC.out.row.set 1 _, ?_, rfl, ?_⟩
          · show (if (0 : Nat) = 1 then _ else _) = _; rw [if_neg (by omega)]; exact HC.out.c0
          · show (if (2 : Nat) = 1 then _ else _) = _; rw [if_neg (by omega)]; exact HC.out.c2
        have HF2 : Hid (∀ k, 3 ≤ k → up fj 1 (.int .i64 ((p : Int) + 1)) k = f k) := fun k hk => by
          show (if k = 1 then _ else _) = _
          rw [if_neg (by omega)]
          exact HF.out k hk
        clear hd hd' HE HF
        go_wp2_with (go_at_call 131; refine c72.mono ?_; rintro e w' ⟨rfl, n, rfl⟩)
        go_roundg (most - (j + 1))
        case measure => omega
        case rel => exact ⟨j + 1, p + 1, up fj 1 (.int .i64 ((p : Int) + 1)), by omega, by show _ = _; rw [← HP.out]; omega, by omega, by omega, ⟨HC2.out.row, HC2.out.c0, HC2.out.c1, HC2.out.c2⟩, HF2, HE2, grown_set (grown_drewN HG.out n) 1 _⟩
      | false =>
        rw [hd] at c72
        have hjc : j = c := by
          have h1 := HE.out
          cases b with
          | true => simpa using h1
          | false =>
            rw [if_neg (by decide)] at h1
            obtain ⟨r, hr⟩ : ∃ r, most - j = r + 1 := ⟨most - j - 1, by omega⟩
            have hd' : isD s p = false := by simpa using hd
            rw [hr, cnt, if_neg (by rw [hd']; decide)] at h1
            omega
        subst hjc
        clear hd HE
        by_cases hle : j < least
        · have hleI : (j : Int) < (least : Int) := by omega
          have hpI : (a : Int) ≤ (p : Int) := by omega
          have hpI2 : (p : Int) ≤ (s.size : Int) := by omega
          have HC2 : Hid (Cur (wr.setCell ⟨q, 2, none⟩ (.bool true)) q (up fj 2 (.bool true)) s (a + j) (b || decide (j < least))) := by
            refine ⟨HC.out.row.set 2 _, ?_, ?_, ?_⟩
            · show (if (0 : Nat) = 2 then _ else _) = _; rw [if_neg (by omega)]; exact HC.out.c0
            · show (if (1 : Nat) = 2 then _ else _) = _; rw [if_neg (by omega), HP.out]; exact HC.out.c1
            · show _ = _; rw [decide_eq_true hle, Bool.or_true]; rfl
          have HF2 : Hid (∀ k, 3 ≤ k → up fj 2 (.bool true) k = f k) := fun k hk => by
            show (if k = 2 then _ else _) = _
            rw [if_neg (by omega)]
            exact HF.out k hk
          clear HF
          go_wp2_with (first | (go_at_call 131; refine c72.mono ?_; rintro e w' ⟨rfl, n, rfl⟩) | fail)
          go_quiet (fail)
          go_wp2
          go_ret
          exact ⟨up fj 2 (.bool true), by rw [HP.out]; rfl, ⟨HC2.out.row, HC2.out.c0, HC2.out.c1, HC2.out.c2⟩, HF2.out, grown_drewN (grown_set (grown_drewN HG.out n) 2 _) _⟩
        · have hleI : ¬ ((j : Int) < (least : Int)) := by omega
          have hpI : (a : Int) ≤ (p : Int) := by omega
          have hpI2 : (p : Int) ≤ (s.size : Int) := by omega
          have HC2 : Hid (Cur wr q fj s (a + j) (b || decide (j < least))) := by
            refine ⟨HC.out.row, HC.out.c0, by rw [HP.out]; exact HC.out.c1, ?_⟩
            rw [decide_eq_false hle, Bool.or_false]; exact HC.out.c2
          clear HC
          go_wp2_with (first | (go_at_call 131; refine c72.mono ?_; rintro e w' ⟨rfl, n, rfl⟩) | fail)
          go_quiet (fail)
          go_wp2
          go_ret
          exact ⟨fj, by rw [HP.out]; rfl, ⟨HC2.out.row, HC2.out.c0, HC2.out.c1, HC2.out.c2⟩, HF.out, grown_drewN (grown_drewN HG.out n) _⟩
    · have hjI : ¬ ((j : Int) < (most : Int)) := by omega
      have hjm : j = most := by omega
      have hjc : j = c := by
        have h1 := HE.out
        rw [show most - j = 0 by omega, cnt] at h1
        cases b with
        | true => simpa using h1
        | false => simpa using h1
      subst hjc
      clear HE c72 hjm
      by_cases hle : j < least
      · have hleI : (j : Int) < (least : Int) := by omega
        have hpI : (a : Int) ≤ (p : Int) := by omega
        have hpI2 : (p : Int) ≤ (s.size : Int) := by omega
        have HC2 : Hid (Cur (wr.setCell ⟨q, 2, none⟩ (.bool true)) q (up fj 2 (.bool true)) s (a + j) (b || decide (j < least))) := by
          refine ⟨HC.out.row.set 2 _, ?_, ?_, ?_⟩
          · show (if (0 : Nat) = 2 then _ else _) = _; rw [if_neg (by omega)]; exact HC.out.c0
          · show (if (1 : Nat) = 2 then _ else _) = _; rw [if_neg (by omega), HP.out]; exact HC.out.c1
          · show _ = _; rw [decide_eq_true hle, Bool.or_true]; rfl
        have HF2 : Hid (∀ k, 3 ≤ k → up fj 2 (.bool true) k = f k) := fun k hk => by
          show (if k = 2 then _ else _) = _
          rw [if_neg (by omega)]
          exact HF.out k hk
        clear HF
        go_wp2_with (first | fail | fail)
        go_quiet (fail)
        go_wp2
        go_ret
        exact ⟨up fj 2 (.bool true), by rw [HP.out]; rfl, ⟨HC2.out.row, HC2.out.c0, HC2.out.c1, HC2.out.c2⟩, HF2.out, grown_drewN (grown_set HG.out 2 _) _⟩
      · have hleI : ¬ ((j : Int) < (least : Int)) := by omega
        have hpI : (a : Int) ≤ (p : Int) := by omega
        have hpI2 : (p : Int) ≤ (s.size : Int) := by omega
        have HC2 : Hid (Cur wr q fj s (a + j) (b || decide (j < least))) := by
          refine ⟨HC.out.row, HC.out.c0, by rw [HP.out]; exact HC.out.c1, ?_⟩
          rw [decide_eq_false hle, Bool.or_false]; exact HC.out.c2
        clear HC
        go_wp2_with (first | fail | fail)
        go_quiet (fail)
        go_wp2
        go_ret
        exact ⟨fj, by rw [HP.out]; rfl, ⟨HC2.out.row, HC2.out.c0, HC2.out.c1, HC2.out.c2⟩, HF.out, grown_drewN HG.out _⟩
end Go.Proofs.YtehgeninocbpeaaGreatDoor.Nu
