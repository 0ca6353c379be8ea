import Derived.Test.YtgdemlebohlolaaGreatDoorKb
import Derived.Test.YtgdemlebohlolaaGreatDoorMi
import Derived.Test.YtgdemlebohlolaaGreatDoorQRb
import Derived.Test.YtgdemlebohlolaaGreatDoorQTm
/-
  DERIVED. A step's texts: days, times, plain texts, of both.
-/
namespace Go.Proofs.YtgdemlebohlolaaGreatDoor.Ck
open Go Go.Proofs Go.RowKit

/-- A text with a backslash. -/
def hasB (s : ByteArray) : Bool := decide (0 ≤ Lib.indexByte s.data.toList 92)
theorem contains_b (w : World) (s : ByteArray) : Calls Tryz.prog 17 #[.string s, .string { data := #[92] }] w fun e w' => e = .returned (.bool (hasB s)) ∧ w' = w :=
  Any.strings_Contains_one ctLays144 s 92 w
def hsG (s : ByteArray) : Nat → Nat → Bool
  | 0, _ => false
  | f + 1, i => if i < s.size then (if (s.get! i).toNat = 92 then true else hsG s f (i + 1)) else false
theorem hs_any (s : ByteArray) : ∀ f i, s.size ≤ i + f → hsG s f i = (s.data.toList.drop i).any (· == 92)
  | 0, i, h => by rw [hsG, List.drop_eq_nil_of_le (by rw [Array.length_toList]; exact h)]; rfl
  | f + 1, i, h => by
    rw [hsG]
    by_cases hi : i < s.size
    · rw [if_pos hi, drop_at s i hi, List.any_cons]
      by_cases hb : (s.get! i).toNat = 92
      · have hb' : s.get! i = 92 := UInt8.toNat_inj.1 hb
        rw [if_pos hb, hb']; rfl
      · have hb' : (s.get! i == 92) = false := beq_eq_false_iff_ne.2 fun x => hb (by rw [x]; rfl)
        rw [if_neg hb, hb', Bool.false_or, hs_any s f (i + 1) (by omega)]
    · rw [if_neg hi, List.drop_eq_nil_of_le (by rw [Array.length_toList]; exact Nat.le_of_not_lt hi)]; rfl
theorem hs_has (s : ByteArray) : hsG s s.size 0 = hasB s := by
  rw [hs_any s s.size 0 (by omega), List.drop_zero]
  unfold hasB
  rw [indexByte_some]
/-- A text that every side can print. -/
def plG (s : ByteArray) : Nat → Nat → Bool
  | 0, _ => true
  | f + 1, i => if i < s.size then (if (s.get! i).toNat < 32 ∨ 126 < (s.get! i).toNat then false else plG s f (i + 1)) else true
set_option maxRecDepth 100000 in
set_option maxHeartbeats 4000000 in
theorem isPlain_any (w : World) (s : ByteArray) (hs : s.size ≤ 140737488351232) : Calls Tryz.prog 36 #[.string s] w fun e w' => e = .returned (.bool (plG s s.size 0)) ∧ w = w' := by
  obtain ⟨R, hR⟩ : ∃ R, plG s s.size 0 = R := ⟨_, rfl⟩
  have HR : Hid (plG s s.size 0 = R) := hR
  rw [hR]
  clear hR
  go_enter Tryz.func36, Tryz.ntmps36
  go_wp2
  go_loopg [6] s.size (fun k s6 wx => ∃ i f : Nat, s6 = .int .i64 (i : Int) ∧ i ≤ s.size ∧ k + i = s.size ∧ s.size ≤ i + f ∧ Hid (plG s f i = R) ∧ wx = w)
  case atStart => exact ⟨0, s.size, rfl, by omega, by omega, by omega, HR, rfl⟩
  case round =>
    clear HR
    obtain ⟨i, f, rfl, hi, hg, hf, HI, rfl⟩ := hrel
    by_cases hlt : i < s.size
    · have iI : (i : Int) < (s.size : Int) := by omega
      obtain ⟨b, hb⟩ : ∃ b, s[i].toNat = b := ⟨_, rfl⟩
      have hgb : (s.get! i).toNat = b := by rw [← get_get! s i hlt, hb]
      obtain ⟨f, rfl⟩ : ∃ f', f = f' + 1 := ⟨f - 1, by omega⟩
      have HI2 : Hid ((if b < 32 ∨ 126 < b then false else plG s f (i + 1)) = R) := by
        have := HI.out
        rw [plG, if_pos hlt, hgb] at this
        exact this
      clear HI hgb
      by_cases h1 : b < 32
      · have i1 : (b : Int) < 32 := by omega
        obtain rfl : R = false := by have := HI2.out; rw [if_pos (.inl h1)] at this; exact this.symm
        clear HI2
        go_wp2
        go_ret
        exact ⟨rfl, rfl⟩
      · have i1 : ¬ ((b : Int) < 32) := by omega
        by_cases h2 : 126 < b
        · have i2 : (b : Int) > 126 := by omega
          obtain rfl : R = false := by have := HI2.out; rw [if_pos (.inr h2)] at this; exact this.symm
          clear HI2
          go_wp2
          go_ret
          exact ⟨rfl, rfl⟩
        · have i2 : ¬ ((b : Int) > 126) := by omega
          have HI3 : Hid (plG s f (i + 1) = R) := by have := HI2.out; rw [if_neg (by omega)] at this; exact this
          clear HI2
          go_wp2
          go_roundg (s.size - (i + 1))
          case measure => omega
          case rel => exact ⟨i + 1, f, by simp, by omega, by omega, by omega, HI3, rfl⟩
    · have iI : ¬ ((i : Int) < (s.size : Int)) := by omega
      obtain rfl : R = true := by
        have := HI.out
        cases f with
        | zero => exact this.symm
        | succ f => rw [plG, if_neg hlt] at this; exact this.symm
      clear HI
      go_wp2
      go_ret
      exact ⟨rfl, rfl⟩
set_option maxRecDepth 100000 in
set_option maxHeartbeats 4000000 in
theorem rplain_any (w : World) (s : ByteArray) (hs : s.size ≤ 140737488351232) : Calls Tryz.prog 25 #[.string s] w fun e w' => e = .returned (.bool (plG s s.size 0)) ∧ w = w' := by
  obtain ⟨R, hR⟩ : ∃ R, plG s s.size 0 = R := ⟨_, rfl⟩
  have HR : Hid (plG s s.size 0 = R) := hR
  rw [hR]
  clear hR
  go_enter Tryz.func25, Tryz.ntmps25
  go_wp2
  go_loopg [3] s.size (fun k s6 wx => ∃ i f : Nat, s6 = .int .i64 (i : Int) ∧ i ≤ s.size ∧ k + i = s.size ∧ s.size ≤ i + f ∧ Hid (plG s f i = R) ∧ wx = w)
  case atStart => exact ⟨0, s.size, rfl, by omega, by omega, by omega, HR, rfl⟩
  case round =>
    clear HR
    obtain ⟨i, f, rfl, hi, hg, hf, HI, rfl⟩ := hrel
    by_cases hlt : i < s.size
    · have iI : (i : Int) < (s.size : Int) := by omega
      obtain ⟨b, hb⟩ : ∃ b, s[i].toNat = b := ⟨_, rfl⟩
      have hgb : (s.get! i).toNat = b := by rw [← get_get! s i hlt, hb]
      obtain ⟨f, rfl⟩ : ∃ f', f = f' + 1 := ⟨f - 1, by omega⟩
      have HI2 : Hid ((if b < 32 ∨ 126 < b then false else plG s f (i + 1)) = R) := by
        have := HI.out
        rw [plG, if_pos hlt, hgb] at this
        exact this
      clear HI hgb
      by_cases h1 : b < 32
      · have i1 : (b : Int) < 32 := by omega
        obtain rfl : R = false := by have := HI2.out; rw [if_pos (.inl h1)] at this; exact this.symm
        clear HI2
        go_wp2
        go_ret
        exact ⟨rfl, rfl⟩
      · have i1 : ¬ ((b : Int) < 32) := by omega
        by_cases h2 : 126 < b
        · have i2 : (b : Int) > 126 := by omega
          obtain rfl : R = false := by have := HI2.out; rw [if_pos (.inr h2)] at this; exact this.symm
          clear HI2
          go_wp2
          go_ret
          exact ⟨rfl, rfl⟩
        · have i2 : ¬ ((b : Int) > 126) := by omega
          have HI3 : Hid (plG s f (i + 1) = R) := by have := HI2.out; rw [if_neg (by omega)] at this; exact this
          clear HI2
          go_wp2
          go_roundg (s.size - (i + 1))
          case measure => omega
          case rel => exact ⟨i + 1, f, by simp, by omega, by omega, by omega, HI3, rfl⟩
    · have iI : ¬ ((i : Int) < (s.size : Int)) := by omega
      obtain rfl : R = true := by
        have := HI.out
        cases f with
        | zero => exact this.symm
        | succ f => rw [plG, if_neg hlt] at this; exact this.symm
      clear HI
      go_wp2
      go_ret
      exact ⟨rfl, rfl⟩
/-- A day, a time of day. -/
def dyB (s : ByteArray) : Bool := (Tm.oP s).isNone
def tiB (s : ByteArray) : Bool := (Tm.rdO s (Tm.timeS s)).isNone
/-- What a reader says: an error, or none. -/
def ErV (b : Bool) (v : Value) : Prop := (b = true ∧ v = .nilIface) ∨ (b = false ∧ ∃ q, v = .iface 44 (.pointer (some ⟨q, 0, none⟩)))
theorem er_of {w : World} {v : Value} {o : Option (Int × Int)} (h : Tm.PErr w v o) : ErV o.isNone v := by
  cases o with
  | none => exact .inl ⟨rfl, h⟩
  | some x => obtain ⟨q, hq, _⟩ := h; exact .inr ⟨rfl, q, hq⟩
def FlV (b : Bool) (v : Value) : Prop := (b = true ∧ v = .agg #[.slice none 0 0, .int .i64 0]) ∨ (b = false ∧ ∃ g k c, v = .agg #[.slice (some ⟨g, 0, none⟩) 1 k, .int .i64 c])
theorem fl_of {w : World} {v : Value} {o : Option (Int × Int)} (h : Tm.RErr w v o) : FlV o.isNone v := by
  cases o with
  | none => exact .inl ⟨rfl, h⟩
  | some x => obtain ⟨g, k, hq, _⟩ := h; exact .inr ⟨rfl, g, k, _, hq⟩
theorem ErV.shape {b : Bool} {v : Value} (h : ErV b v) : v = .nilIface ∨ ∃ q, v = .iface 44 (.pointer (some ⟨q, 0, none⟩)) := by
  rcases h with ⟨_, h⟩ | ⟨_, h⟩
  · exact .inl h
  · exact .inr h
set_option maxRecDepth 100000 in
set_option maxHeartbeats 4000000 in
theorem parseDate_any (w : World) (s : ByteArray) (hs : s.size ≤ 140737488351232) (hT : Tm.Mt w) : Calls Tryz.prog 54 #[.string s] w fun e w' => ∃ x0 x1 x2 v, e = .returned (.tuple #[.agg #[.int .i64 x0, .int .i64 x1, .int .i64 x2], v]) ∧ ErV (dyB s) v ∧ Below w.heap.size w w' := by
  have HB0 : Hid (Below w.heap.size w (w.alloc (.cells #[.int .i64 0, .int .i64 0, .int .i64 0] 59))) := (Below.refl _ _).alloc (Nat.le_refl _) _
  have c := Tm.readDA_at (w.alloc (.cells #[.int .i64 0, .int .i64 0, .int .i64 0] 59)) s hs 0 (Nat.zero_le _) (hT.on HB0.out)
  rw [(Tm.date_is s).1] at c
  obtain ⟨FS, hFS⟩ : ∃ FS, Tm.rdM s (Tm.dateF s 0) = FS := ⟨_, rfl⟩
  rw [hFS] at c
  unfold Tm.mo11 at c
  clear hT hFS
  go_enter Tryz.func54, Tryz.ntmps54
  go_wp2_with (go_at_call 84; refine Stop.mk ?_)
  refine Stop.out (c.mono ?_)
  rintro e W1 ⟨v, rfl, hv, hb1⟩
  have HV : Hid (ErV (dyB s) v) := er_of hv
  have HB1 : Hid (Below w.heap.size w W1) := HB0.out.trans (hb1.mono HB0.out.size)
  have r0 : W1.cell? ⟨w.heap.size, 0, none⟩ = some (.int .i64 0) := (hb1.cell (by simp)).trans (by simp)
  have r1 : W1.cell? ⟨w.heap.size, 1, none⟩ = some (.int .i64 0) := (hb1.cell (by simp)).trans (by simp)
  have r2 : W1.cell? ⟨w.heap.size, 2, none⟩ = some (.int .i64 0) := (hb1.cell (by simp)).trans (by simp)
  have rf : ∀ j, W1.frozen? ⟨w.heap.size, j, none⟩ = false := fun j => (World.frozen?_of_block (a := ⟨w.heap.size, j, none⟩) (hb1.block _ (by simp))).trans (by simp)
  have hlt : w.heap.size < W1.heap.size := Nat.lt_of_lt_of_le (by simp) hb1.size
  clear c hv hb1 HB0
  go_wp2
  refine bodyPost_ret (v := .tuple #[.agg #[.int .i64 (FS.y : Int), .int .i64 (FS.m : Int), .int .i64 (FS.d : Int)], v]) (by simp [results, Tryz.results54, go_sem, r0, r1, r2, hlt]) rfl ⟨_, _, _, v, rfl, HV.out, (((HB1.out.setCell (p := ⟨w.heap.size, 0, none⟩) (Nat.le_refl _) _).setCell (p := ⟨w.heap.size, 1, none⟩) (Nat.le_refl _) _).setCell (p := ⟨w.heap.size, 2, none⟩) (Nat.le_refl _) _).alloc (by simp; omega) _⟩
set_option maxRecDepth 100000 in
set_option maxHeartbeats 4000000 in
theorem parseTime_any (w : World) (s : ByteArray) (hs : s.size ≤ 140737488351232) (hT : Tm.Mt w) : Calls Tryz.prog 55 #[.string s] w fun e w' => ∃ x0 x1 x2 x3 x4 v, e = .returned (.tuple #[.agg #[.int .i64 x0, .int .i64 x1, .int .i64 x2, .int .i64 x3, .int .i64 x4], v]) ∧ ErV (tiB s) v ∧ Below w.heap.size w w' := by
  have HB0 : Hid (Below w.heap.size w (w.alloc (.cells #[.int .i64 0, .int .i64 0, .int .i64 0, .int .i64 0, .int .i64 0] 63))) := (Below.refl _ _).alloc (Nat.le_refl _) _
  have c := Tm.readTM (w.alloc (.cells #[.int .i64 0, .int .i64 0, .int .i64 0, .int .i64 0, .int .i64 0] 63)) s hs (hT.on HB0.out)
  obtain ⟨FS, hFS⟩ : ∃ FS, Tm.rdM s (Tm.timeS s) = FS := ⟨_, rfl⟩
  rw [hFS] at c
  unfold Tm.mo11 at c
  clear hT hFS
  go_enter Tryz.func55, Tryz.ntmps55
  go_wp2_with (go_at_call 84; refine Stop.mk ?_)
  refine Stop.out (c.mono ?_)
  rintro e W1 ⟨v, rfl, hv, hb1⟩
  have HV : Hid (ErV (tiB s) v) := er_of hv
  have HB1 : Hid (Below w.heap.size w W1) := HB0.out.trans (hb1.mono HB0.out.size)
  have r0 : W1.cell? ⟨w.heap.size, 0, none⟩ = some (.int .i64 0) := (hb1.cell (by simp)).trans (by simp)
  have r1 : W1.cell? ⟨w.heap.size, 1, none⟩ = some (.int .i64 0) := (hb1.cell (by simp)).trans (by simp)
  have r2 : W1.cell? ⟨w.heap.size, 2, none⟩ = some (.int .i64 0) := (hb1.cell (by simp)).trans (by simp)
  have r3 : W1.cell? ⟨w.heap.size, 3, none⟩ = some (.int .i64 0) := (hb1.cell (by simp)).trans (by simp)
  have r4 : W1.cell? ⟨w.heap.size, 4, none⟩ = some (.int .i64 0) := (hb1.cell (by simp)).trans (by simp)
  have rf : ∀ j, W1.frozen? ⟨w.heap.size, j, none⟩ = false := fun j => (World.frozen?_of_block (a := ⟨w.heap.size, j, none⟩) (hb1.block _ (by simp))).trans (by simp)
  have hlt : w.heap.size < W1.heap.size := Nat.lt_of_lt_of_le (by simp) hb1.size
  clear c hv hb1 HB0
  go_wp2
  refine bodyPost_ret (v := .tuple #[.agg #[.int .i64 (FS.h : Int), .int .i64 (FS.mi : Int), .int .i64 (FS.sc : Int), .int .i64 (FS.mc : Int), .int .i64 (FS.p : Int)], v]) (by simp [results, Tryz.results55, go_sem, r0, r1, r2, r3, r4, hlt]) rfl ⟨_, _, _, _, _, v, rfl, HV.out, (((((HB1.out.setCell (p := ⟨w.heap.size, 0, none⟩) (Nat.le_refl _) _).setCell (p := ⟨w.heap.size, 1, none⟩) (Nat.le_refl _) _).setCell (p := ⟨w.heap.size, 2, none⟩) (Nat.le_refl _) _).setCell (p := ⟨w.heap.size, 3, none⟩) (Nat.le_refl _) _).setCell (p := ⟨w.heap.size, 4, none⟩) (Nat.le_refl _) _).alloc (by simp; omega) _⟩
set_option maxRecDepth 100000 in
set_option maxHeartbeats 4000000 in
theorem isDay_any (w : World) (s : ByteArray) (hs : s.size ≤ 140737488351232) (hT : Tm.Mt w) : Calls Tryz.prog 37 #[.string s] w fun e w' => e = .returned (.bool (dyB s)) ∧ Below w.heap.size w w' := by
  have c := parseDate_any w s hs hT
  generalize dyB s = B at *
  clear hT
  go_enter Tryz.func37, Tryz.ntmps37
  go_wp2_with (go_at_call 54; refine Stop.mk ?_)
  refine Stop.out (c.mono ?_)
  rintro e W1 ⟨x0, x1, x2, v, rfl, hv, hb⟩
  have hb2 := hb.alloc hb.size (.cells #[.int .i64 x0, .int .i64 x1, .int .i64 x2] 59)
  rcases hv with ⟨rfl, rfl⟩ | ⟨rfl, q, rfl⟩
  · go_wp2
    go_ret
    exact ⟨rfl, hb2⟩
  · go_wp2
    go_ret
    exact ⟨rfl, hb2⟩
set_option maxRecDepth 100000 in
set_option maxHeartbeats 4000000 in
theorem isSecond_any (w : World) (s : ByteArray) (hs : s.size ≤ 140737488351232) (hT : Tm.Mt w) : Calls Tryz.prog 38 #[.string s] w fun e w' => e = .returned (.bool (tiB s && ((s.size : Int) == 6))) ∧ Below w.heap.size w w' := by
  have c := parseTime_any w s hs hT
  generalize tiB s = B at *
  clear hT
  go_enter Tryz.func38, Tryz.ntmps38
  go_wp2_with (go_at_call 55; refine Stop.mk ?_)
  refine Stop.out (c.mono ?_)
  rintro e W1 ⟨x0, x1, x2, x3, x4, v, rfl, hv, hb⟩
  have hb2 := hb.alloc hb.size (.cells #[.int .i64 x0, .int .i64 x1, .int .i64 x2, .int .i64 x3, .int .i64 x4] 63)
  rcases hv with ⟨rfl, rfl⟩ | ⟨rfl, q, rfl⟩
  · go_wp2
    go_ret
    exact ⟨rfl, hb2⟩
  · go_wp2
    go_ret
    exact ⟨rfl, hb2⟩
end Go.Proofs.YtgdemlebohlolaaGreatDoor.Ck
