import Derived.Test.YtohojghndnfgdaaGreatDoorQK
import Derived.Deep.Cut
/-
  DERIVED. A day's text, read from end to end.
-/
namespace Go.Proofs.YtohojghndnfgdaaGreatDoor.Tm
open Go Go.Proofs Go.RowKit

def mo (y m d p : Int) : Value := .agg #[.int .i64 y, .int .i64 m, .int .i64 d, .int .i64 p, .int .i64 0, .int .i64 0, .int .i64 0, .int .i64 0, .int .i64 0, .bool false, .int .i64 0]
def PostR (w : World) (M : Value) (o : Option (Int × Int)) (e : Ending) (w' : World) : Prop := ∃ v, e = .returned (.tuple #[M, v]) ∧ PErr w' v o ∧ Below w.heap.size w w'

def ck0 (s : ByteArray) : Nat → Value := fun k => #[Value.string s, .int .i64 0, .bool false, .nilIface, .int .i64 1, .int .i64 1, .int .i64 1, .int .i64 3, .int .i64 0, .int .i64 0, .int .i64 0, .int .i64 0, .int .i64 0, .bool false, .int .i64 0].getD k undef
def zm0 : Nat → Value := fun k => #[Value.int .i64 0, .int .i64 0, .int .i64 0, .int .i64 0, .int .i64 0, .int .i64 0, .int .i64 0, .int .i64 0, .int .i64 0, .bool false, .int .i64 0].getD k undef

/-- How far each piece goes. -/
def k1 (s : ByteArray) : Nat := cnt s 0 4
def k2 (s : ByteArray) : Nat := if decide (k1 s < 4) = true then 0 else cnt s (k1 s) 2
def b2 (s : ByteArray) : Bool := decide (k1 s < 4) || decide (k2 s < 2)
def k3 (s : ByteArray) : Nat := if b2 s = true then 0 else cnt s (k1 s + k2 s) 2
def b3 (s : ByteArray) : Bool := b2 s || decide (k3 s < 2)
def yy (s : ByteArray) : Nat := nv s 0 (k1 s)
def mm (s : ByteArray) : Nat := nv s (k1 s) (k2 s)
def dd (s : ByteArray) : Nat := nv s (k1 s + k2 s) (k3 s)
def o1 (s : ByteArray) : Option (Int × Int) := nextD none (decide ((yy s : Int) < 1) || decide (9999 < (yy s : Int))) 0
def o2 (s : ByteArray) : Option (Int × Int) := nextD (o1 s) (decide ((mm s : Int) < 1) || decide (12 < (mm s : Int))) (k1 s)
def o3 (s : ByteArray) : Option (Int × Int) := nextD (o2 s) (decide ((dd s : Int) < 1) || decide ((md (yy s) (mm s) : Int) < (dd s : Int))) (k1 s + k2 s)
def oe (s : ByteArray) : Option (Int × Int) := if b3 s = true ∨ k1 s + k2 s + k3 s < s.size then some (((k1 s + k2 s + k3 s : Nat) : Int), 100) else none

theorem k2_size (s : ByteArray) : k1 s + k2 s ≤ s.size ∧ k1 s ≤ s.size ∧ k1 s + k2 s + k3 s ≤ s.size := by
  have h1 : k1 s ≤ s.size := by have := cnt_size s 4 0 (by omega); unfold k1; omega
  have h2 : k1 s + k2 s ≤ s.size := by
    unfold k2
    split
    · omega
    · exact cnt_size s 2 (k1 s) h1
  refine ⟨h2, h1, ?_⟩
  unfold k3
  split
  · omega
  · exact cnt_size s 2 _ h2

theorem row_lit (c : Array Value) : ∀ i, i < c.size → c[i]? = some (c.getD i undef) := fun i hi => by simp [Array.getD, hi]
theorem row_kept {w w' : World} {q r : Nat} {t : TypeId} {n : Nat} {f : Nat → Value} (h : w.rowIs r t n f) (hg : w.grownBy w' (some q)) (hne : r ≠ q) : w'.rowIs r t n f :=
  h.of_block (hg.block r h.lt (by simpa using hne))

set_option maxRecDepth 100000 in
set_option maxHeartbeats 2000000 in
theorem read_any (w : World) (s : ByteArray) (hs : s.size ≤ 140737488351232) (hT : Mt w) (o : Option (Int × Int)) (ho : (oe s).or (o3 s) = o) (M : Value) (hM : (o = none ∧ M = mo (yy s) (mm s) (dd s) 3) ∨ (o ≠ none ∧ M = mo 0 0 0 0)) :
    Calls Tryz.prog 13 #[.int .i64 5, .string s, .int .i64 0] w (PostR w M o) := by
  obtain ⟨r, hr⟩ : ∃ r, w.heap.size = r := ⟨_, rfl⟩
  have hr2 : 1 < r := by
    have h := World.block_lt_of_cell? w ⟨1, 0, none⟩ (hT.p 0 (by omega))
    rw [hr] at h
    exact h
  obtain ⟨W0, hW0⟩ : ∃ W0, w.alloc (.cells #[.int .i64 0, .int .i64 0, .int .i64 0, .int .i64 0, .int .i64 0, .int .i64 0, .int .i64 0, .int .i64 0, .int .i64 0, .bool false, .int .i64 0] 35) = W0 := ⟨_, rfl⟩
  obtain ⟨W1, hW1⟩ : ∃ W1, W0.alloc (.cells #[.string s, .int .i64 0, .bool false, .nilIface, .int .i64 1, .int .i64 1, .int .i64 1, .int .i64 3, .int .i64 0, .int .i64 0, .int .i64 0, .int .i64 0, .int .i64 0, .bool false, .int .i64 0] 75) = W1 := ⟨_, rfl⟩
  have hs0 : W0.heap.size = r + 1 := by rw [← hW0, ← hr]; simp
  have hbel : Below r w W1 := by
    rw [← hW1, ← hW0, ← hr]
    exact ((Below.refl _ _).alloc (Nat.le_refl _) _).alloc (by simp) _
  have hz1 : W1.rowIs r 35 11 zm0 := by
    rw [← hW1]
    refine World.rowIs.alloc ?_ _
    rw [← hW0, ← hr]
    exact World.rowIs_alloc w _ 35 _ (row_lit _)
  have hc1 : Cur W1 (r + 1) (ck0 s) s 0 false := by
    refine ⟨?_, rfl, rfl, rfl⟩
    rw [← hW1, ← hs0]
    exact World.rowIs_alloc W0 _ 75 _ (row_lit _)
  have hd1 : Dbt W1 (r + 1) (ck0 s 3) none := ⟨rfl, fun p hp => by cases hp⟩
  have hT1 : Mt W1 := hT.on (hr ▸ hbel)
  obtain ⟨hk2s, hk1s, hk3s⟩ := k2_size s
  have c54 := year_any W1 (r + 1) (ck0 s) s 0 false none hc1 hd1 (by omega) hs (k1 s) rfl
  have HZ1 : Hid (W1.rowIs r 35 11 zm0) := hz1
  have HB1 : Hid (Below r w W1) := hbel
  have HT1 : Hid (Mt W1) := hT1
  rw [show 0 + k1 s = k1 s by omega, Bool.false_or] at c54
  have HW0 : Hid _ := hW0
  have HW1 : Hid _ := hW1
  have HO : Hid ((oe s).or (o3 s) = o) := ho
  have HM : Hid ((o = none ∧ M = mo (yy s) (mm s) (dd s) 3) ∨ (o ≠ none ∧ M = mo 0 0 0 0)) := hM
  clear hz1 hbel hc1 hd1 hT1 hT hs0 hW0 hW1 ho hM
  go_enter Tryz.func13, Tryz.ntmps13
  go_wp2_with (go_at_call 29; refine Stop.mk ?_)
  rw [HW0.out, HW1.out]
  refine Stop.out (c54.mono ?_)
  rintro e W2 ⟨f2, v2, rfl, hc2, hf2, hy2, hp2, hd2, hg2⟩
  have hd2' : Dbt W2 (r + 1) (f2 3) (o1 s) := hd2
  have c55 : Calls Tryz.prog 30 #[.pointer (some ⟨r + 1, 0, none⟩)] W2 (PostY W2 (r + 1) f2 s (k1 s + k2 s) (b2 s) (o2 s) 5 (mm s : Nat) 2) := month55_any W2 (r + 1) f2 s (k1 s) (decide (k1 s < 4)) (o1 s) hc2 hd2' hk1s hs (k2 s) rfl
  have HF2 : Hid ((∀ j, 4 ≤ j → j ≠ 7 → j ≠ 4 → f2 j = ck0 s j) ∧ f2 4 = .int .i64 (yy s : Nat)) := ⟨hf2, hy2⟩
  have HG2 : Hid (W1.grownBy W2 (some (r + 1))) := hg2
  clear c54 hc2 hf2 hy2 hp2 hd2 hd2' hg2
  go_wp2_with (go_at_call 30; refine Stop.mk ?_)
  refine Stop.out (c55.mono ?_)
  rintro e W3 ⟨f3, v3, rfl, hc3, hf3, hy3, hp3, hd3, hg3⟩
  have HG3 : Hid (W1.grownBy W3 (some (r + 1))) := HG2.out.trans hg3
  have hT3 : Mt W3 := ⟨fun i hi => HG3.out.cell (HT1.out.p i hi) (by simp; omega)⟩
  have c56 : Calls Tryz.prog 31 #[.pointer (some ⟨r + 1, 0, none⟩)] W3 (PostY W3 (r + 1) f3 s (k1 s + k2 s + k3 s) (b3 s) (o3 s) 6 (dd s : Nat) 3) := day_any W3 (r + 1) f3 s (k1 s + k2 s) (b2 s) (o2 s) hc3 hd3 hk2s hs (k3 s) rfl (yy s) (mm s) (by rw [hf3 4 (by omega) (by omega) (by omega)]; exact HF2.out.2) hy3 hT3 (by omega)
  have HF3 : Hid ((∀ j, 6 ≤ j → j ≠ 7 → f3 j = ck0 s j) ∧ f3 4 = .int .i64 (yy s : Nat) ∧ f3 5 = .int .i64 (mm s : Nat)) :=
    ⟨fun j h1 h2 => (hf3 j (by omega) h2 (by omega)).trans (HF2.out.1 j (by omega) h2 (by omega)), (hf3 4 (by omega) (by omega) (by omega)).trans HF2.out.2, hy3⟩
  clear c55 hc3 hf3 hy3 hp3 hd3 hg3 hT3 HF2 HG2
  go_wp2_with (go_at_call 31; refine Stop.mk ?_)
  refine Stop.out (c56.mono ?_)
  rintro e W4 ⟨f4, v4, rfl, hc4, hf4, hy4, hp4, hd4, hg4⟩
  have HG4 : Hid (W1.grownBy W4 (some (r + 1))) := HG3.out.trans hg4
  have hoe : ((b3 s = true ∨ k1 s + k2 s + k3 s < s.size) ∧ oe s = some (((k1 s + k2 s + k3 s : Nat) : Int), 100)) ∨ ((b3 s = false ∧ ¬ k1 s + k2 s + k3 s < s.size) ∧ oe s = none) := by
    unfold oe
    by_cases h : b3 s = true ∨ k1 s + k2 s + k3 s < s.size
    · exact .inl ⟨h, if_pos h⟩
    · exact .inr ⟨⟨by cases hb : b3 s with | true => exact absurd (.inl hb) h | false => rfl, fun h2 => h (.inr h2)⟩, if_neg h⟩
  have c63 := end63_any W4 (r + 1) f4 s (k1 s + k2 s + k3 s) (b3 s) hc4 (o3 s) hd4 (oe s) hoe
  have c63' : Calls Tryz.prog 38 #[.pointer (some ⟨r + 1, 0, none⟩)] W4 (PostE W4 o) := by rw [← HO.out]; exact c63
  have HF4 : Hid (f4 4 = .int .i64 (yy s : Nat) ∧ f4 5 = .int .i64 (mm s : Nat) ∧ f4 6 = .int .i64 (dd s : Nat) ∧ f4 7 = .int .i64 3 ∧ ∀ j, 8 ≤ j → f4 j = ck0 s j) :=
    ⟨(hf4 4 (by omega) (by omega) (by omega)).trans HF3.out.2.1, (hf4 5 (by omega) (by omega) (by omega)).trans HF3.out.2.2, hy4, hp4, fun j hj => (hf4 j (by omega) (by omega) (by omega)).trans (HF3.out.1 j (by omega) (by omega))⟩
  have HR4 : Hid (W4.rowIs (r + 1) 75 15 f4) := hc4.row
  have HZ4 : Hid (W4.rowIs r 35 11 zm0) := row_kept HZ1.out HG4.out (by omega)
  have HB4 : Hid (Below r w W4) := HB1.out.grown HG4.out (by have := HB1.out.size; omega) (fun k hk => by simp at hk; omega)
  clear c56 hc4 hf4 hy4 hp4 hd4 hg4 HG3 HF3 HG4 HZ1 HB1 HT1 hoe c63
  go_wp2_with (go_at_call 38; refine Stop.mk ?_)
  refine Stop.out (c63'.mono ?_)
  rintro e W5 ⟨v5, rfl, hv5, hb5⟩
  have hR5 : W5.rowIs (r + 1) 75 15 f4 := HR4.out.of_block (hb5.block _ HR4.out.lt)
  have hZ5 : W5.rowIs r 35 11 zm0 := HZ4.out.of_block (hb5.block _ HZ4.out.lt)
  have z0 : W5.cell? ⟨r, 0, none⟩ = some (.int .i64 0) := hZ5.cell (i := 0) (by omega)
  have z1 : W5.cell? ⟨r, 1, none⟩ = some (.int .i64 0) := hZ5.cell (i := 1) (by omega)
  have z2 : W5.cell? ⟨r, 2, none⟩ = some (.int .i64 0) := hZ5.cell (i := 2) (by omega)
  have z3 : W5.cell? ⟨r, 3, none⟩ = some (.int .i64 0) := hZ5.cell (i := 3) (by omega)
  have z4 : W5.cell? ⟨r, 4, none⟩ = some (.int .i64 0) := hZ5.cell (i := 4) (by omega)
  have z5 : W5.cell? ⟨r, 5, none⟩ = some (.int .i64 0) := hZ5.cell (i := 5) (by omega)
  have z6 : W5.cell? ⟨r, 6, none⟩ = some (.int .i64 0) := hZ5.cell (i := 6) (by omega)
  have z7 : W5.cell? ⟨r, 7, none⟩ = some (.int .i64 0) := hZ5.cell (i := 7) (by omega)
  have z8 : W5.cell? ⟨r, 8, none⟩ = some (.int .i64 0) := hZ5.cell (i := 8) (by omega)
  have z9 : W5.cell? ⟨r, 9, none⟩ = some (.bool false) := hZ5.cell (i := 9) (by omega)
  have z10 : W5.cell? ⟨r, 10, none⟩ = some (.int .i64 0) := hZ5.cell (i := 10) (by omega)
  have zf : ∀ i, W5.frozen? ⟨r, i, none⟩ = false := fun i => hZ5.frozen i
  have HV : Hid (PErr W5 v5 o) := hv5
  have HB5 : Hid (Below r w W5) := HB4.out.trans (hb5.mono (by have := HB4.out.size; omega))
  clear HB4 hv5 hb5 HZ4 HR4 hZ5 c63'
  rcases HM.out with ⟨ho, hM⟩ | ⟨ho, hM⟩
  · subst ho
    obtain rfl : v5 = .nilIface := HV.out
    have g4 : W5.cell? ⟨r + 1, 4, none⟩ = some (.int .i64 (yy s : Nat)) := by have h := hR5.cell (i := 4) (by omega); rw [HF4.out.1] at h; exact h
    have g5 : W5.cell? ⟨r + 1, 5, none⟩ = some (.int .i64 (mm s : Nat)) := by have h := hR5.cell (i := 5) (by omega); rw [HF4.out.2.1] at h; exact h
    have g6 : W5.cell? ⟨r + 1, 6, none⟩ = some (.int .i64 (dd s : Nat)) := by have h := hR5.cell (i := 6) (by omega); rw [HF4.out.2.2.1] at h; exact h
    have g7 : W5.cell? ⟨r + 1, 7, none⟩ = some (.int .i64 3) := by have h := hR5.cell (i := 7) (by omega); rw [HF4.out.2.2.2.1] at h; exact h
    have g8 : W5.cell? ⟨r + 1, 8, none⟩ = some (.int .i64 0) := by have h := hR5.cell (i := 8) (by omega); rw [HF4.out.2.2.2.2 8 (by omega)] at h; exact h
    have g9 : W5.cell? ⟨r + 1, 9, none⟩ = some (.int .i64 0) := by have h := hR5.cell (i := 9) (by omega); rw [HF4.out.2.2.2.2 9 (by omega)] at h; exact h
    have g10 : W5.cell? ⟨r + 1, 10, none⟩ = some (.int .i64 0) := by have h := hR5.cell (i := 10) (by omega); rw [HF4.out.2.2.2.2 10 (by omega)] at h; exact h
    have g11 : W5.cell? ⟨r + 1, 11, none⟩ = some (.int .i64 0) := by have h := hR5.cell (i := 11) (by omega); rw [HF4.out.2.2.2.2 11 (by omega)] at h; exact h
    have g12 : W5.cell? ⟨r + 1, 12, none⟩ = some (.int .i64 0) := by have h := hR5.cell (i := 12) (by omega); rw [HF4.out.2.2.2.2 12 (by omega)] at h; exact h
    have g13 : W5.cell? ⟨r + 1, 13, none⟩ = some (.bool false) := by have h := hR5.cell (i := 13) (by omega); rw [HF4.out.2.2.2.2 13 (by omega)] at h; exact h
    have g14 : W5.cell? ⟨r + 1, 14, none⟩ = some (.int .i64 0) := by have h := hR5.cell (i := 14) (by omega); rw [HF4.out.2.2.2.2 14 (by omega)] at h; exact h
    subst hM
    clear hR5 HF4 HM HO HW0 HW1
    generalize yy s = Y at *
    generalize mm s = Mm at *
    generalize dd s = Dd at *
    go_wp2
    refine bodyPost_ret (v := .tuple #[mo Y Mm Dd 3, .nilIface]) (by simp [results, Tryz.results13, go_sem, mo, z0, z1, z2, z3, z4, z5, z6, z7, z8, z9, z10]) rfl ⟨_, rfl, rfl, ?_⟩
    rw [hr]
    exact (((((((((((HB5.out).setCell (p := ⟨r, 0, none⟩) (Nat.le_refl _) _).setCell (p := ⟨r, 1, none⟩) (Nat.le_refl _) _).setCell (p := ⟨r, 2, none⟩) (Nat.le_refl _) _).setCell (p := ⟨r, 3, none⟩) (Nat.le_refl _) _).setCell (p := ⟨r, 4, none⟩) (Nat.le_refl _) _).setCell (p := ⟨r, 5, none⟩) (Nat.le_refl _) _).setCell (p := ⟨r, 6, none⟩) (Nat.le_refl _) _).setCell (p := ⟨r, 7, none⟩) (Nat.le_refl _) _).setCell (p := ⟨r, 8, none⟩) (Nat.le_refl _) _).setCell (p := ⟨r, 9, none⟩) (Nat.le_refl _) _).setCell (p := ⟨r, 10, none⟩) (Nat.le_refl _) _
  · obtain ⟨x, rfl⟩ : ∃ x, o = some x := by cases o with | none => exact absurd rfl ho | some x => exact ⟨x, rfl⟩
    have hv := HV.out
    obtain ⟨pp, rfl, hF⟩ := hv
    subst hM
    have hpr : r ≠ pp := by
      rintro rfl
      have := hF.2.2
      rw [z2] at this
      cases this
    clear hR5 HF4 HM HO HW0 HW1 hF
    go_wp2
    refine bodyPost_ret (v := .tuple #[mo 0 0 0 0, .iface 78 (.pointer (some ⟨pp, 0, none⟩))]) (by simp [results, Tryz.results13, go_sem, mo, z0, z1, z2, z3, z4, z5, z6, z7, z8, z9, z10]) rfl ⟨_, rfl, ?_, ?_⟩
    · have hD : Dbt W5 r (.iface 78 (.pointer (some ⟨pp, 0, none⟩))) (some x) := ⟨HV.out, fun p' hp' => by
        obtain rfl : pp = p' := by simpa using hp'
        exact fun e => hpr e.symm⟩
      exact (hD.grown (grown_set (grown_set (grown_set (grown_set (grown_set (grown_set (grown_set (grown_set (grown_set (grown_set (grown_set (grown_refl _ _) 0 _) 1 _) 2 _) 3 _) 4 _) 5 _) 6 _) 7 _) 8 _) 9 _) 10 _)).1
    · rw [hr]
      exact (((((((((((HB5.out).setCell (p := ⟨r, 0, none⟩) (Nat.le_refl _) _).setCell (p := ⟨r, 1, none⟩) (Nat.le_refl _) _).setCell (p := ⟨r, 2, none⟩) (Nat.le_refl _) _).setCell (p := ⟨r, 3, none⟩) (Nat.le_refl _) _).setCell (p := ⟨r, 4, none⟩) (Nat.le_refl _) _).setCell (p := ⟨r, 5, none⟩) (Nat.le_refl _) _).setCell (p := ⟨r, 6, none⟩) (Nat.le_refl _) _).setCell (p := ⟨r, 7, none⟩) (Nat.le_refl _) _).setCell (p := ⟨r, 8, none⟩) (Nat.le_refl _) _).setCell (p := ⟨r, 9, none⟩) (Nat.le_refl _) _).setCell (p := ⟨r, 10, none⟩) (Nat.le_refl _) _

/-- What a day's text is read as, or why it is none. -/
def oP (s : ByteArray) : Option (Int × Int) := (oe s).or (o3 s)

set_option maxRecDepth 100000 in
set_option maxHeartbeats 1000000 in
theorem parse_any (w : World) (s : ByteArray) (hs : s.size ≤ 140737488351232) (hT : Mt w) (y m d p : Int) (hM : (oP s = none ∧ y = yy s ∧ m = mm s ∧ d = dd s ∧ p = 3) ∨ (oP s ≠ none ∧ y = 0 ∧ m = 0 ∧ d = 0 ∧ p = 0)) :
    Calls Tryz.prog 4 #[.string s] w (PostR w (dv y m d) (oP s)) := by
  obtain ⟨r, hr⟩ : ∃ r, w.heap.size = r := ⟨_, rfl⟩
  obtain ⟨W0, hW0⟩ : ∃ W0, w.alloc (.cells #[.int .i64 0, .int .i64 0, .int .i64 0] 23) = W0 := ⟨_, rfl⟩
  have hb0 : Below r w W0 := by rw [← hW0, ← hr]; exact (Below.refl _ _).alloc (Nat.le_refl _) _
  have hs0 : W0.heap.size = r + 1 := by rw [← hW0, ← hr]; simp
  have a0 : W0.cell? ⟨r, 0, none⟩ = some (.int .i64 0) := by rw [← hW0, ← hr]; simp
  have a1 : W0.cell? ⟨r, 1, none⟩ = some (.int .i64 0) := by rw [← hW0, ← hr]; simp
  have a2 : W0.cell? ⟨r, 2, none⟩ = some (.int .i64 0) := by rw [← hW0, ← hr]; simp
  have af : ∀ i, W0.frozen? ⟨r, i, none⟩ = false := fun i => by rw [← hW0, ← hr]; simp
  have c30 := read_any W0 s hs (hT.on (hr ▸ hb0)) (oP s) rfl (mo y m d p) (by
    rcases hM with ⟨h, rfl, rfl, rfl, rfl⟩ | ⟨h, rfl, rfl, rfl, rfl⟩
    · exact .inl ⟨h, rfl⟩
    · exact .inr ⟨h, rfl⟩)
  have HB0 : Hid (Below r w W0) := hb0
  generalize oP s = o at *
  unfold mo at c30
  clear hM hT hb0
  have HW0 : Hid (w.alloc (.cells #[.int .i64 0, .int .i64 0, .int .i64 0] 23) = W0) := hW0
  clear hW0
  go_enter Tryz.func4, Tryz.ntmps4
  go_wp2_with (go_at_call 13; refine Stop.mk ?_)
  rw [HW0.out]
  refine Stop.out (c30.mono ?_)
  rintro e W1 ⟨v, rfl, hv, hb1⟩
  have hlt : r < W0.heap.size := by omega
  have b0 := (hb1.cell (p := ⟨r, 0, none⟩) hlt).trans a0
  have b1 := (hb1.cell (p := ⟨r, 1, none⟩) hlt).trans a1
  have b2 := (hb1.cell (p := ⟨r, 2, none⟩) hlt).trans a2
  have bf := fun i => (hb1.frozen (p := ⟨r, i, none⟩) hlt).trans (af i)
  have hs1 : r < W1.heap.size := Nat.lt_of_lt_of_le hlt hb1.size
  have HB1 : Hid (Below r w W1) := HB0.out.trans (hb1.mono (by omega))
  have HV : Hid (PErr W1 v o) := hv
  have hne : r ≠ W1.heap.size := by omega
  have hne' : W1.heap.size ≠ r := by omega
  clear c30 a0 a1 a2 af hv hb1
  have HD : Hid (Dbt W1 r v o) := ⟨HV.out, fun p' hp' => by
    rintro rfl
    cases o with
    | none => have := HV.out; rw [hp'] at this; cases this
    | some x =>
      obtain ⟨q', hq', hF⟩ := HV.out
      rw [hp'] at hq'
      obtain rfl : p' = q' := by simpa using hq'
      have := hF.2.2
      rw [b2] at this
      cases this⟩
  have c0 : ∀ ob, (W1.alloc ob).cell? ⟨r, 0, none⟩ = some (.int .i64 0) := fun ob => (((Below.refl _ W1).alloc (Nat.le_refl _) ob).cell (p := ⟨r, 0, none⟩) hs1).trans b0
  have c1 : ∀ ob, (W1.alloc ob).cell? ⟨r, 1, none⟩ = some (.int .i64 0) := fun ob => (((Below.refl _ W1).alloc (Nat.le_refl _) ob).cell (p := ⟨r, 1, none⟩) hs1).trans b1
  have c2 : ∀ ob, (W1.alloc ob).cell? ⟨r, 2, none⟩ = some (.int .i64 0) := fun ob => (((Below.refl _ W1).alloc (Nat.le_refl _) ob).cell (p := ⟨r, 2, none⟩) hs1).trans b2
  have cf : ∀ ob i, (W1.alloc ob).frozen? ⟨r, i, none⟩ = false := fun ob i => (((Below.refl _ W1).alloc (Nat.le_refl _) ob).frozen (p := ⟨r, i, none⟩) hs1).trans (bf i)
  have HD2 : Hid (∀ ob, Dbt (W1.alloc ob) r v o) := fun ob => HD.out.on ((Below.refl _ W1).alloc (Nat.le_refl _) ob)
  have HB2 : Hid (∀ ob, Below r w (W1.alloc ob)) := fun ob => HB1.out.alloc (Nat.le_of_lt hs1) ob
  clear b0 b1 b2 bf HD HB1 HV HW0
  go_upto_region 2 with fail
  obtain ⟨W2, hW2⟩ : ∃ W2, W1.alloc (.cells #[.int .i64 y, .int .i64 m, .int .i64 d, .int .i64 p, .int .i64 0, .int .i64 0, .int .i64 0, .int .i64 0, .int .i64 0, .bool false, .int .i64 0] 35) = W2 := ⟨_, rfl⟩
  have d0 : W2.cell? ⟨W1.heap.size, 0, none⟩ = some (.int .i64 y) := by rw [← hW2]; simp
  have d1 : W2.cell? ⟨W1.heap.size, 1, none⟩ = some (.int .i64 m) := by rw [← hW2]; simp
  have d2 : W2.cell? ⟨W1.heap.size, 2, none⟩ = some (.int .i64 d) := by rw [← hW2]; simp
  have e0 : W2.cell? ⟨r, 0, none⟩ = some (.int .i64 0) := hW2 ▸ c0 _
  have e1 : W2.cell? ⟨r, 1, none⟩ = some (.int .i64 0) := hW2 ▸ c1 _
  have e2 : W2.cell? ⟨r, 2, none⟩ = some (.int .i64 0) := hW2 ▸ c2 _
  have ef : ∀ i, W2.frozen? ⟨r, i, none⟩ = false := fun i => hW2 ▸ cf _ i
  have HD3 : Hid (Dbt W2 r v o) := hW2 ▸ HD2.out _
  have HB3 : Hid (Below r w W2) := hW2 ▸ HB2.out _
  rw [hW2]
  clear c0 c1 c2 cf HD2 HB2 hW2
  go_wp2
  refine bodyPost_ret (v := .tuple #[dv y m d, v]) (by simp [results, Tryz.results4, go_sem, dv, e0, e1, e2]) rfl ⟨v, rfl, ?_, ?_⟩
  · exact (HD3.out.grown (grown_set (grown_set (grown_set (grown_refl _ _) 0 _) 1 _) 2 _)).1
  · rw [hr]
    exact ((HB3.out.setCell (p := ⟨r, 0, none⟩) (Nat.le_refl _) _).setCell (p := ⟨r, 1, none⟩) (Nat.le_refl _) _).setCell (p := ⟨r, 2, none⟩) (Nat.le_refl _) _
end Go.Proofs.YtohojghndnfgdaaGreatDoor.Tm
