import Derived.Test.YtdggplhkeekdjaaGreatDoorLp
import Derived.Test.YtdggplhkeekdjaaGreatDoorKk
/-
  DERIVED. The document's refusals; its Check.
-/
namespace Go.Proofs.YtdggplhkeekdjaaGreatDoor.Ck
open Go Go.Proofs Go.RowKit

theorem rnone_any (w : World) : Calls Tryz.prog 27 #[] w fun e w' => e = .returned (.agg #[.slice none 0 0, .int .i64 0]) ∧ Below w.heap.size w w' := by
  go_enter Tryz.func27, Tryz.ntmps27
  go_wp2
  exact bodyPost_ret (v := .agg #[.slice none 0 0, .int .i64 0]) (by simp [results, Tryz.results27, go_sem]) rfl ⟨rfl, (Below.refl _ _).alloc (Nat.le_refl _) _⟩
/-- The fault that says this, in the document. -/
def FltD (w : World) (v : Value) : Option (List Lk × Int) → Prop
  | none => v = .agg #[.slice none 0 0, .int .i64 0]
  | some (ls, c) => ∃ g cap, v = .agg #[.slice (some ⟨g, 0, none⟩) ls.length cap, .int .i64 c] ∧ LkAt w g ls
theorem FltD.on {w w' : World} {v : Value} {o : Option (List Lk × Int)} (h : FltD w v o) (hb : Below w.heap.size w w') : FltD w' v o := by
  cases o with
  | none => exact h
  | some x => obtain ⟨g, cap, h1, h2⟩ := h; exact ⟨g, cap, h1, h2.on hb⟩
/-- A result that is not told yet. -/
structure Rz (b : Nat) (X : World) : Prop where
  r0 : X.cell? ⟨b, 0, none⟩ = some (.slice none 0 0)
  r1 : X.cell? ⟨b, 1, none⟩ = some (.int .i64 0)
  rf : ∀ j, X.frozen? ⟨b, j, none⟩ = false
theorem Rz.on {b : Nat} {X Y : World} (h : Rz b X) (hb : Below X.heap.size X Y) : Rz b Y :=
  ⟨(hb.cell (clt h.r0)).trans h.r0, (hb.cell (clt h.r1)).trans h.r1, fun j => (World.frozen?_of_block (a := ⟨b, j, none⟩) (hb.block b (clt h.r0))).trans (h.rf j)⟩
theorem Rz.new (w : World) : Rz w.heap.size (w.alloc (.cells #[.slice none 0 0, .int .i64 0] 45)) :=
  ⟨by simp, by simp, fun j => by simp⟩
/-- What is known of a kind. -/
structure Xz (b : Nat) (X : World) (n : ByteArray) (p u m : Int) (t c q l : Bool) : Prop where
  x0 : X.cell? ⟨b, 0, none⟩ = some (.string n)
  x1 : X.cell? ⟨b, 1, none⟩ = some (.int .u8 p)
  x2 : X.cell? ⟨b, 2, none⟩ = some (.int .i64 u)
  x3 : X.cell? ⟨b, 3, none⟩ = some (.int .i64 m)
  x4 : X.cell? ⟨b, 4, none⟩ = some (.bool t)
  x5 : X.cell? ⟨b, 5, none⟩ = some (.bool c)
  x6 : X.cell? ⟨b, 6, none⟩ = some (.bool q)
  x7 : X.cell? ⟨b, 7, none⟩ = some (.bool l)
theorem Xz.on {b : Nat} {X Y : World} {n : ByteArray} {p u m : Int} {t c q l : Bool} (h : Xz b X n p u m t c q l) (hb : Below X.heap.size X Y) : Xz b Y n p u m t c q l :=
  ⟨(hb.cell (clt h.x0)).trans h.x0, (hb.cell (clt h.x1)).trans h.x1, (hb.cell (clt h.x2)).trans h.x2, (hb.cell (clt h.x3)).trans h.x3, (hb.cell (clt h.x4)).trans h.x4, (hb.cell (clt h.x5)).trans h.x5, (hb.cell (clt h.x6)).trans h.x6, (hb.cell (clt h.x7)).trans h.x7⟩
theorem Xz.new (w : World) (n : ByteArray) (p u m : Int) (t c q l : Bool) : Xz w.heap.size (w.alloc (.cells #[.string n, .int .u8 p, .int .i64 u, .int .i64 m, .bool t, .bool c, .bool q, .bool l] 125)) n p u m t c q l :=
  ⟨by simp, by simp, by simp, by simp, by simp, by simp, by simp, by simp⟩
theorem new1_any (w : World) (a c : Int) : Calls Tryz.prog 38 #[.string { data := #[100, 105, 99, 116] }, .int .i64 a, .int .i64 c] w fun e w' => ∃ g, e = .returned (.agg #[.slice (some ⟨g, 0, none⟩) 1 1, .int .i64 c]) ∧ w.heap.size < g ∧ LkAt w' g [(dB, a)] ∧ Below w.heap.size w w' := by
  refine (Rp.new0_any c a w).mono ?_
  rintro e W1 ⟨rfl, hb, h0, h1, _⟩
  refine ⟨_, rfl, by omega, fun i hi => ?_, hb⟩
  obtain rfl : i = 0 := by simp at hi; omega
  exact ⟨h0, h1⟩
/-- A fault is put where the result lies. -/
theorem lk_put {W : World} {b g : Nat} {ls : List Lk} (h : LkAt W g ls) (hg : b ≠ g) (v0 v1 : Value) : LkAt ((W.setCell ⟨b, 0, none⟩ v0).setCell ⟨b, 1, none⟩ v1) g ls := fun i hi =>
  ⟨((Rp.cell_set_off hg).trans (Rp.cell_set_off hg)).trans (h i hi).1, ((Rp.cell_set_off hg).trans (Rp.cell_set_off hg)).trans (h i hi).2⟩
theorem below_put {W w : World} {b : Nat} (h : Below b w W) (v0 v1 : Value) : Below b w ((W.setCell ⟨b, 0, none⟩ v0).setCell ⟨b, 1, none⟩ v1) :=
  (h.setCell (p := ⟨b, 0, none⟩) (Nat.le_refl _) _).setCell (p := ⟨b, 1, none⟩) (Nat.le_refl _) _
def CkD (w : World) (o : Option (List Lk × Int)) (e : Ending) (w' : World) : Prop := ∃ r, e = .returned r ∧ FltD w' r o ∧ Below w.heap.size w w'
set_option maxRecDepth 100000 in
set_option maxHeartbeats 8000000 in
theorem rcheck_no (w : World) (v : Int) (n : ByteArray) (p : Int) (u m : Nat) (t c q l : Bool) (s : ByteArray)
    (C17 : ∀ W, Calls Tryz.prog 39 #[.int .i64 v] W fun e w' => e = .returned (.tuple #[.agg #[.string n, .int .u8 p, .int .i64 (u : Int), .int .i64 (m : Int), .bool t, .bool c, .bool q, .bool l], .bool false]) ∧ Below W.heap.size W w') :
    Calls Tryz.prog 24 #[.int .i64 v, .string s] w (CkD w (some ([(dB, 0)], 62))) := by
  have HR0 : Hid (Rz w.heap.size (w.alloc (.cells #[.slice none 0 0, .int .i64 0] 45))) := Rz.new w
  have HB0 : Hid (Below w.heap.size w (w.alloc (.cells #[.slice none 0 0, .int .i64 0] 45))) := (Below.refl _ _).alloc (Nat.le_refl _) _
  go_enter Tryz.func24, Tryz.ntmps24
  go_wp2_with (go_at_call 39; refine Stop.mk ?_)
  refine Stop.out ((C17 _).mono ?_)
  rintro e W1 ⟨rfl, hb1⟩
  have HR1 : Hid (Rz w.heap.size (W1.alloc (.cells #[.string n, .int .u8 p, .int .i64 (u : Int), .int .i64 (m : Int), .bool t, .bool c, .bool q, .bool l] 125))) := (HR0.out.on hb1).on ((Below.refl _ _).alloc (Nat.le_refl _) _)
  have HB1 : Hid (Below w.heap.size w (W1.alloc (.cells #[.string n, .int .u8 p, .int .i64 (u : Int), .int .i64 (m : Int), .bool t, .bool c, .bool q, .bool l] 125))) := (HB0.out.trans (hb1.mono HB0.out.size)).trans (((Below.refl _ _).alloc (Nat.le_refl _) _).mono (HB0.out.trans (hb1.mono HB0.out.size)).size)
  have HX1 : Hid (Xz W1.heap.size (W1.alloc (.cells #[.string n, .int .u8 p, .int .i64 (u : Int), .int .i64 (m : Int), .bool t, .bool c, .bool q, .bool l] 125)) n p (u : Int) (m : Int) t c q l) := Xz.new W1 n p u m t c q l
  clear hb1
  go_wp2_with (go_at_call 38; refine Stop.mk ?_)
  refine Stop.out ((new1_any _ 0 62).mono ?_)
  rintro e W9 ⟨g9, rfl, hg9, hl9, hb9⟩
  obtain ⟨r0, r1, rf⟩ := HR1.out.on hb9
  have HB9 : Hid (Below w.heap.size w W9) := HB1.out.trans (hb9.mono HB1.out.size)
  have HL9 : Hid (LkAt W9 g9 [(dB, 0)]) := hl9
  have HG9 : Hid (w.heap.size ≠ g9) := Nat.ne_of_lt (Nat.lt_of_le_of_lt HB1.out.size hg9)
  clear hb9 hl9 hg9
  go_wp2
  refine bodyPost_ret (v := .agg #[.slice (some ⟨g9, 0, none⟩) 1 1, .int .i64 62]) (by simp [results, Tryz.results24, go_sem, r0, r1]) rfl ⟨_, rfl, ⟨g9, 1, rfl, lk_put HL9.out HG9.out _ _⟩, below_put HB9.out _ _⟩
set_option maxRecDepth 100000 in
set_option maxHeartbeats 8000000 in
theorem rcheck_18 (w : World) (n : ByteArray) (p : Int) (u m : Nat) (t c q l : Bool) (s : ByteArray)
    (C17 : ∀ W, Calls Tryz.prog 39 #[.int .i64 18] W fun e w' => e = .returned (.tuple #[.agg #[.string n, .int .u8 p, .int .i64 (u : Int), .int .i64 (m : Int), .bool t, .bool c, .bool q, .bool l], .bool true]) ∧ Below W.heap.size W w') :
    Calls Tryz.prog 24 #[.int .i64 18, .string s] w (CkD w (some ([(dB, 0)], 62))) := by
  have HR0 : Hid (Rz w.heap.size (w.alloc (.cells #[.slice none 0 0, .int .i64 0] 45))) := Rz.new w
  have HB0 : Hid (Below w.heap.size w (w.alloc (.cells #[.slice none 0 0, .int .i64 0] 45))) := (Below.refl _ _).alloc (Nat.le_refl _) _
  go_enter Tryz.func24, Tryz.ntmps24
  go_wp2_with (go_at_call 39; refine Stop.mk ?_)
  refine Stop.out ((C17 _).mono ?_)
  rintro e W1 ⟨rfl, hb1⟩
  have HR1 : Hid (Rz w.heap.size (W1.alloc (.cells #[.string n, .int .u8 p, .int .i64 (u : Int), .int .i64 (m : Int), .bool t, .bool c, .bool q, .bool l] 125))) := (HR0.out.on hb1).on ((Below.refl _ _).alloc (Nat.le_refl _) _)
  have HB1 : Hid (Below w.heap.size w (W1.alloc (.cells #[.string n, .int .u8 p, .int .i64 (u : Int), .int .i64 (m : Int), .bool t, .bool c, .bool q, .bool l] 125))) := (HB0.out.trans (hb1.mono HB0.out.size)).trans (((Below.refl _ _).alloc (Nat.le_refl _) _).mono (HB0.out.trans (hb1.mono HB0.out.size)).size)
  have HX1 : Hid (Xz W1.heap.size (W1.alloc (.cells #[.string n, .int .u8 p, .int .i64 (u : Int), .int .i64 (m : Int), .bool t, .bool c, .bool q, .bool l] 125)) n p (u : Int) (m : Int) t c q l) := Xz.new W1 n p u m t c q l
  clear hb1
  go_wp2_with (go_at_call 38; refine Stop.mk ?_)
  refine Stop.out ((new1_any _ 0 62).mono ?_)
  rintro e W9 ⟨g9, rfl, hg9, hl9, hb9⟩
  obtain ⟨r0, r1, rf⟩ := HR1.out.on hb9
  have HB9 : Hid (Below w.heap.size w W9) := HB1.out.trans (hb9.mono HB1.out.size)
  have HL9 : Hid (LkAt W9 g9 [(dB, 0)]) := hl9
  have HG9 : Hid (w.heap.size ≠ g9) := Nat.ne_of_lt (Nat.lt_of_le_of_lt HB1.out.size hg9)
  clear hb9 hl9 hg9
  go_wp2
  refine bodyPost_ret (v := .agg #[.slice (some ⟨g9, 0, none⟩) 1 1, .int .i64 62]) (by simp [results, Tryz.results24, go_sem, r0, r1]) rfl ⟨_, rfl, ⟨g9, 1, rfl, lk_put HL9.out HG9.out _ _⟩, below_put HB9.out _ _⟩
set_option maxRecDepth 100000 in
set_option maxHeartbeats 8000000 in
theorem rcheck_empty (w : World) (v : Int) (n : ByteArray) (p : Int) (u m : Nat) (t c q l : Bool) (s : ByteArray) (hv : v ≠ 18) (h0 : s.size = 0)
    (C17 : ∀ W, Calls Tryz.prog 39 #[.int .i64 v] W fun e w' => e = .returned (.tuple #[.agg #[.string n, .int .u8 p, .int .i64 (u : Int), .int .i64 (m : Int), .bool t, .bool c, .bool q, .bool l], .bool true]) ∧ Below W.heap.size W w') :
    Calls Tryz.prog 24 #[.int .i64 v, .string s] w (CkD w (none)) := by
  have e18 : (v == 18) = false := beq_eq_false_iff_ne.2 hv
  have i0 : ((s.size : Int) == 0) = true := by rw [h0]; rfl
  clear h0
  have HR0 : Hid (Rz w.heap.size (w.alloc (.cells #[.slice none 0 0, .int .i64 0] 45))) := Rz.new w
  have HB0 : Hid (Below w.heap.size w (w.alloc (.cells #[.slice none 0 0, .int .i64 0] 45))) := (Below.refl _ _).alloc (Nat.le_refl _) _
  go_enter Tryz.func24, Tryz.ntmps24
  go_wp2_with (go_at_call 39; refine Stop.mk ?_)
  refine Stop.out ((C17 _).mono ?_)
  rintro e W1 ⟨rfl, hb1⟩
  have HR1 : Hid (Rz w.heap.size (W1.alloc (.cells #[.string n, .int .u8 p, .int .i64 (u : Int), .int .i64 (m : Int), .bool t, .bool c, .bool q, .bool l] 125))) := (HR0.out.on hb1).on ((Below.refl _ _).alloc (Nat.le_refl _) _)
  have HB1 : Hid (Below w.heap.size w (W1.alloc (.cells #[.string n, .int .u8 p, .int .i64 (u : Int), .int .i64 (m : Int), .bool t, .bool c, .bool q, .bool l] 125))) := (HB0.out.trans (hb1.mono HB0.out.size)).trans (((Below.refl _ _).alloc (Nat.le_refl _) _).mono (HB0.out.trans (hb1.mono HB0.out.size)).size)
  have HX1 : Hid (Xz W1.heap.size (W1.alloc (.cells #[.string n, .int .u8 p, .int .i64 (u : Int), .int .i64 (m : Int), .bool t, .bool c, .bool q, .bool l] 125)) n p (u : Int) (m : Int) t c q l) := Xz.new W1 n p u m t c q l
  clear hb1
  go_wp2_with (go_at_call 27; refine Stop.mk ?_)
  refine Stop.out ((rnone_any _).mono ?_)
  rintro e W9 ⟨rfl, hb9⟩
  obtain ⟨r0, r1, rf⟩ := HR1.out.on hb9
  have HB9 : Hid (Below w.heap.size w W9) := HB1.out.trans (hb9.mono HB1.out.size)
  clear hb9
  go_wp2
  refine bodyPost_ret (v := .agg #[.slice none 0 0, .int .i64 0]) (by simp [results, Tryz.results24, go_sem, r0, r1]) rfl ⟨_, rfl, rfl, below_put HB9.out _ _⟩
set_option maxRecDepth 100000 in
set_option maxHeartbeats 8000000 in
theorem rcheck_big (w : World) (v : Int) (n : ByteArray) (p : Int) (u m : Nat) (t c q l : Bool) (s : ByteArray) (hv : v ≠ 18) (hb : 65534 < s.size)
    (C17 : ∀ W, Calls Tryz.prog 39 #[.int .i64 v] W fun e w' => e = .returned (.tuple #[.agg #[.string n, .int .u8 p, .int .i64 (u : Int), .int .i64 (m : Int), .bool t, .bool c, .bool q, .bool l], .bool true]) ∧ Below W.heap.size W w') :
    Calls Tryz.prog 24 #[.int .i64 v, .string s] w (CkD w (some ([(dB, 65534)], 63))) := by
  have e18 : (v == 18) = false := beq_eq_false_iff_ne.2 hv
  have i0 : ((s.size : Int) == 0) = false := beq_eq_false_iff_ne.2 (by omega)
  have i1 : (s.size : Int) > 65534 := by omega
  have HR0 : Hid (Rz w.heap.size (w.alloc (.cells #[.slice none 0 0, .int .i64 0] 45))) := Rz.new w
  have HB0 : Hid (Below w.heap.size w (w.alloc (.cells #[.slice none 0 0, .int .i64 0] 45))) := (Below.refl _ _).alloc (Nat.le_refl _) _
  go_enter Tryz.func24, Tryz.ntmps24
  go_wp2_with (go_at_call 39; refine Stop.mk ?_)
  refine Stop.out ((C17 _).mono ?_)
  rintro e W1 ⟨rfl, hb1⟩
  have HR1 : Hid (Rz w.heap.size (W1.alloc (.cells #[.string n, .int .u8 p, .int .i64 (u : Int), .int .i64 (m : Int), .bool t, .bool c, .bool q, .bool l] 125))) := (HR0.out.on hb1).on ((Below.refl _ _).alloc (Nat.le_refl _) _)
  have HB1 : Hid (Below w.heap.size w (W1.alloc (.cells #[.string n, .int .u8 p, .int .i64 (u : Int), .int .i64 (m : Int), .bool t, .bool c, .bool q, .bool l] 125))) := (HB0.out.trans (hb1.mono HB0.out.size)).trans (((Below.refl _ _).alloc (Nat.le_refl _) _).mono (HB0.out.trans (hb1.mono HB0.out.size)).size)
  have HX1 : Hid (Xz W1.heap.size (W1.alloc (.cells #[.string n, .int .u8 p, .int .i64 (u : Int), .int .i64 (m : Int), .bool t, .bool c, .bool q, .bool l] 125)) n p (u : Int) (m : Int) t c q l) := Xz.new W1 n p u m t c q l
  clear hb1
  go_wp2_with (go_at_call 38; refine Stop.mk ?_)
  refine Stop.out ((new1_any _ 65534 63).mono ?_)
  rintro e W9 ⟨g9, rfl, hg9, hl9, hb9⟩
  obtain ⟨r0, r1, rf⟩ := HR1.out.on hb9
  have HB9 : Hid (Below w.heap.size w W9) := HB1.out.trans (hb9.mono HB1.out.size)
  have HL9 : Hid (LkAt W9 g9 [(dB, 65534)]) := hl9
  have HG9 : Hid (w.heap.size ≠ g9) := Nat.ne_of_lt (Nat.lt_of_le_of_lt HB1.out.size hg9)
  clear hb9 hl9 hg9
  go_wp2
  refine bodyPost_ret (v := .agg #[.slice (some ⟨g9, 0, none⟩) 1 1, .int .i64 63]) (by simp [results, Tryz.results24, go_sem, r0, r1]) rfl ⟨_, rfl, ⟨g9, 1, rfl, lk_put HL9.out HG9.out _ _⟩, below_put HB9.out _ _⟩
set_option maxRecDepth 100000 in
set_option maxHeartbeats 8000000 in
theorem rcheck_odd (w : World) (v : Int) (n : ByteArray) (p : Int) (u m : Nat) (c q l : Bool) (s : ByteArray) (hv : v ≠ 18) (hb : s.size ≤ 65534) (hu : 0 < u) (h2 : s.size % 2 = 1)
    (C17 : ∀ W, Calls Tryz.prog 39 #[.int .i64 v] W fun e w' => e = .returned (.tuple #[.agg #[.string n, .int .u8 p, .int .i64 (u : Int), .int .i64 (m : Int), .bool false, .bool c, .bool q, .bool l], .bool true]) ∧ Below W.heap.size W w') :
    Calls Tryz.prog 24 #[.int .i64 v, .string s] w (CkD w (some ([(dB, (s.size : Int))], 63))) := by
  have e18 : (v == 18) = false := beq_eq_false_iff_ne.2 hv
  have i0 : ((s.size : Int) == 0) = false := beq_eq_false_iff_ne.2 (by omega)
  have i1 : ¬ ((s.size : Int) > 65534) := by omega
  have hu0 : ((u : Int) == 0) = false := by simp; omega
  have hu1 : ¬ ((u : Int) = 0) := by omega
  have hk2 : (s.size : Int).tmod 2 = ((s.size % 2 : Nat) : Int) := by rw [Int.tmod_eq_emod_of_nonneg (by omega)]; rfl
  have hku : (s.size : Int).tmod (u : Int) = ((s.size % u : Nat) : Int) := by rw [Int.tmod_eq_emod_of_nonneg (by omega)]; rfl
  have hmu : (s.size : Int) % (u : Int) = ((s.size % u : Nat) : Int) := rfl
  have hm2 : (s.size : Int) % 2 = ((s.size % 2 : Nat) : Int) := rfl
  have a2 : ((s.size : Int).tmod 2 == 1) = true := by rw [hk2, h2]; rfl
  have b2 : ((s.size : Int) % 2 == 1) = true := by rw [hm2, h2]; rfl
  have HR0 : Hid (Rz w.heap.size (w.alloc (.cells #[.slice none 0 0, .int .i64 0] 45))) := Rz.new w
  have HB0 : Hid (Below w.heap.size w (w.alloc (.cells #[.slice none 0 0, .int .i64 0] 45))) := (Below.refl _ _).alloc (Nat.le_refl _) _
  go_enter Tryz.func24, Tryz.ntmps24
  go_wp2_with (go_at_call 39; refine Stop.mk ?_)
  refine Stop.out ((C17 _).mono ?_)
  rintro e W1 ⟨rfl, hb1⟩
  have HR1 : Hid (Rz w.heap.size (W1.alloc (.cells #[.string n, .int .u8 p, .int .i64 (u : Int), .int .i64 (m : Int), .bool false, .bool c, .bool q, .bool l] 125))) := (HR0.out.on hb1).on ((Below.refl _ _).alloc (Nat.le_refl _) _)
  have HB1 : Hid (Below w.heap.size w (W1.alloc (.cells #[.string n, .int .u8 p, .int .i64 (u : Int), .int .i64 (m : Int), .bool false, .bool c, .bool q, .bool l] 125))) := (HB0.out.trans (hb1.mono HB0.out.size)).trans (((Below.refl _ _).alloc (Nat.le_refl _) _).mono (HB0.out.trans (hb1.mono HB0.out.size)).size)
  have HX1 : Hid (Xz W1.heap.size (W1.alloc (.cells #[.string n, .int .u8 p, .int .i64 (u : Int), .int .i64 (m : Int), .bool false, .bool c, .bool q, .bool l] 125)) n p (u : Int) (m : Int) false c q l) := Xz.new W1 n p u m false c q l
  clear hb1
  go_wp2_with (go_at_call 38; refine Stop.mk ?_)
  refine Stop.out ((new1_any _ (s.size : Int) 63).mono ?_)
  rintro e W9 ⟨g9, rfl, hg9, hl9, hb9⟩
  obtain ⟨r0, r1, rf⟩ := HR1.out.on hb9
  have HB9 : Hid (Below w.heap.size w W9) := HB1.out.trans (hb9.mono HB1.out.size)
  have HL9 : Hid (LkAt W9 g9 [(dB, (s.size : Int))]) := hl9
  have HG9 : Hid (w.heap.size ≠ g9) := Nat.ne_of_lt (Nat.lt_of_le_of_lt HB1.out.size hg9)
  clear hb9 hl9 hg9
  go_wp2
  refine bodyPost_ret (v := .agg #[.slice (some ⟨g9, 0, none⟩) 1 1, .int .i64 63]) (by simp [results, Tryz.results24, go_sem, r0, r1]) rfl ⟨_, rfl, ⟨g9, 1, rfl, lk_put HL9.out HG9.out _ _⟩, below_put HB9.out _ _⟩
set_option maxRecDepth 100000 in
set_option maxHeartbeats 8000000 in
theorem rcheck_part (w : World) (v : Int) (n : ByteArray) (p : Int) (u m : Nat) (c q l : Bool) (s : ByteArray) (hv : v ≠ 18) (h0 : s.size ≠ 0) (hb : s.size ≤ 65534) (hu : 0 < u) (h2 : s.size % 2 ≠ 1) (h3 : s.size % u ≠ 0)
    (C17 : ∀ W, Calls Tryz.prog 39 #[.int .i64 v] W fun e w' => e = .returned (.tuple #[.agg #[.string n, .int .u8 p, .int .i64 (u : Int), .int .i64 (m : Int), .bool false, .bool c, .bool q, .bool l], .bool true]) ∧ Below W.heap.size W w') :
    Calls Tryz.prog 24 #[.int .i64 v, .string s] w (CkD w (some ([(dB, (s.size : Int))], 63))) := by
  have e18 : (v == 18) = false := beq_eq_false_iff_ne.2 hv
  have i0 : ((s.size : Int) == 0) = false := beq_eq_false_iff_ne.2 (by omega)
  clear h0
  have i1 : ¬ ((s.size : Int) > 65534) := by omega
  have hu0 : ((u : Int) == 0) = false := by simp; omega
  have hu1 : ¬ ((u : Int) = 0) := by omega
  have hk2 : (s.size : Int).tmod 2 = ((s.size % 2 : Nat) : Int) := by rw [Int.tmod_eq_emod_of_nonneg (by omega)]; rfl
  have hku : (s.size : Int).tmod (u : Int) = ((s.size % u : Nat) : Int) := by rw [Int.tmod_eq_emod_of_nonneg (by omega)]; rfl
  have hmu : (s.size : Int) % (u : Int) = ((s.size % u : Nat) : Int) := rfl
  have hm2 : (s.size : Int) % 2 = ((s.size % 2 : Nat) : Int) := rfl
  have a2 : ((s.size : Int).tmod 2 == 1) = false := by rw [hk2]; exact beq_eq_false_iff_ne.2 (by omega)
  have b2 : ((s.size : Int) % 2 == 1) = false := by rw [hm2]; exact beq_eq_false_iff_ne.2 (by omega)
  have a3 : ((s.size : Int).tmod (u : Int) != 0) = true := by rw [hku]; simp; omega
  have b3 : ((s.size : Int) % (u : Int) != 0) = true := by rw [hmu]; simp; omega
  clear hku hmu hk2 hm2
  have HR0 : Hid (Rz w.heap.size (w.alloc (.cells #[.slice none 0 0, .int .i64 0] 45))) := Rz.new w
  have HB0 : Hid (Below w.heap.size w (w.alloc (.cells #[.slice none 0 0, .int .i64 0] 45))) := (Below.refl _ _).alloc (Nat.le_refl _) _
  go_enter Tryz.func24, Tryz.ntmps24
  go_wp2_with (go_at_call 39; refine Stop.mk ?_)
  refine Stop.out ((C17 _).mono ?_)
  rintro e W1 ⟨rfl, hb1⟩
  have HR1 : Hid (Rz w.heap.size (W1.alloc (.cells #[.string n, .int .u8 p, .int .i64 (u : Int), .int .i64 (m : Int), .bool false, .bool c, .bool q, .bool l] 125))) := (HR0.out.on hb1).on ((Below.refl _ _).alloc (Nat.le_refl _) _)
  have HB1 : Hid (Below w.heap.size w (W1.alloc (.cells #[.string n, .int .u8 p, .int .i64 (u : Int), .int .i64 (m : Int), .bool false, .bool c, .bool q, .bool l] 125))) := (HB0.out.trans (hb1.mono HB0.out.size)).trans (((Below.refl _ _).alloc (Nat.le_refl _) _).mono (HB0.out.trans (hb1.mono HB0.out.size)).size)
  have HX1 : Hid (Xz W1.heap.size (W1.alloc (.cells #[.string n, .int .u8 p, .int .i64 (u : Int), .int .i64 (m : Int), .bool false, .bool c, .bool q, .bool l] 125)) n p (u : Int) (m : Int) false c q l) := Xz.new W1 n p u m false c q l
  clear hb1
  go_wp2_with (go_at_call 38; refine Stop.mk ?_)
  refine Stop.out ((new1_any _ (s.size : Int) 63).mono ?_)
  rintro e W9 ⟨g9, rfl, hg9, hl9, hb9⟩
  obtain ⟨r0, r1, rf⟩ := HR1.out.on hb9
  have HB9 : Hid (Below w.heap.size w W9) := HB1.out.trans (hb9.mono HB1.out.size)
  have HL9 : Hid (LkAt W9 g9 [(dB, (s.size : Int))]) := hl9
  have HG9 : Hid (w.heap.size ≠ g9) := Nat.ne_of_lt (Nat.lt_of_le_of_lt HB1.out.size hg9)
  clear hb9 hl9 hg9
  go_wp2
  refine bodyPost_ret (v := .agg #[.slice (some ⟨g9, 0, none⟩) 1 1, .int .i64 63]) (by simp [results, Tryz.results24, go_sem, r0, r1]) rfl ⟨_, rfl, ⟨g9, 1, rfl, lk_put HL9.out HG9.out _ _⟩, below_put HB9.out _ _⟩
set_option maxRecDepth 100000 in
set_option maxHeartbeats 8000000 in
theorem rcheck_more (w : World) (v : Int) (n : ByteArray) (p : Int) (u m : Nat) (c l : Bool) (s : ByteArray) (hv : v ≠ 18) (h0 : s.size ≠ 0) (hb : s.size ≤ 65534) (hu : 0 < u) (h2 : s.size % 2 ≠ 1) (h3 : s.size % u = 0) (h4 : s.size ≠ u)
    (C17 : ∀ W, Calls Tryz.prog 39 #[.int .i64 v] W fun e w' => e = .returned (.tuple #[.agg #[.string n, .int .u8 p, .int .i64 (u : Int), .int .i64 (m : Int), .bool false, .bool c, .bool true, .bool l], .bool true]) ∧ Below W.heap.size W w') :
    Calls Tryz.prog 24 #[.int .i64 v, .string s] w (CkD w (some ([(dB, (s.size : Int))], 63))) := by
  have e18 : (v == 18) = false := beq_eq_false_iff_ne.2 hv
  have i0 : ((s.size : Int) == 0) = false := beq_eq_false_iff_ne.2 (by omega)
  clear h0
  have i1 : ¬ ((s.size : Int) > 65534) := by omega
  have hu0 : ((u : Int) == 0) = false := by simp; omega
  have hu1 : ¬ ((u : Int) = 0) := by omega
  have hk2 : (s.size : Int).tmod 2 = ((s.size % 2 : Nat) : Int) := by rw [Int.tmod_eq_emod_of_nonneg (by omega)]; rfl
  have hku : (s.size : Int).tmod (u : Int) = ((s.size % u : Nat) : Int) := by rw [Int.tmod_eq_emod_of_nonneg (by omega)]; rfl
  have hmu : (s.size : Int) % (u : Int) = ((s.size % u : Nat) : Int) := rfl
  have hm2 : (s.size : Int) % 2 = ((s.size % 2 : Nat) : Int) := rfl
  have a2 : ((s.size : Int).tmod 2 == 1) = false := by rw [hk2]; exact beq_eq_false_iff_ne.2 (by omega)
  have b2 : ((s.size : Int) % 2 == 1) = false := by rw [hm2]; exact beq_eq_false_iff_ne.2 (by omega)
  have a3 : ((s.size : Int).tmod (u : Int) != 0) = false := by rw [hku, h3]; rfl
  have b3 : ((s.size : Int) % (u : Int) != 0) = false := by rw [hmu, h3]; rfl
  clear hku hmu hk2 hm2
  have a4 : ((s.size : Int) != (u : Int)) = true := by simp; omega
  have HR0 : Hid (Rz w.heap.size (w.alloc (.cells #[.slice none 0 0, .int .i64 0] 45))) := Rz.new w
  have HB0 : Hid (Below w.heap.size w (w.alloc (.cells #[.slice none 0 0, .int .i64 0] 45))) := (Below.refl _ _).alloc (Nat.le_refl _) _
  go_enter Tryz.func24, Tryz.ntmps24
  go_wp2_with (go_at_call 39; refine Stop.mk ?_)
  refine Stop.out ((C17 _).mono ?_)
  rintro e W1 ⟨rfl, hb1⟩
  have HR1 : Hid (Rz w.heap.size (W1.alloc (.cells #[.string n, .int .u8 p, .int .i64 (u : Int), .int .i64 (m : Int), .bool false, .bool c, .bool true, .bool l] 125))) := (HR0.out.on hb1).on ((Below.refl _ _).alloc (Nat.le_refl _) _)
  have HB1 : Hid (Below w.heap.size w (W1.alloc (.cells #[.string n, .int .u8 p, .int .i64 (u : Int), .int .i64 (m : Int), .bool false, .bool c, .bool true, .bool l] 125))) := (HB0.out.trans (hb1.mono HB0.out.size)).trans (((Below.refl _ _).alloc (Nat.le_refl _) _).mono (HB0.out.trans (hb1.mono HB0.out.size)).size)
  have HX1 : Hid (Xz W1.heap.size (W1.alloc (.cells #[.string n, .int .u8 p, .int .i64 (u : Int), .int .i64 (m : Int), .bool false, .bool c, .bool true, .bool l] 125)) n p (u : Int) (m : Int) false c true l) := Xz.new W1 n p u m false c true l
  clear hb1
  go_wp2_with (go_at_call 38; refine Stop.mk ?_)
  refine Stop.out ((new1_any _ (s.size : Int) 63).mono ?_)
  rintro e W9 ⟨g9, rfl, hg9, hl9, hb9⟩
  obtain ⟨r0, r1, rf⟩ := HR1.out.on hb9
  have HB9 : Hid (Below w.heap.size w W9) := HB1.out.trans (hb9.mono HB1.out.size)
  have HL9 : Hid (LkAt W9 g9 [(dB, (s.size : Int))]) := hl9
  have HG9 : Hid (w.heap.size ≠ g9) := Nat.ne_of_lt (Nat.lt_of_le_of_lt HB1.out.size hg9)
  clear hb9 hl9 hg9
  go_wp2
  refine bodyPost_ret (v := .agg #[.slice (some ⟨g9, 0, none⟩) 1 1, .int .i64 63]) (by simp [results, Tryz.results24, go_sem, r0, r1]) rfl ⟨_, rfl, ⟨g9, 1, rfl, lk_put HL9.out HG9.out _ _⟩, below_put HB9.out _ _⟩
set_option maxRecDepth 100000 in
set_option maxHeartbeats 8000000 in
theorem rcheck_one_char (w : World) (v : Int) (n : ByteArray) (p : Int) (u m : Nat) (c l : Bool) (s : ByteArray) (hv : v ≠ 18) (hb : s.size ≤ 65534) (hu : 0 < u) (h2 : s.size % 2 ≠ 1) (h3 : s.size % u = 0) (h4 : s.size = u) (bc : Int) (c21 : ∀ W, Calls Tryz.prog 41 #[.int .i64 v, .agg #[.string n, .int .u8 p, .int .i64 (u : Int), .int .i64 (m : Int), .bool false, .bool c, .bool true, .bool l], .string s] W fun e w' => e = .returned (.int .i64 bc) ∧ Below W.heap.size W w') (h5 : 0 ≤ bc)
    (C17 : ∀ W, Calls Tryz.prog 39 #[.int .i64 v] W fun e w' => e = .returned (.tuple #[.agg #[.string n, .int .u8 p, .int .i64 (u : Int), .int .i64 (m : Int), .bool false, .bool c, .bool true, .bool l], .bool true]) ∧ Below W.heap.size W w') :
    Calls Tryz.prog 24 #[.int .i64 v, .string s] w (CkD w (some ([(dB, bc)], 64))) := by
  have e18 : (v == 18) = false := beq_eq_false_iff_ne.2 hv
  have i0 : ((s.size : Int) == 0) = false := beq_eq_false_iff_ne.2 (by omega)
  have i1 : ¬ ((s.size : Int) > 65534) := by omega
  have hu0 : ((u : Int) == 0) = false := by simp; omega
  have hu1 : ¬ ((u : Int) = 0) := by omega
  have hk2 : (s.size : Int).tmod 2 = ((s.size % 2 : Nat) : Int) := by rw [Int.tmod_eq_emod_of_nonneg (by omega)]; rfl
  have hku : (s.size : Int).tmod (u : Int) = ((s.size % u : Nat) : Int) := by rw [Int.tmod_eq_emod_of_nonneg (by omega)]; rfl
  have hmu : (s.size : Int) % (u : Int) = ((s.size % u : Nat) : Int) := rfl
  have hm2 : (s.size : Int) % 2 = ((s.size % 2 : Nat) : Int) := rfl
  have a2 : ((s.size : Int).tmod 2 == 1) = false := by rw [hk2]; exact beq_eq_false_iff_ne.2 (by omega)
  have b2 : ((s.size : Int) % 2 == 1) = false := by rw [hm2]; exact beq_eq_false_iff_ne.2 (by omega)
  have a3 : ((s.size : Int).tmod (u : Int) != 0) = false := by rw [hku, h3]; rfl
  have b3 : ((s.size : Int) % (u : Int) != 0) = false := by rw [hmu, h3]; rfl
  clear hku hmu hk2 hm2
  have a4 : ((s.size : Int) != (u : Int)) = false := by rw [h4]; simp
  clear h4
  have i5 : bc ≥ 0 := h5
  have HR0 : Hid (Rz w.heap.size (w.alloc (.cells #[.slice none 0 0, .int .i64 0] 45))) := Rz.new w
  have HB0 : Hid (Below w.heap.size w (w.alloc (.cells #[.slice none 0 0, .int .i64 0] 45))) := (Below.refl _ _).alloc (Nat.le_refl _) _
  go_enter Tryz.func24, Tryz.ntmps24
  go_wp2_with (go_at_call 39; refine Stop.mk ?_)
  refine Stop.out ((C17 _).mono ?_)
  rintro e W1 ⟨rfl, hb1⟩
  have HR1 : Hid (Rz w.heap.size (W1.alloc (.cells #[.string n, .int .u8 p, .int .i64 (u : Int), .int .i64 (m : Int), .bool false, .bool c, .bool true, .bool l] 125))) := (HR0.out.on hb1).on ((Below.refl _ _).alloc (Nat.le_refl _) _)
  have HB1 : Hid (Below w.heap.size w (W1.alloc (.cells #[.string n, .int .u8 p, .int .i64 (u : Int), .int .i64 (m : Int), .bool false, .bool c, .bool true, .bool l] 125))) := (HB0.out.trans (hb1.mono HB0.out.size)).trans (((Below.refl _ _).alloc (Nat.le_refl _) _).mono (HB0.out.trans (hb1.mono HB0.out.size)).size)
  have HX1 : Hid (Xz W1.heap.size (W1.alloc (.cells #[.string n, .int .u8 p, .int .i64 (u : Int), .int .i64 (m : Int), .bool false, .bool c, .bool true, .bool l] 125)) n p (u : Int) (m : Int) false c true l) := Xz.new W1 n p u m false c true l
  clear hb1
  go_wp2_with (go_at_call 41; refine Stop.mk ?_)
  refine Stop.out ((c21 _).mono ?_)
  rintro e W5 ⟨rfl, hb5⟩
  have HR2 : Hid (Rz w.heap.size W5) := HR1.out.on hb5
  have HB2 : Hid (Below w.heap.size w W5) := HB1.out.trans (hb5.mono HB1.out.size)
  have HX2 : Hid (Xz W1.heap.size W5 n p (u : Int) (m : Int) false c true l) := HX1.out.on hb5
  clear hb5
  obtain ⟨y20, y21, y22, y23, y24, y25, y26, y27⟩ := HX2.out
  go_wp2_with (go_at_call 38; refine Stop.mk ?_)
  refine Stop.out ((new1_any _ bc 64).mono ?_)
  rintro e W9 ⟨g9, rfl, hg9, hl9, hb9⟩
  obtain ⟨r0, r1, rf⟩ := HR2.out.on hb9
  have HB9 : Hid (Below w.heap.size w W9) := HB2.out.trans (hb9.mono HB2.out.size)
  have HL9 : Hid (LkAt W9 g9 [(dB, bc)]) := hl9
  have HG9 : Hid (w.heap.size ≠ g9) := Nat.ne_of_lt (Nat.lt_of_le_of_lt HB2.out.size hg9)
  clear hb9 hl9 hg9
  go_wp2
  refine bodyPost_ret (v := .agg #[.slice (some ⟨g9, 0, none⟩) 1 1, .int .i64 64]) (by simp [results, Tryz.results24, go_sem, r0, r1]) rfl ⟨_, rfl, ⟨g9, 1, rfl, lk_put HL9.out HG9.out _ _⟩, below_put HB9.out _ _⟩
set_option maxRecDepth 100000 in
set_option maxHeartbeats 8000000 in
theorem rcheck_one_form (w : World) (v : Int) (n : ByteArray) (p : Int) (u m : Nat) (c l : Bool) (s : ByteArray) (hv : v ≠ 18) (hb : s.size ≤ 65534) (hu : 0 < u) (h2 : s.size % 2 ≠ 1) (h3 : s.size % u = 0) (h4 : s.size = u) (bc : Int) (c21 : ∀ W, Calls Tryz.prog 41 #[.int .i64 v, .agg #[.string n, .int .u8 p, .int .i64 (u : Int), .int .i64 (m : Int), .bool false, .bool c, .bool true, .bool l], .string s] W fun e w' => e = .returned (.int .i64 bc) ∧ Below W.heap.size W w') (h5 : ¬ 0 ≤ bc) (c22 : ∀ W, Calls Tryz.prog 42 #[.int .i64 v, .string s] W fun e w' => e = .returned (.bool false) ∧ Below W.heap.size W w')
    (C17 : ∀ W, Calls Tryz.prog 39 #[.int .i64 v] W fun e w' => e = .returned (.tuple #[.agg #[.string n, .int .u8 p, .int .i64 (u : Int), .int .i64 (m : Int), .bool false, .bool c, .bool true, .bool l], .bool true]) ∧ Below W.heap.size W w') :
    Calls Tryz.prog 24 #[.int .i64 v, .string s] w (CkD w (some ([(dB, 0)], 65))) := by
  have e18 : (v == 18) = false := beq_eq_false_iff_ne.2 hv
  have i0 : ((s.size : Int) == 0) = false := beq_eq_false_iff_ne.2 (by omega)
  have i1 : ¬ ((s.size : Int) > 65534) := by omega
  have hu0 : ((u : Int) == 0) = false := by simp; omega
  have hu1 : ¬ ((u : Int) = 0) := by omega
  have hk2 : (s.size : Int).tmod 2 = ((s.size % 2 : Nat) : Int) := by rw [Int.tmod_eq_emod_of_nonneg (by omega)]; rfl
  have hku : (s.size : Int).tmod (u : Int) = ((s.size % u : Nat) : Int) := by rw [Int.tmod_eq_emod_of_nonneg (by omega)]; rfl
  have hmu : (s.size : Int) % (u : Int) = ((s.size % u : Nat) : Int) := rfl
  have hm2 : (s.size : Int) % 2 = ((s.size % 2 : Nat) : Int) := rfl
  have a2 : ((s.size : Int).tmod 2 == 1) = false := by rw [hk2]; exact beq_eq_false_iff_ne.2 (by omega)
  have b2 : ((s.size : Int) % 2 == 1) = false := by rw [hm2]; exact beq_eq_false_iff_ne.2 (by omega)
  have a3 : ((s.size : Int).tmod (u : Int) != 0) = false := by rw [hku, h3]; rfl
  have b3 : ((s.size : Int) % (u : Int) != 0) = false := by rw [hmu, h3]; rfl
  clear hku hmu hk2 hm2
  have a4 : ((s.size : Int) != (u : Int)) = false := by rw [h4]; simp
  clear h4
  have i5 : ¬ (bc ≥ 0) := h5
  have HR0 : Hid (Rz w.heap.size (w.alloc (.cells #[.slice none 0 0, .int .i64 0] 45))) := Rz.new w
  have HB0 : Hid (Below w.heap.size w (w.alloc (.cells #[.slice none 0 0, .int .i64 0] 45))) := (Below.refl _ _).alloc (Nat.le_refl _) _
  go_enter Tryz.func24, Tryz.ntmps24
  go_wp2_with (go_at_call 39; refine Stop.mk ?_)
  refine Stop.out ((C17 _).mono ?_)
  rintro e W1 ⟨rfl, hb1⟩
  have HR1 : Hid (Rz w.heap.size (W1.alloc (.cells #[.string n, .int .u8 p, .int .i64 (u : Int), .int .i64 (m : Int), .bool false, .bool c, .bool true, .bool l] 125))) := (HR0.out.on hb1).on ((Below.refl _ _).alloc (Nat.le_refl _) _)
  have HB1 : Hid (Below w.heap.size w (W1.alloc (.cells #[.string n, .int .u8 p, .int .i64 (u : Int), .int .i64 (m : Int), .bool false, .bool c, .bool true, .bool l] 125))) := (HB0.out.trans (hb1.mono HB0.out.size)).trans (((Below.refl _ _).alloc (Nat.le_refl _) _).mono (HB0.out.trans (hb1.mono HB0.out.size)).size)
  have HX1 : Hid (Xz W1.heap.size (W1.alloc (.cells #[.string n, .int .u8 p, .int .i64 (u : Int), .int .i64 (m : Int), .bool false, .bool c, .bool true, .bool l] 125)) n p (u : Int) (m : Int) false c true l) := Xz.new W1 n p u m false c true l
  clear hb1
  go_wp2_with (go_at_call 41; refine Stop.mk ?_)
  refine Stop.out ((c21 _).mono ?_)
  rintro e W5 ⟨rfl, hb5⟩
  have HR2 : Hid (Rz w.heap.size W5) := HR1.out.on hb5
  have HB2 : Hid (Below w.heap.size w W5) := HB1.out.trans (hb5.mono HB1.out.size)
  have HX2 : Hid (Xz W1.heap.size W5 n p (u : Int) (m : Int) false c true l) := HX1.out.on hb5
  clear hb5
  obtain ⟨y20, y21, y22, y23, y24, y25, y26, y27⟩ := HX2.out
  go_wp2_with (go_at_call 42; refine Stop.mk ?_)
  refine Stop.out ((c22 _).mono ?_)
  rintro e W6 ⟨rfl, hb6⟩
  have HR3 : Hid (Rz w.heap.size W6) := HR2.out.on hb6
  have HB3 : Hid (Below w.heap.size w W6) := HB2.out.trans (hb6.mono HB2.out.size)
  have HX3 : Hid (Xz W1.heap.size W6 n p (u : Int) (m : Int) false c true l) := HX2.out.on hb6
  clear hb6
  obtain ⟨y30, y31, y32, y33, y34, y35, y36, y37⟩ := HX3.out
  go_wp2_with (go_at_call 38; refine Stop.mk ?_)
  refine Stop.out ((new1_any _ 0 65).mono ?_)
  rintro e W9 ⟨g9, rfl, hg9, hl9, hb9⟩
  obtain ⟨r0, r1, rf⟩ := HR3.out.on hb9
  have HB9 : Hid (Below w.heap.size w W9) := HB3.out.trans (hb9.mono HB3.out.size)
  have HL9 : Hid (LkAt W9 g9 [(dB, 0)]) := hl9
  have HG9 : Hid (w.heap.size ≠ g9) := Nat.ne_of_lt (Nat.lt_of_le_of_lt HB3.out.size hg9)
  clear hb9 hl9 hg9
  go_wp2
  refine bodyPost_ret (v := .agg #[.slice (some ⟨g9, 0, none⟩) 1 1, .int .i64 65]) (by simp [results, Tryz.results24, go_sem, r0, r1]) rfl ⟨_, rfl, ⟨g9, 1, rfl, lk_put HL9.out HG9.out _ _⟩, below_put HB9.out _ _⟩
set_option maxRecDepth 100000 in
set_option maxHeartbeats 8000000 in
theorem rcheck_one_good (w : World) (v : Int) (n : ByteArray) (p : Int) (u m : Nat) (c l : Bool) (s : ByteArray) (hv : v ≠ 18) (hb : s.size ≤ 65534) (hu : 0 < u) (h2 : s.size % 2 ≠ 1) (h3 : s.size % u = 0) (h4 : s.size = u) (bc : Int) (c21 : ∀ W, Calls Tryz.prog 41 #[.int .i64 v, .agg #[.string n, .int .u8 p, .int .i64 (u : Int), .int .i64 (m : Int), .bool false, .bool c, .bool true, .bool l], .string s] W fun e w' => e = .returned (.int .i64 bc) ∧ Below W.heap.size W w') (h5 : ¬ 0 ≤ bc) (c22 : ∀ W, Calls Tryz.prog 42 #[.int .i64 v, .string s] W fun e w' => e = .returned (.bool true) ∧ Below W.heap.size W w')
    (C17 : ∀ W, Calls Tryz.prog 39 #[.int .i64 v] W fun e w' => e = .returned (.tuple #[.agg #[.string n, .int .u8 p, .int .i64 (u : Int), .int .i64 (m : Int), .bool false, .bool c, .bool true, .bool l], .bool true]) ∧ Below W.heap.size W w') :
    Calls Tryz.prog 24 #[.int .i64 v, .string s] w (CkD w (none)) := by
  have e18 : (v == 18) = false := beq_eq_false_iff_ne.2 hv
  have i0 : ((s.size : Int) == 0) = false := beq_eq_false_iff_ne.2 (by omega)
  have i1 : ¬ ((s.size : Int) > 65534) := by omega
  have hu0 : ((u : Int) == 0) = false := by simp; omega
  have hu1 : ¬ ((u : Int) = 0) := by omega
  have hk2 : (s.size : Int).tmod 2 = ((s.size % 2 : Nat) : Int) := by rw [Int.tmod_eq_emod_of_nonneg (by omega)]; rfl
  have hku : (s.size : Int).tmod (u : Int) = ((s.size % u : Nat) : Int) := by rw [Int.tmod_eq_emod_of_nonneg (by omega)]; rfl
  have hmu : (s.size : Int) % (u : Int) = ((s.size % u : Nat) : Int) := rfl
  have hm2 : (s.size : Int) % 2 = ((s.size % 2 : Nat) : Int) := rfl
  have a2 : ((s.size : Int).tmod 2 == 1) = false := by rw [hk2]; exact beq_eq_false_iff_ne.2 (by omega)
  have b2 : ((s.size : Int) % 2 == 1) = false := by rw [hm2]; exact beq_eq_false_iff_ne.2 (by omega)
  have a3 : ((s.size : Int).tmod (u : Int) != 0) = false := by rw [hku, h3]; rfl
  have b3 : ((s.size : Int) % (u : Int) != 0) = false := by rw [hmu, h3]; rfl
  clear hku hmu hk2 hm2
  have a4 : ((s.size : Int) != (u : Int)) = false := by rw [h4]; simp
  clear h4
  have i5 : ¬ (bc ≥ 0) := h5
  have HR0 : Hid (Rz w.heap.size (w.alloc (.cells #[.slice none 0 0, .int .i64 0] 45))) := Rz.new w
  have HB0 : Hid (Below w.heap.size w (w.alloc (.cells #[.slice none 0 0, .int .i64 0] 45))) := (Below.refl _ _).alloc (Nat.le_refl _) _
  go_enter Tryz.func24, Tryz.ntmps24
  go_wp2_with (go_at_call 39; refine Stop.mk ?_)
  refine Stop.out ((C17 _).mono ?_)
  rintro e W1 ⟨rfl, hb1⟩
  have HR1 : Hid (Rz w.heap.size (W1.alloc (.cells #[.string n, .int .u8 p, .int .i64 (u : Int), .int .i64 (m : Int), .bool false, .bool c, .bool true, .bool l] 125))) := (HR0.out.on hb1).on ((Below.refl _ _).alloc (Nat.le_refl _) _)
  have HB1 : Hid (Below w.heap.size w (W1.alloc (.cells #[.string n, .int .u8 p, .int .i64 (u : Int), .int .i64 (m : Int), .bool false, .bool c, .bool true, .bool l] 125))) := (HB0.out.trans (hb1.mono HB0.out.size)).trans (((Below.refl _ _).alloc (Nat.le_refl _) _).mono (HB0.out.trans (hb1.mono HB0.out.size)).size)
  have HX1 : Hid (Xz W1.heap.size (W1.alloc (.cells #[.string n, .int .u8 p, .int .i64 (u : Int), .int .i64 (m : Int), .bool false, .bool c, .bool true, .bool l] 125)) n p (u : Int) (m : Int) false c true l) := Xz.new W1 n p u m false c true l
  clear hb1
  go_wp2_with (go_at_call 41; refine Stop.mk ?_)
  refine Stop.out ((c21 _).mono ?_)
  rintro e W5 ⟨rfl, hb5⟩
  have HR2 : Hid (Rz w.heap.size W5) := HR1.out.on hb5
  have HB2 : Hid (Below w.heap.size w W5) := HB1.out.trans (hb5.mono HB1.out.size)
  have HX2 : Hid (Xz W1.heap.size W5 n p (u : Int) (m : Int) false c true l) := HX1.out.on hb5
  clear hb5
  obtain ⟨y20, y21, y22, y23, y24, y25, y26, y27⟩ := HX2.out
  go_wp2_with (go_at_call 42; refine Stop.mk ?_)
  refine Stop.out ((c22 _).mono ?_)
  rintro e W6 ⟨rfl, hb6⟩
  have HR3 : Hid (Rz w.heap.size W6) := HR2.out.on hb6
  have HB3 : Hid (Below w.heap.size w W6) := HB2.out.trans (hb6.mono HB2.out.size)
  have HX3 : Hid (Xz W1.heap.size W6 n p (u : Int) (m : Int) false c true l) := HX2.out.on hb6
  clear hb6
  obtain ⟨y30, y31, y32, y33, y34, y35, y36, y37⟩ := HX3.out
  go_wp2_with (go_at_call 27; refine Stop.mk ?_)
  refine Stop.out ((rnone_any _).mono ?_)
  rintro e W9 ⟨rfl, hb9⟩
  obtain ⟨r0, r1, rf⟩ := HR3.out.on hb9
  have HB9 : Hid (Below w.heap.size w W9) := HB3.out.trans (hb9.mono HB3.out.size)
  clear hb9
  go_wp2
  refine bodyPost_ret (v := .agg #[.slice none 0 0, .int .i64 0]) (by simp [results, Tryz.results24, go_sem, r0, r1]) rfl ⟨_, rfl, rfl, below_put HB9.out _ _⟩
set_option maxRecDepth 100000 in
set_option maxHeartbeats 8000000 in
theorem rcheck_many_char (w : World) (v : Int) (n : ByteArray) (p : Int) (u m : Nat) (c l : Bool) (s : ByteArray) (hv : v ≠ 18) (h0 : s.size ≠ 0) (hb : s.size ≤ 65534) (hu : 0 < u) (h2 : s.size % 2 ≠ 1) (h3 : s.size % u = 0) (bc : Int) (c21 : ∀ W, Calls Tryz.prog 41 #[.int .i64 v, .agg #[.string n, .int .u8 p, .int .i64 (u : Int), .int .i64 (m : Int), .bool false, .bool c, .bool false, .bool l], .string s] W fun e w' => e = .returned (.int .i64 bc) ∧ Below W.heap.size W w') (h5 : 0 ≤ bc)
    (C17 : ∀ W, Calls Tryz.prog 39 #[.int .i64 v] W fun e w' => e = .returned (.tuple #[.agg #[.string n, .int .u8 p, .int .i64 (u : Int), .int .i64 (m : Int), .bool false, .bool c, .bool false, .bool l], .bool true]) ∧ Below W.heap.size W w') :
    Calls Tryz.prog 24 #[.int .i64 v, .string s] w (CkD w (some ([(dB, bc)], 64))) := by
  have e18 : (v == 18) = false := beq_eq_false_iff_ne.2 hv
  have i0 : ((s.size : Int) == 0) = false := beq_eq_false_iff_ne.2 (by omega)
  clear h0
  have i1 : ¬ ((s.size : Int) > 65534) := by omega
  have hu0 : ((u : Int) == 0) = false := by simp; omega
  have hu1 : ¬ ((u : Int) = 0) := by omega
  have hk2 : (s.size : Int).tmod 2 = ((s.size % 2 : Nat) : Int) := by rw [Int.tmod_eq_emod_of_nonneg (by omega)]; rfl
  have hku : (s.size : Int).tmod (u : Int) = ((s.size % u : Nat) : Int) := by rw [Int.tmod_eq_emod_of_nonneg (by omega)]; rfl
  have hmu : (s.size : Int) % (u : Int) = ((s.size % u : Nat) : Int) := rfl
  have hm2 : (s.size : Int) % 2 = ((s.size % 2 : Nat) : Int) := rfl
  have a2 : ((s.size : Int).tmod 2 == 1) = false := by rw [hk2]; exact beq_eq_false_iff_ne.2 (by omega)
  have b2 : ((s.size : Int) % 2 == 1) = false := by rw [hm2]; exact beq_eq_false_iff_ne.2 (by omega)
  have a3 : ((s.size : Int).tmod (u : Int) != 0) = false := by rw [hku, h3]; rfl
  have b3 : ((s.size : Int) % (u : Int) != 0) = false := by rw [hmu, h3]; rfl
  clear hku hmu hk2 hm2
  have i5 : bc ≥ 0 := h5
  have HR0 : Hid (Rz w.heap.size (w.alloc (.cells #[.slice none 0 0, .int .i64 0] 45))) := Rz.new w
  have HB0 : Hid (Below w.heap.size w (w.alloc (.cells #[.slice none 0 0, .int .i64 0] 45))) := (Below.refl _ _).alloc (Nat.le_refl _) _
  go_enter Tryz.func24, Tryz.ntmps24
  go_wp2_with (go_at_call 39; refine Stop.mk ?_)
  refine Stop.out ((C17 _).mono ?_)
  rintro e W1 ⟨rfl, hb1⟩
  have HR1 : Hid (Rz w.heap.size (W1.alloc (.cells #[.string n, .int .u8 p, .int .i64 (u : Int), .int .i64 (m : Int), .bool false, .bool c, .bool false, .bool l] 125))) := (HR0.out.on hb1).on ((Below.refl _ _).alloc (Nat.le_refl _) _)
  have HB1 : Hid (Below w.heap.size w (W1.alloc (.cells #[.string n, .int .u8 p, .int .i64 (u : Int), .int .i64 (m : Int), .bool false, .bool c, .bool false, .bool l] 125))) := (HB0.out.trans (hb1.mono HB0.out.size)).trans (((Below.refl _ _).alloc (Nat.le_refl _) _).mono (HB0.out.trans (hb1.mono HB0.out.size)).size)
  have HX1 : Hid (Xz W1.heap.size (W1.alloc (.cells #[.string n, .int .u8 p, .int .i64 (u : Int), .int .i64 (m : Int), .bool false, .bool c, .bool false, .bool l] 125)) n p (u : Int) (m : Int) false c false l) := Xz.new W1 n p u m false c false l
  clear hb1
  go_wp2_with (go_at_call 41; refine Stop.mk ?_)
  refine Stop.out ((c21 _).mono ?_)
  rintro e W5 ⟨rfl, hb5⟩
  have HR2 : Hid (Rz w.heap.size W5) := HR1.out.on hb5
  have HB2 : Hid (Below w.heap.size w W5) := HB1.out.trans (hb5.mono HB1.out.size)
  have HX2 : Hid (Xz W1.heap.size W5 n p (u : Int) (m : Int) false c false l) := HX1.out.on hb5
  clear hb5
  obtain ⟨y20, y21, y22, y23, y24, y25, y26, y27⟩ := HX2.out
  go_wp2_with (go_at_call 38; refine Stop.mk ?_)
  refine Stop.out ((new1_any _ bc 64).mono ?_)
  rintro e W9 ⟨g9, rfl, hg9, hl9, hb9⟩
  obtain ⟨r0, r1, rf⟩ := HR2.out.on hb9
  have HB9 : Hid (Below w.heap.size w W9) := HB2.out.trans (hb9.mono HB2.out.size)
  have HL9 : Hid (LkAt W9 g9 [(dB, bc)]) := hl9
  have HG9 : Hid (w.heap.size ≠ g9) := Nat.ne_of_lt (Nat.lt_of_le_of_lt HB2.out.size hg9)
  clear hb9 hl9 hg9
  go_wp2
  refine bodyPost_ret (v := .agg #[.slice (some ⟨g9, 0, none⟩) 1 1, .int .i64 64]) (by simp [results, Tryz.results24, go_sem, r0, r1]) rfl ⟨_, rfl, ⟨g9, 1, rfl, lk_put HL9.out HG9.out _ _⟩, below_put HB9.out _ _⟩
set_option maxRecDepth 100000 in
set_option maxHeartbeats 8000000 in
theorem rcheck_many_form (w : World) (v : Int) (n : ByteArray) (p : Int) (u m : Nat) (c l : Bool) (s : ByteArray) (hv : v ≠ 18) (h0 : s.size ≠ 0) (hb : s.size ≤ 65534) (hu : 0 < u) (h2 : s.size % 2 ≠ 1) (h3 : s.size % u = 0) (bc : Int) (c21 : ∀ W, Calls Tryz.prog 41 #[.int .i64 v, .agg #[.string n, .int .u8 p, .int .i64 (u : Int), .int .i64 (m : Int), .bool false, .bool c, .bool false, .bool l], .string s] W fun e w' => e = .returned (.int .i64 bc) ∧ Below W.heap.size W w') (h5 : ¬ 0 ≤ bc) (c22 : ∀ W, Calls Tryz.prog 42 #[.int .i64 v, .string s] W fun e w' => e = .returned (.bool false) ∧ Below W.heap.size W w')
    (C17 : ∀ W, Calls Tryz.prog 39 #[.int .i64 v] W fun e w' => e = .returned (.tuple #[.agg #[.string n, .int .u8 p, .int .i64 (u : Int), .int .i64 (m : Int), .bool false, .bool c, .bool false, .bool l], .bool true]) ∧ Below W.heap.size W w') :
    Calls Tryz.prog 24 #[.int .i64 v, .string s] w (CkD w (some ([(dB, 0)], 65))) := by
  have e18 : (v == 18) = false := beq_eq_false_iff_ne.2 hv
  have i0 : ((s.size : Int) == 0) = false := beq_eq_false_iff_ne.2 (by omega)
  clear h0
  have i1 : ¬ ((s.size : Int) > 65534) := by omega
  have hu0 : ((u : Int) == 0) = false := by simp; omega
  have hu1 : ¬ ((u : Int) = 0) := by omega
  have hk2 : (s.size : Int).tmod 2 = ((s.size % 2 : Nat) : Int) := by rw [Int.tmod_eq_emod_of_nonneg (by omega)]; rfl
  have hku : (s.size : Int).tmod (u : Int) = ((s.size % u : Nat) : Int) := by rw [Int.tmod_eq_emod_of_nonneg (by omega)]; rfl
  have hmu : (s.size : Int) % (u : Int) = ((s.size % u : Nat) : Int) := rfl
  have hm2 : (s.size : Int) % 2 = ((s.size % 2 : Nat) : Int) := rfl
  have a2 : ((s.size : Int).tmod 2 == 1) = false := by rw [hk2]; exact beq_eq_false_iff_ne.2 (by omega)
  have b2 : ((s.size : Int) % 2 == 1) = false := by rw [hm2]; exact beq_eq_false_iff_ne.2 (by omega)
  have a3 : ((s.size : Int).tmod (u : Int) != 0) = false := by rw [hku, h3]; rfl
  have b3 : ((s.size : Int) % (u : Int) != 0) = false := by rw [hmu, h3]; rfl
  clear hku hmu hk2 hm2
  have i5 : ¬ (bc ≥ 0) := h5
  have HR0 : Hid (Rz w.heap.size (w.alloc (.cells #[.slice none 0 0, .int .i64 0] 45))) := Rz.new w
  have HB0 : Hid (Below w.heap.size w (w.alloc (.cells #[.slice none 0 0, .int .i64 0] 45))) := (Below.refl _ _).alloc (Nat.le_refl _) _
  go_enter Tryz.func24, Tryz.ntmps24
  go_wp2_with (go_at_call 39; refine Stop.mk ?_)
  refine Stop.out ((C17 _).mono ?_)
  rintro e W1 ⟨rfl, hb1⟩
  have HR1 : Hid (Rz w.heap.size (W1.alloc (.cells #[.string n, .int .u8 p, .int .i64 (u : Int), .int .i64 (m : Int), .bool false, .bool c, .bool false, .bool l] 125))) := (HR0.out.on hb1).on ((Below.refl _ _).alloc (Nat.le_refl _) _)
  have HB1 : Hid (Below w.heap.size w (W1.alloc (.cells #[.string n, .int .u8 p, .int .i64 (u : Int), .int .i64 (m : Int), .bool false, .bool c, .bool false, .bool l] 125))) := (HB0.out.trans (hb1.mono HB0.out.size)).trans (((Below.refl _ _).alloc (Nat.le_refl _) _).mono (HB0.out.trans (hb1.mono HB0.out.size)).size)
  have HX1 : Hid (Xz W1.heap.size (W1.alloc (.cells #[.string n, .int .u8 p, .int .i64 (u : Int), .int .i64 (m : Int), .bool false, .bool c, .bool false, .bool l] 125)) n p (u : Int) (m : Int) false c false l) := Xz.new W1 n p u m false c false l
  clear hb1
  go_wp2_with (go_at_call 41; refine Stop.mk ?_)
  refine Stop.out ((c21 _).mono ?_)
  rintro e W5 ⟨rfl, hb5⟩
  have HR2 : Hid (Rz w.heap.size W5) := HR1.out.on hb5
  have HB2 : Hid (Below w.heap.size w W5) := HB1.out.trans (hb5.mono HB1.out.size)
  have HX2 : Hid (Xz W1.heap.size W5 n p (u : Int) (m : Int) false c false l) := HX1.out.on hb5
  clear hb5
  obtain ⟨y20, y21, y22, y23, y24, y25, y26, y27⟩ := HX2.out
  go_wp2_with (go_at_call 42; refine Stop.mk ?_)
  refine Stop.out ((c22 _).mono ?_)
  rintro e W6 ⟨rfl, hb6⟩
  have HR3 : Hid (Rz w.heap.size W6) := HR2.out.on hb6
  have HB3 : Hid (Below w.heap.size w W6) := HB2.out.trans (hb6.mono HB2.out.size)
  have HX3 : Hid (Xz W1.heap.size W6 n p (u : Int) (m : Int) false c false l) := HX2.out.on hb6
  clear hb6
  obtain ⟨y30, y31, y32, y33, y34, y35, y36, y37⟩ := HX3.out
  go_wp2_with (go_at_call 38; refine Stop.mk ?_)
  refine Stop.out ((new1_any _ 0 65).mono ?_)
  rintro e W9 ⟨g9, rfl, hg9, hl9, hb9⟩
  obtain ⟨r0, r1, rf⟩ := HR3.out.on hb9
  have HB9 : Hid (Below w.heap.size w W9) := HB3.out.trans (hb9.mono HB3.out.size)
  have HL9 : Hid (LkAt W9 g9 [(dB, 0)]) := hl9
  have HG9 : Hid (w.heap.size ≠ g9) := Nat.ne_of_lt (Nat.lt_of_le_of_lt HB3.out.size hg9)
  clear hb9 hl9 hg9
  go_wp2
  refine bodyPost_ret (v := .agg #[.slice (some ⟨g9, 0, none⟩) 1 1, .int .i64 65]) (by simp [results, Tryz.results24, go_sem, r0, r1]) rfl ⟨_, rfl, ⟨g9, 1, rfl, lk_put HL9.out HG9.out _ _⟩, below_put HB9.out _ _⟩
set_option maxRecDepth 100000 in
set_option maxHeartbeats 8000000 in
theorem rcheck_many_good (w : World) (v : Int) (n : ByteArray) (p : Int) (u m : Nat) (c l : Bool) (s : ByteArray) (hv : v ≠ 18) (h0 : s.size ≠ 0) (hb : s.size ≤ 65534) (hu : 0 < u) (h2 : s.size % 2 ≠ 1) (h3 : s.size % u = 0) (bc : Int) (c21 : ∀ W, Calls Tryz.prog 41 #[.int .i64 v, .agg #[.string n, .int .u8 p, .int .i64 (u : Int), .int .i64 (m : Int), .bool false, .bool c, .bool false, .bool l], .string s] W fun e w' => e = .returned (.int .i64 bc) ∧ Below W.heap.size W w') (h5 : ¬ 0 ≤ bc) (c22 : ∀ W, Calls Tryz.prog 42 #[.int .i64 v, .string s] W fun e w' => e = .returned (.bool true) ∧ Below W.heap.size W w')
    (C17 : ∀ W, Calls Tryz.prog 39 #[.int .i64 v] W fun e w' => e = .returned (.tuple #[.agg #[.string n, .int .u8 p, .int .i64 (u : Int), .int .i64 (m : Int), .bool false, .bool c, .bool false, .bool l], .bool true]) ∧ Below W.heap.size W w') :
    Calls Tryz.prog 24 #[.int .i64 v, .string s] w (CkD w (none)) := by
  have e18 : (v == 18) = false := beq_eq_false_iff_ne.2 hv
  have i0 : ((s.size : Int) == 0) = false := beq_eq_false_iff_ne.2 (by omega)
  clear h0
  have i1 : ¬ ((s.size : Int) > 65534) := by omega
  have hu0 : ((u : Int) == 0) = false := by simp; omega
  have hu1 : ¬ ((u : Int) = 0) := by omega
  have hk2 : (s.size : Int).tmod 2 = ((s.size % 2 : Nat) : Int) := by rw [Int.tmod_eq_emod_of_nonneg (by omega)]; rfl
  have hku : (s.size : Int).tmod (u : Int) = ((s.size % u : Nat) : Int) := by rw [Int.tmod_eq_emod_of_nonneg (by omega)]; rfl
  have hmu : (s.size : Int) % (u : Int) = ((s.size % u : Nat) : Int) := rfl
  have hm2 : (s.size : Int) % 2 = ((s.size % 2 : Nat) : Int) := rfl
  have a2 : ((s.size : Int).tmod 2 == 1) = false := by rw [hk2]; exact beq_eq_false_iff_ne.2 (by omega)
  have b2 : ((s.size : Int) % 2 == 1) = false := by rw [hm2]; exact beq_eq_false_iff_ne.2 (by omega)
  have a3 : ((s.size : Int).tmod (u : Int) != 0) = false := by rw [hku, h3]; rfl
  have b3 : ((s.size : Int) % (u : Int) != 0) = false := by rw [hmu, h3]; rfl
  clear hku hmu hk2 hm2
  have i5 : ¬ (bc ≥ 0) := h5
  have HR0 : Hid (Rz w.heap.size (w.alloc (.cells #[.slice none 0 0, .int .i64 0] 45))) := Rz.new w
  have HB0 : Hid (Below w.heap.size w (w.alloc (.cells #[.slice none 0 0, .int .i64 0] 45))) := (Below.refl _ _).alloc (Nat.le_refl _) _
  go_enter Tryz.func24, Tryz.ntmps24
  go_wp2_with (go_at_call 39; refine Stop.mk ?_)
  refine Stop.out ((C17 _).mono ?_)
  rintro e W1 ⟨rfl, hb1⟩
  have HR1 : Hid (Rz w.heap.size (W1.alloc (.cells #[.string n, .int .u8 p, .int .i64 (u : Int), .int .i64 (m : Int), .bool false, .bool c, .bool false, .bool l] 125))) := (HR0.out.on hb1).on ((Below.refl _ _).alloc (Nat.le_refl _) _)
  have HB1 : Hid (Below w.heap.size w (W1.alloc (.cells #[.string n, .int .u8 p, .int .i64 (u : Int), .int .i64 (m : Int), .bool false, .bool c, .bool false, .bool l] 125))) := (HB0.out.trans (hb1.mono HB0.out.size)).trans (((Below.refl _ _).alloc (Nat.le_refl _) _).mono (HB0.out.trans (hb1.mono HB0.out.size)).size)
  have HX1 : Hid (Xz W1.heap.size (W1.alloc (.cells #[.string n, .int .u8 p, .int .i64 (u : Int), .int .i64 (m : Int), .bool false, .bool c, .bool false, .bool l] 125)) n p (u : Int) (m : Int) false c false l) := Xz.new W1 n p u m false c false l
  clear hb1
  go_wp2_with (go_at_call 41; refine Stop.mk ?_)
  refine Stop.out ((c21 _).mono ?_)
  rintro e W5 ⟨rfl, hb5⟩
  have HR2 : Hid (Rz w.heap.size W5) := HR1.out.on hb5
  have HB2 : Hid (Below w.heap.size w W5) := HB1.out.trans (hb5.mono HB1.out.size)
  have HX2 : Hid (Xz W1.heap.size W5 n p (u : Int) (m : Int) false c false l) := HX1.out.on hb5
  clear hb5
  obtain ⟨y20, y21, y22, y23, y24, y25, y26, y27⟩ := HX2.out
  go_wp2_with (go_at_call 42; refine Stop.mk ?_)
  refine Stop.out ((c22 _).mono ?_)
  rintro e W6 ⟨rfl, hb6⟩
  have HR3 : Hid (Rz w.heap.size W6) := HR2.out.on hb6
  have HB3 : Hid (Below w.heap.size w W6) := HB2.out.trans (hb6.mono HB2.out.size)
  have HX3 : Hid (Xz W1.heap.size W6 n p (u : Int) (m : Int) false c false l) := HX2.out.on hb6
  clear hb6
  obtain ⟨y30, y31, y32, y33, y34, y35, y36, y37⟩ := HX3.out
  go_wp2_with (go_at_call 27; refine Stop.mk ?_)
  refine Stop.out ((rnone_any _).mono ?_)
  rintro e W9 ⟨rfl, hb9⟩
  obtain ⟨r0, r1, rf⟩ := HR3.out.on hb9
  have HB9 : Hid (Below w.heap.size w W9) := HB3.out.trans (hb9.mono HB3.out.size)
  clear hb9
  go_wp2
  refine bodyPost_ret (v := .agg #[.slice none 0 0, .int .i64 0]) (by simp [results, Tryz.results24, go_sem, r0, r1]) rfl ⟨_, rfl, rfl, below_put HB9.out _ _⟩
set_option maxRecDepth 100000 in
set_option maxHeartbeats 8000000 in
theorem rcheck_free_char (w : World) (v : Int) (n : ByteArray) (p : Int) (u m : Nat) (c q l : Bool) (s : ByteArray) (hv : v ≠ 18) (h0 : s.size ≠ 0) (hb : s.size ≤ 65534) (hm : m = 0) (bc : Int) (c21 : ∀ W, Calls Tryz.prog 41 #[.int .i64 v, .agg #[.string n, .int .u8 p, .int .i64 (u : Int), .int .i64 (m : Int), .bool true, .bool c, .bool q, .bool l], .string s] W fun e w' => e = .returned (.int .i64 bc) ∧ Below W.heap.size W w') (h5 : 0 ≤ bc)
    (C17 : ∀ W, Calls Tryz.prog 39 #[.int .i64 v] W fun e w' => e = .returned (.tuple #[.agg #[.string n, .int .u8 p, .int .i64 (u : Int), .int .i64 (m : Int), .bool true, .bool c, .bool q, .bool l], .bool true]) ∧ Below W.heap.size W w') :
    Calls Tryz.prog 24 #[.int .i64 v, .string s] w (CkD w (some ([(dB, bc)], 64))) := by
  have e18 : (v == 18) = false := beq_eq_false_iff_ne.2 hv
  have i0 : ((s.size : Int) == 0) = false := beq_eq_false_iff_ne.2 (by omega)
  clear h0
  have i1 : ¬ ((s.size : Int) > 65534) := by omega
  have i2 : ¬ ((m : Int) > 0) := by omega
  clear hm
  have i5 : bc ≥ 0 := h5
  have HR0 : Hid (Rz w.heap.size (w.alloc (.cells #[.slice none 0 0, .int .i64 0] 45))) := Rz.new w
  have HB0 : Hid (Below w.heap.size w (w.alloc (.cells #[.slice none 0 0, .int .i64 0] 45))) := (Below.refl _ _).alloc (Nat.le_refl _) _
  go_enter Tryz.func24, Tryz.ntmps24
  go_wp2_with (go_at_call 39; refine Stop.mk ?_)
  refine Stop.out ((C17 _).mono ?_)
  rintro e W1 ⟨rfl, hb1⟩
  have HR1 : Hid (Rz w.heap.size (W1.alloc (.cells #[.string n, .int .u8 p, .int .i64 (u : Int), .int .i64 (m : Int), .bool true, .bool c, .bool q, .bool l] 125))) := (HR0.out.on hb1).on ((Below.refl _ _).alloc (Nat.le_refl _) _)
  have HB1 : Hid (Below w.heap.size w (W1.alloc (.cells #[.string n, .int .u8 p, .int .i64 (u : Int), .int .i64 (m : Int), .bool true, .bool c, .bool q, .bool l] 125))) := (HB0.out.trans (hb1.mono HB0.out.size)).trans (((Below.refl _ _).alloc (Nat.le_refl _) _).mono (HB0.out.trans (hb1.mono HB0.out.size)).size)
  have HX1 : Hid (Xz W1.heap.size (W1.alloc (.cells #[.string n, .int .u8 p, .int .i64 (u : Int), .int .i64 (m : Int), .bool true, .bool c, .bool q, .bool l] 125)) n p (u : Int) (m : Int) true c q l) := Xz.new W1 n p u m true c q l
  clear hb1
  go_wp2_with (go_at_call 41; refine Stop.mk ?_)
  refine Stop.out ((c21 _).mono ?_)
  rintro e W5 ⟨rfl, hb5⟩
  have HR2 : Hid (Rz w.heap.size W5) := HR1.out.on hb5
  have HB2 : Hid (Below w.heap.size w W5) := HB1.out.trans (hb5.mono HB1.out.size)
  have HX2 : Hid (Xz W1.heap.size W5 n p (u : Int) (m : Int) true c q l) := HX1.out.on hb5
  clear hb5
  obtain ⟨y20, y21, y22, y23, y24, y25, y26, y27⟩ := HX2.out
  go_wp2_with (go_at_call 38; refine Stop.mk ?_)
  refine Stop.out ((new1_any _ bc 64).mono ?_)
  rintro e W9 ⟨g9, rfl, hg9, hl9, hb9⟩
  obtain ⟨r0, r1, rf⟩ := HR2.out.on hb9
  have HB9 : Hid (Below w.heap.size w W9) := HB2.out.trans (hb9.mono HB2.out.size)
  have HL9 : Hid (LkAt W9 g9 [(dB, bc)]) := hl9
  have HG9 : Hid (w.heap.size ≠ g9) := Nat.ne_of_lt (Nat.lt_of_le_of_lt HB2.out.size hg9)
  clear hb9 hl9 hg9
  go_wp2
  refine bodyPost_ret (v := .agg #[.slice (some ⟨g9, 0, none⟩) 1 1, .int .i64 64]) (by simp [results, Tryz.results24, go_sem, r0, r1]) rfl ⟨_, rfl, ⟨g9, 1, rfl, lk_put HL9.out HG9.out _ _⟩, below_put HB9.out _ _⟩
set_option maxRecDepth 100000 in
set_option maxHeartbeats 8000000 in
theorem rcheck_free_form (w : World) (v : Int) (n : ByteArray) (p : Int) (u m : Nat) (c q l : Bool) (s : ByteArray) (hv : v ≠ 18) (h0 : s.size ≠ 0) (hb : s.size ≤ 65534) (hm : m = 0) (bc : Int) (c21 : ∀ W, Calls Tryz.prog 41 #[.int .i64 v, .agg #[.string n, .int .u8 p, .int .i64 (u : Int), .int .i64 (m : Int), .bool true, .bool c, .bool q, .bool l], .string s] W fun e w' => e = .returned (.int .i64 bc) ∧ Below W.heap.size W w') (h5 : ¬ 0 ≤ bc) (c22 : ∀ W, Calls Tryz.prog 42 #[.int .i64 v, .string s] W fun e w' => e = .returned (.bool false) ∧ Below W.heap.size W w')
    (C17 : ∀ W, Calls Tryz.prog 39 #[.int .i64 v] W fun e w' => e = .returned (.tuple #[.agg #[.string n, .int .u8 p, .int .i64 (u : Int), .int .i64 (m : Int), .bool true, .bool c, .bool q, .bool l], .bool true]) ∧ Below W.heap.size W w') :
    Calls Tryz.prog 24 #[.int .i64 v, .string s] w (CkD w (some ([(dB, 0)], 65))) := by
  have e18 : (v == 18) = false := beq_eq_false_iff_ne.2 hv
  have i0 : ((s.size : Int) == 0) = false := beq_eq_false_iff_ne.2 (by omega)
  clear h0
  have i1 : ¬ ((s.size : Int) > 65534) := by omega
  have i2 : ¬ ((m : Int) > 0) := by omega
  clear hm
  have i5 : ¬ (bc ≥ 0) := h5
  have HR0 : Hid (Rz w.heap.size (w.alloc (.cells #[.slice none 0 0, .int .i64 0] 45))) := Rz.new w
  have HB0 : Hid (Below w.heap.size w (w.alloc (.cells #[.slice none 0 0, .int .i64 0] 45))) := (Below.refl _ _).alloc (Nat.le_refl _) _
  go_enter Tryz.func24, Tryz.ntmps24
  go_wp2_with (go_at_call 39; refine Stop.mk ?_)
  refine Stop.out ((C17 _).mono ?_)
  rintro e W1 ⟨rfl, hb1⟩
  have HR1 : Hid (Rz w.heap.size (W1.alloc (.cells #[.string n, .int .u8 p, .int .i64 (u : Int), .int .i64 (m : Int), .bool true, .bool c, .bool q, .bool l] 125))) := (HR0.out.on hb1).on ((Below.refl _ _).alloc (Nat.le_refl _) _)
  have HB1 : Hid (Below w.heap.size w (W1.alloc (.cells #[.string n, .int .u8 p, .int .i64 (u : Int), .int .i64 (m : Int), .bool true, .bool c, .bool q, .bool l] 125))) := (HB0.out.trans (hb1.mono HB0.out.size)).trans (((Below.refl _ _).alloc (Nat.le_refl _) _).mono (HB0.out.trans (hb1.mono HB0.out.size)).size)
  have HX1 : Hid (Xz W1.heap.size (W1.alloc (.cells #[.string n, .int .u8 p, .int .i64 (u : Int), .int .i64 (m : Int), .bool true, .bool c, .bool q, .bool l] 125)) n p (u : Int) (m : Int) true c q l) := Xz.new W1 n p u m true c q l
  clear hb1
  go_wp2_with (go_at_call 41; refine Stop.mk ?_)
  refine Stop.out ((c21 _).mono ?_)
  rintro e W5 ⟨rfl, hb5⟩
  have HR2 : Hid (Rz w.heap.size W5) := HR1.out.on hb5
  have HB2 : Hid (Below w.heap.size w W5) := HB1.out.trans (hb5.mono HB1.out.size)
  have HX2 : Hid (Xz W1.heap.size W5 n p (u : Int) (m : Int) true c q l) := HX1.out.on hb5
  clear hb5
  obtain ⟨y20, y21, y22, y23, y24, y25, y26, y27⟩ := HX2.out
  go_wp2_with (go_at_call 42; refine Stop.mk ?_)
  refine Stop.out ((c22 _).mono ?_)
  rintro e W6 ⟨rfl, hb6⟩
  have HR3 : Hid (Rz w.heap.size W6) := HR2.out.on hb6
  have HB3 : Hid (Below w.heap.size w W6) := HB2.out.trans (hb6.mono HB2.out.size)
  have HX3 : Hid (Xz W1.heap.size W6 n p (u : Int) (m : Int) true c q l) := HX2.out.on hb6
  clear hb6
  obtain ⟨y30, y31, y32, y33, y34, y35, y36, y37⟩ := HX3.out
  go_wp2_with (go_at_call 38; refine Stop.mk ?_)
  refine Stop.out ((new1_any _ 0 65).mono ?_)
  rintro e W9 ⟨g9, rfl, hg9, hl9, hb9⟩
  obtain ⟨r0, r1, rf⟩ := HR3.out.on hb9
  have HB9 : Hid (Below w.heap.size w W9) := HB3.out.trans (hb9.mono HB3.out.size)
  have HL9 : Hid (LkAt W9 g9 [(dB, 0)]) := hl9
  have HG9 : Hid (w.heap.size ≠ g9) := Nat.ne_of_lt (Nat.lt_of_le_of_lt HB3.out.size hg9)
  clear hb9 hl9 hg9
  go_wp2
  refine bodyPost_ret (v := .agg #[.slice (some ⟨g9, 0, none⟩) 1 1, .int .i64 65]) (by simp [results, Tryz.results24, go_sem, r0, r1]) rfl ⟨_, rfl, ⟨g9, 1, rfl, lk_put HL9.out HG9.out _ _⟩, below_put HB9.out _ _⟩
set_option maxRecDepth 100000 in
set_option maxHeartbeats 8000000 in
theorem rcheck_free_good (w : World) (v : Int) (n : ByteArray) (p : Int) (u m : Nat) (c q l : Bool) (s : ByteArray) (hv : v ≠ 18) (h0 : s.size ≠ 0) (hb : s.size ≤ 65534) (hm : m = 0) (bc : Int) (c21 : ∀ W, Calls Tryz.prog 41 #[.int .i64 v, .agg #[.string n, .int .u8 p, .int .i64 (u : Int), .int .i64 (m : Int), .bool true, .bool c, .bool q, .bool l], .string s] W fun e w' => e = .returned (.int .i64 bc) ∧ Below W.heap.size W w') (h5 : ¬ 0 ≤ bc) (c22 : ∀ W, Calls Tryz.prog 42 #[.int .i64 v, .string s] W fun e w' => e = .returned (.bool true) ∧ Below W.heap.size W w')
    (C17 : ∀ W, Calls Tryz.prog 39 #[.int .i64 v] W fun e w' => e = .returned (.tuple #[.agg #[.string n, .int .u8 p, .int .i64 (u : Int), .int .i64 (m : Int), .bool true, .bool c, .bool q, .bool l], .bool true]) ∧ Below W.heap.size W w') :
    Calls Tryz.prog 24 #[.int .i64 v, .string s] w (CkD w (none)) := by
  have e18 : (v == 18) = false := beq_eq_false_iff_ne.2 hv
  have i0 : ((s.size : Int) == 0) = false := beq_eq_false_iff_ne.2 (by omega)
  clear h0
  have i1 : ¬ ((s.size : Int) > 65534) := by omega
  have i2 : ¬ ((m : Int) > 0) := by omega
  clear hm
  have i5 : ¬ (bc ≥ 0) := h5
  have HR0 : Hid (Rz w.heap.size (w.alloc (.cells #[.slice none 0 0, .int .i64 0] 45))) := Rz.new w
  have HB0 : Hid (Below w.heap.size w (w.alloc (.cells #[.slice none 0 0, .int .i64 0] 45))) := (Below.refl _ _).alloc (Nat.le_refl _) _
  go_enter Tryz.func24, Tryz.ntmps24
  go_wp2_with (go_at_call 39; refine Stop.mk ?_)
  refine Stop.out ((C17 _).mono ?_)
  rintro e W1 ⟨rfl, hb1⟩
  have HR1 : Hid (Rz w.heap.size (W1.alloc (.cells #[.string n, .int .u8 p, .int .i64 (u : Int), .int .i64 (m : Int), .bool true, .bool c, .bool q, .bool l] 125))) := (HR0.out.on hb1).on ((Below.refl _ _).alloc (Nat.le_refl _) _)
  have HB1 : Hid (Below w.heap.size w (W1.alloc (.cells #[.string n, .int .u8 p, .int .i64 (u : Int), .int .i64 (m : Int), .bool true, .bool c, .bool q, .bool l] 125))) := (HB0.out.trans (hb1.mono HB0.out.size)).trans (((Below.refl _ _).alloc (Nat.le_refl _) _).mono (HB0.out.trans (hb1.mono HB0.out.size)).size)
  have HX1 : Hid (Xz W1.heap.size (W1.alloc (.cells #[.string n, .int .u8 p, .int .i64 (u : Int), .int .i64 (m : Int), .bool true, .bool c, .bool q, .bool l] 125)) n p (u : Int) (m : Int) true c q l) := Xz.new W1 n p u m true c q l
  clear hb1
  go_wp2_with (go_at_call 41; refine Stop.mk ?_)
  refine Stop.out ((c21 _).mono ?_)
  rintro e W5 ⟨rfl, hb5⟩
  have HR2 : Hid (Rz w.heap.size W5) := HR1.out.on hb5
  have HB2 : Hid (Below w.heap.size w W5) := HB1.out.trans (hb5.mono HB1.out.size)
  have HX2 : Hid (Xz W1.heap.size W5 n p (u : Int) (m : Int) true c q l) := HX1.out.on hb5
  clear hb5
  obtain ⟨y20, y21, y22, y23, y24, y25, y26, y27⟩ := HX2.out
  go_wp2_with (go_at_call 42; refine Stop.mk ?_)
  refine Stop.out ((c22 _).mono ?_)
  rintro e W6 ⟨rfl, hb6⟩
  have HR3 : Hid (Rz w.heap.size W6) := HR2.out.on hb6
  have HB3 : Hid (Below w.heap.size w W6) := HB2.out.trans (hb6.mono HB2.out.size)
  have HX3 : Hid (Xz W1.heap.size W6 n p (u : Int) (m : Int) true c q l) := HX2.out.on hb6
  clear hb6
  obtain ⟨y30, y31, y32, y33, y34, y35, y36, y37⟩ := HX3.out
  go_wp2_with (go_at_call 27; refine Stop.mk ?_)
  refine Stop.out ((rnone_any _).mono ?_)
  rintro e W9 ⟨rfl, hb9⟩
  obtain ⟨r0, r1, rf⟩ := HR3.out.on hb9
  have HB9 : Hid (Below w.heap.size w W9) := HB3.out.trans (hb9.mono HB3.out.size)
  clear hb9
  go_wp2
  refine bodyPost_ret (v := .agg #[.slice none 0 0, .int .i64 0]) (by simp [results, Tryz.results24, go_sem, r0, r1]) rfl ⟨_, rfl, rfl, below_put HB9.out _ _⟩
set_option maxRecDepth 100000 in
set_option maxHeartbeats 8000000 in
theorem rcheck_long (w : World) (v : Int) (n : ByteArray) (p : Int) (u m : Nat) (c q l : Bool) (s : ByteArray) (hv : v ≠ 18) (h0 : s.size ≠ 0) (hb : s.size ≤ 65534) (hm : 0 < m) (c20 : ∀ W, Calls Tryz.prog 40 #[.int .i64 v, .agg #[.string n, .int .u8 p, .int .i64 (u : Int), .int .i64 (m : Int), .bool true, .bool c, .bool q, .bool l], .string s] W fun e w' => e = .returned (.bool true) ∧ Below W.heap.size W w')
    (C17 : ∀ W, Calls Tryz.prog 39 #[.int .i64 v] W fun e w' => e = .returned (.tuple #[.agg #[.string n, .int .u8 p, .int .i64 (u : Int), .int .i64 (m : Int), .bool true, .bool c, .bool q, .bool l], .bool true]) ∧ Below W.heap.size W w') :
    Calls Tryz.prog 24 #[.int .i64 v, .string s] w (CkD w (some ([(dB, (m : Int))], 63))) := by
  have e18 : (v == 18) = false := beq_eq_false_iff_ne.2 hv
  have i0 : ((s.size : Int) == 0) = false := beq_eq_false_iff_ne.2 (by omega)
  clear h0
  have i1 : ¬ ((s.size : Int) > 65534) := by omega
  have i2 : (m : Int) > 0 := by omega
  have HR0 : Hid (Rz w.heap.size (w.alloc (.cells #[.slice none 0 0, .int .i64 0] 45))) := Rz.new w
  have HB0 : Hid (Below w.heap.size w (w.alloc (.cells #[.slice none 0 0, .int .i64 0] 45))) := (Below.refl _ _).alloc (Nat.le_refl _) _
  go_enter Tryz.func24, Tryz.ntmps24
  go_wp2_with (go_at_call 39; refine Stop.mk ?_)
  refine Stop.out ((C17 _).mono ?_)
  rintro e W1 ⟨rfl, hb1⟩
  have HR1 : Hid (Rz w.heap.size (W1.alloc (.cells #[.string n, .int .u8 p, .int .i64 (u : Int), .int .i64 (m : Int), .bool true, .bool c, .bool q, .bool l] 125))) := (HR0.out.on hb1).on ((Below.refl _ _).alloc (Nat.le_refl _) _)
  have HB1 : Hid (Below w.heap.size w (W1.alloc (.cells #[.string n, .int .u8 p, .int .i64 (u : Int), .int .i64 (m : Int), .bool true, .bool c, .bool q, .bool l] 125))) := (HB0.out.trans (hb1.mono HB0.out.size)).trans (((Below.refl _ _).alloc (Nat.le_refl _) _).mono (HB0.out.trans (hb1.mono HB0.out.size)).size)
  have HX1 : Hid (Xz W1.heap.size (W1.alloc (.cells #[.string n, .int .u8 p, .int .i64 (u : Int), .int .i64 (m : Int), .bool true, .bool c, .bool q, .bool l] 125)) n p (u : Int) (m : Int) true c q l) := Xz.new W1 n p u m true c q l
  clear hb1
  go_wp2_with (go_at_call 40; refine Stop.mk ?_)
  refine Stop.out ((c20 _).mono ?_)
  rintro e W4 ⟨rfl, hb4⟩
  have HR2 : Hid (Rz w.heap.size W4) := HR1.out.on hb4
  have HB2 : Hid (Below w.heap.size w W4) := HB1.out.trans (hb4.mono HB1.out.size)
  have HX2 : Hid (Xz W1.heap.size W4 n p (u : Int) (m : Int) true c q l) := HX1.out.on hb4
  clear hb4
  obtain ⟨y20, y21, y22, y23, y24, y25, y26, y27⟩ := HX2.out
  go_wp2_with (go_at_call 38; refine Stop.mk ?_)
  refine Stop.out ((new1_any _ (m : Int) 63).mono ?_)
  rintro e W9 ⟨g9, rfl, hg9, hl9, hb9⟩
  obtain ⟨r0, r1, rf⟩ := HR2.out.on hb9
  have HB9 : Hid (Below w.heap.size w W9) := HB2.out.trans (hb9.mono HB2.out.size)
  have HL9 : Hid (LkAt W9 g9 [(dB, (m : Int))]) := hl9
  have HG9 : Hid (w.heap.size ≠ g9) := Nat.ne_of_lt (Nat.lt_of_le_of_lt HB2.out.size hg9)
  clear hb9 hl9 hg9
  go_wp2
  refine bodyPost_ret (v := .agg #[.slice (some ⟨g9, 0, none⟩) 1 1, .int .i64 63]) (by simp [results, Tryz.results24, go_sem, r0, r1]) rfl ⟨_, rfl, ⟨g9, 1, rfl, lk_put HL9.out HG9.out _ _⟩, below_put HB9.out _ _⟩
set_option maxRecDepth 100000 in
set_option maxHeartbeats 8000000 in
theorem rcheck_text_char (w : World) (v : Int) (n : ByteArray) (p : Int) (u m : Nat) (c q l : Bool) (s : ByteArray) (hv : v ≠ 18) (h0 : s.size ≠ 0) (hb : s.size ≤ 65534) (hm : 0 < m) (c20 : ∀ W, Calls Tryz.prog 40 #[.int .i64 v, .agg #[.string n, .int .u8 p, .int .i64 (u : Int), .int .i64 (m : Int), .bool true, .bool c, .bool q, .bool l], .string s] W fun e w' => e = .returned (.bool false) ∧ Below W.heap.size W w') (bc : Int) (c21 : ∀ W, Calls Tryz.prog 41 #[.int .i64 v, .agg #[.string n, .int .u8 p, .int .i64 (u : Int), .int .i64 (m : Int), .bool true, .bool c, .bool q, .bool l], .string s] W fun e w' => e = .returned (.int .i64 bc) ∧ Below W.heap.size W w') (h5 : 0 ≤ bc)
    (C17 : ∀ W, Calls Tryz.prog 39 #[.int .i64 v] W fun e w' => e = .returned (.tuple #[.agg #[.string n, .int .u8 p, .int .i64 (u : Int), .int .i64 (m : Int), .bool true, .bool c, .bool q, .bool l], .bool true]) ∧ Below W.heap.size W w') :
    Calls Tryz.prog 24 #[.int .i64 v, .string s] w (CkD w (some ([(dB, bc)], 64))) := by
  have e18 : (v == 18) = false := beq_eq_false_iff_ne.2 hv
  have i0 : ((s.size : Int) == 0) = false := beq_eq_false_iff_ne.2 (by omega)
  clear h0
  have i1 : ¬ ((s.size : Int) > 65534) := by omega
  have i2 : (m : Int) > 0 := by omega
  have i5 : bc ≥ 0 := h5
  have HR0 : Hid (Rz w.heap.size (w.alloc (.cells #[.slice none 0 0, .int .i64 0] 45))) := Rz.new w
  have HB0 : Hid (Below w.heap.size w (w.alloc (.cells #[.slice none 0 0, .int .i64 0] 45))) := (Below.refl _ _).alloc (Nat.le_refl _) _
  go_enter Tryz.func24, Tryz.ntmps24
  go_wp2_with (go_at_call 39; refine Stop.mk ?_)
  refine Stop.out ((C17 _).mono ?_)
  rintro e W1 ⟨rfl, hb1⟩
  have HR1 : Hid (Rz w.heap.size (W1.alloc (.cells #[.string n, .int .u8 p, .int .i64 (u : Int), .int .i64 (m : Int), .bool true, .bool c, .bool q, .bool l] 125))) := (HR0.out.on hb1).on ((Below.refl _ _).alloc (Nat.le_refl _) _)
  have HB1 : Hid (Below w.heap.size w (W1.alloc (.cells #[.string n, .int .u8 p, .int .i64 (u : Int), .int .i64 (m : Int), .bool true, .bool c, .bool q, .bool l] 125))) := (HB0.out.trans (hb1.mono HB0.out.size)).trans (((Below.refl _ _).alloc (Nat.le_refl _) _).mono (HB0.out.trans (hb1.mono HB0.out.size)).size)
  have HX1 : Hid (Xz W1.heap.size (W1.alloc (.cells #[.string n, .int .u8 p, .int .i64 (u : Int), .int .i64 (m : Int), .bool true, .bool c, .bool q, .bool l] 125)) n p (u : Int) (m : Int) true c q l) := Xz.new W1 n p u m true c q l
  clear hb1
  go_wp2_with (go_at_call 40; refine Stop.mk ?_)
  refine Stop.out ((c20 _).mono ?_)
  rintro e W4 ⟨rfl, hb4⟩
  have HR2 : Hid (Rz w.heap.size W4) := HR1.out.on hb4
  have HB2 : Hid (Below w.heap.size w W4) := HB1.out.trans (hb4.mono HB1.out.size)
  have HX2 : Hid (Xz W1.heap.size W4 n p (u : Int) (m : Int) true c q l) := HX1.out.on hb4
  clear hb4
  obtain ⟨y20, y21, y22, y23, y24, y25, y26, y27⟩ := HX2.out
  go_wp2_with (go_at_call 41; refine Stop.mk ?_)
  refine Stop.out ((c21 _).mono ?_)
  rintro e W5 ⟨rfl, hb5⟩
  have HR3 : Hid (Rz w.heap.size W5) := HR2.out.on hb5
  have HB3 : Hid (Below w.heap.size w W5) := HB2.out.trans (hb5.mono HB2.out.size)
  have HX3 : Hid (Xz W1.heap.size W5 n p (u : Int) (m : Int) true c q l) := HX2.out.on hb5
  clear hb5
  obtain ⟨y30, y31, y32, y33, y34, y35, y36, y37⟩ := HX3.out
  go_wp2_with (go_at_call 38; refine Stop.mk ?_)
  refine Stop.out ((new1_any _ bc 64).mono ?_)
  rintro e W9 ⟨g9, rfl, hg9, hl9, hb9⟩
  obtain ⟨r0, r1, rf⟩ := HR3.out.on hb9
  have HB9 : Hid (Below w.heap.size w W9) := HB3.out.trans (hb9.mono HB3.out.size)
  have HL9 : Hid (LkAt W9 g9 [(dB, bc)]) := hl9
  have HG9 : Hid (w.heap.size ≠ g9) := Nat.ne_of_lt (Nat.lt_of_le_of_lt HB3.out.size hg9)
  clear hb9 hl9 hg9
  go_wp2
  refine bodyPost_ret (v := .agg #[.slice (some ⟨g9, 0, none⟩) 1 1, .int .i64 64]) (by simp [results, Tryz.results24, go_sem, r0, r1]) rfl ⟨_, rfl, ⟨g9, 1, rfl, lk_put HL9.out HG9.out _ _⟩, below_put HB9.out _ _⟩
set_option maxRecDepth 100000 in
set_option maxHeartbeats 8000000 in
theorem rcheck_text_form (w : World) (v : Int) (n : ByteArray) (p : Int) (u m : Nat) (c q l : Bool) (s : ByteArray) (hv : v ≠ 18) (h0 : s.size ≠ 0) (hb : s.size ≤ 65534) (hm : 0 < m) (c20 : ∀ W, Calls Tryz.prog 40 #[.int .i64 v, .agg #[.string n, .int .u8 p, .int .i64 (u : Int), .int .i64 (m : Int), .bool true, .bool c, .bool q, .bool l], .string s] W fun e w' => e = .returned (.bool false) ∧ Below W.heap.size W w') (bc : Int) (c21 : ∀ W, Calls Tryz.prog 41 #[.int .i64 v, .agg #[.string n, .int .u8 p, .int .i64 (u : Int), .int .i64 (m : Int), .bool true, .bool c, .bool q, .bool l], .string s] W fun e w' => e = .returned (.int .i64 bc) ∧ Below W.heap.size W w') (h5 : ¬ 0 ≤ bc) (c22 : ∀ W, Calls Tryz.prog 42 #[.int .i64 v, .string s] W fun e w' => e = .returned (.bool false) ∧ Below W.heap.size W w')
    (C17 : ∀ W, Calls Tryz.prog 39 #[.int .i64 v] W fun e w' => e = .returned (.tuple #[.agg #[.string n, .int .u8 p, .int .i64 (u : Int), .int .i64 (m : Int), .bool true, .bool c, .bool q, .bool l], .bool true]) ∧ Below W.heap.size W w') :
    Calls Tryz.prog 24 #[.int .i64 v, .string s] w (CkD w (some ([(dB, 0)], 65))) := by
  have e18 : (v == 18) = false := beq_eq_false_iff_ne.2 hv
  have i0 : ((s.size : Int) == 0) = false := beq_eq_false_iff_ne.2 (by omega)
  clear h0
  have i1 : ¬ ((s.size : Int) > 65534) := by omega
  have i2 : (m : Int) > 0 := by omega
  have i5 : ¬ (bc ≥ 0) := h5
  have HR0 : Hid (Rz w.heap.size (w.alloc (.cells #[.slice none 0 0, .int .i64 0] 45))) := Rz.new w
  have HB0 : Hid (Below w.heap.size w (w.alloc (.cells #[.slice none 0 0, .int .i64 0] 45))) := (Below.refl _ _).alloc (Nat.le_refl _) _
  go_enter Tryz.func24, Tryz.ntmps24
  go_wp2_with (go_at_call 39; refine Stop.mk ?_)
  refine Stop.out ((C17 _).mono ?_)
  rintro e W1 ⟨rfl, hb1⟩
  have HR1 : Hid (Rz w.heap.size (W1.alloc (.cells #[.string n, .int .u8 p, .int .i64 (u : Int), .int .i64 (m : Int), .bool true, .bool c, .bool q, .bool l] 125))) := (HR0.out.on hb1).on ((Below.refl _ _).alloc (Nat.le_refl _) _)
  have HB1 : Hid (Below w.heap.size w (W1.alloc (.cells #[.string n, .int .u8 p, .int .i64 (u : Int), .int .i64 (m : Int), .bool true, .bool c, .bool q, .bool l] 125))) := (HB0.out.trans (hb1.mono HB0.out.size)).trans (((Below.refl _ _).alloc (Nat.le_refl _) _).mono (HB0.out.trans (hb1.mono HB0.out.size)).size)
  have HX1 : Hid (Xz W1.heap.size (W1.alloc (.cells #[.string n, .int .u8 p, .int .i64 (u : Int), .int .i64 (m : Int), .bool true, .bool c, .bool q, .bool l] 125)) n p (u : Int) (m : Int) true c q l) := Xz.new W1 n p u m true c q l
  clear hb1
  go_wp2_with (go_at_call 40; refine Stop.mk ?_)
  refine Stop.out ((c20 _).mono ?_)
  rintro e W4 ⟨rfl, hb4⟩
  have HR2 : Hid (Rz w.heap.size W4) := HR1.out.on hb4
  have HB2 : Hid (Below w.heap.size w W4) := HB1.out.trans (hb4.mono HB1.out.size)
  have HX2 : Hid (Xz W1.heap.size W4 n p (u : Int) (m : Int) true c q l) := HX1.out.on hb4
  clear hb4
  obtain ⟨y20, y21, y22, y23, y24, y25, y26, y27⟩ := HX2.out
  go_wp2_with (go_at_call 41; refine Stop.mk ?_)
  refine Stop.out ((c21 _).mono ?_)
  rintro e W5 ⟨rfl, hb5⟩
  have HR3 : Hid (Rz w.heap.size W5) := HR2.out.on hb5
  have HB3 : Hid (Below w.heap.size w W5) := HB2.out.trans (hb5.mono HB2.out.size)
  have HX3 : Hid (Xz W1.heap.size W5 n p (u : Int) (m : Int) true c q l) := HX2.out.on hb5
  clear hb5
  obtain ⟨y30, y31, y32, y33, y34, y35, y36, y37⟩ := HX3.out
  go_wp2_with (go_at_call 42; refine Stop.mk ?_)
  refine Stop.out ((c22 _).mono ?_)
  rintro e W6 ⟨rfl, hb6⟩
  have HR4 : Hid (Rz w.heap.size W6) := HR3.out.on hb6
  have HB4 : Hid (Below w.heap.size w W6) := HB3.out.trans (hb6.mono HB3.out.size)
  have HX4 : Hid (Xz W1.heap.size W6 n p (u : Int) (m : Int) true c q l) := HX3.out.on hb6
  clear hb6
  obtain ⟨y40, y41, y42, y43, y44, y45, y46, y47⟩ := HX4.out
  go_wp2_with (go_at_call 38; refine Stop.mk ?_)
  refine Stop.out ((new1_any _ 0 65).mono ?_)
  rintro e W9 ⟨g9, rfl, hg9, hl9, hb9⟩
  obtain ⟨r0, r1, rf⟩ := HR4.out.on hb9
  have HB9 : Hid (Below w.heap.size w W9) := HB4.out.trans (hb9.mono HB4.out.size)
  have HL9 : Hid (LkAt W9 g9 [(dB, 0)]) := hl9
  have HG9 : Hid (w.heap.size ≠ g9) := Nat.ne_of_lt (Nat.lt_of_le_of_lt HB4.out.size hg9)
  clear hb9 hl9 hg9
  go_wp2
  refine bodyPost_ret (v := .agg #[.slice (some ⟨g9, 0, none⟩) 1 1, .int .i64 65]) (by simp [results, Tryz.results24, go_sem, r0, r1]) rfl ⟨_, rfl, ⟨g9, 1, rfl, lk_put HL9.out HG9.out _ _⟩, below_put HB9.out _ _⟩
set_option maxRecDepth 100000 in
set_option maxHeartbeats 8000000 in
theorem rcheck_text_good (w : World) (v : Int) (n : ByteArray) (p : Int) (u m : Nat) (c q l : Bool) (s : ByteArray) (hv : v ≠ 18) (h0 : s.size ≠ 0) (hb : s.size ≤ 65534) (hm : 0 < m) (c20 : ∀ W, Calls Tryz.prog 40 #[.int .i64 v, .agg #[.string n, .int .u8 p, .int .i64 (u : Int), .int .i64 (m : Int), .bool true, .bool c, .bool q, .bool l], .string s] W fun e w' => e = .returned (.bool false) ∧ Below W.heap.size W w') (bc : Int) (c21 : ∀ W, Calls Tryz.prog 41 #[.int .i64 v, .agg #[.string n, .int .u8 p, .int .i64 (u : Int), .int .i64 (m : Int), .bool true, .bool c, .bool q, .bool l], .string s] W fun e w' => e = .returned (.int .i64 bc) ∧ Below W.heap.size W w') (h5 : ¬ 0 ≤ bc) (c22 : ∀ W, Calls Tryz.prog 42 #[.int .i64 v, .string s] W fun e w' => e = .returned (.bool true) ∧ Below W.heap.size W w')
    (C17 : ∀ W, Calls Tryz.prog 39 #[.int .i64 v] W fun e w' => e = .returned (.tuple #[.agg #[.string n, .int .u8 p, .int .i64 (u : Int), .int .i64 (m : Int), .bool true, .bool c, .bool q, .bool l], .bool true]) ∧ Below W.heap.size W w') :
    Calls Tryz.prog 24 #[.int .i64 v, .string s] w (CkD w (none)) := by
  have e18 : (v == 18) = false := beq_eq_false_iff_ne.2 hv
  have i0 : ((s.size : Int) == 0) = false := beq_eq_false_iff_ne.2 (by omega)
  clear h0
  have i1 : ¬ ((s.size : Int) > 65534) := by omega
  have i2 : (m : Int) > 0 := by omega
  have i5 : ¬ (bc ≥ 0) := h5
  have HR0 : Hid (Rz w.heap.size (w.alloc (.cells #[.slice none 0 0, .int .i64 0] 45))) := Rz.new w
  have HB0 : Hid (Below w.heap.size w (w.alloc (.cells #[.slice none 0 0, .int .i64 0] 45))) := (Below.refl _ _).alloc (Nat.le_refl _) _
  go_enter Tryz.func24, Tryz.ntmps24
  go_wp2_with (go_at_call 39; refine Stop.mk ?_)
  refine Stop.out ((C17 _).mono ?_)
  rintro e W1 ⟨rfl, hb1⟩
  have HR1 : Hid (Rz w.heap.size (W1.alloc (.cells #[.string n, .int .u8 p, .int .i64 (u : Int), .int .i64 (m : Int), .bool true, .bool c, .bool q, .bool l] 125))) := (HR0.out.on hb1).on ((Below.refl _ _).alloc (Nat.le_refl _) _)
  have HB1 : Hid (Below w.heap.size w (W1.alloc (.cells #[.string n, .int .u8 p, .int .i64 (u : Int), .int .i64 (m : Int), .bool true, .bool c, .bool q, .bool l] 125))) := (HB0.out.trans (hb1.mono HB0.out.size)).trans (((Below.refl _ _).alloc (Nat.le_refl _) _).mono (HB0.out.trans (hb1.mono HB0.out.size)).size)
  have HX1 : Hid (Xz W1.heap.size (W1.alloc (.cells #[.string n, .int .u8 p, .int .i64 (u : Int), .int .i64 (m : Int), .bool true, .bool c, .bool q, .bool l] 125)) n p (u : Int) (m : Int) true c q l) := Xz.new W1 n p u m true c q l
  clear hb1
  go_wp2_with (go_at_call 40; refine Stop.mk ?_)
  refine Stop.out ((c20 _).mono ?_)
  rintro e W4 ⟨rfl, hb4⟩
  have HR2 : Hid (Rz w.heap.size W4) := HR1.out.on hb4
  have HB2 : Hid (Below w.heap.size w W4) := HB1.out.trans (hb4.mono HB1.out.size)
  have HX2 : Hid (Xz W1.heap.size W4 n p (u : Int) (m : Int) true c q l) := HX1.out.on hb4
  clear hb4
  obtain ⟨y20, y21, y22, y23, y24, y25, y26, y27⟩ := HX2.out
  go_wp2_with (go_at_call 41; refine Stop.mk ?_)
  refine Stop.out ((c21 _).mono ?_)
  rintro e W5 ⟨rfl, hb5⟩
  have HR3 : Hid (Rz w.heap.size W5) := HR2.out.on hb5
  have HB3 : Hid (Below w.heap.size w W5) := HB2.out.trans (hb5.mono HB2.out.size)
  have HX3 : Hid (Xz W1.heap.size W5 n p (u : Int) (m : Int) true c q l) := HX2.out.on hb5
  clear hb5
  obtain ⟨y30, y31, y32, y33, y34, y35, y36, y37⟩ := HX3.out
  go_wp2_with (go_at_call 42; refine Stop.mk ?_)
  refine Stop.out ((c22 _).mono ?_)
  rintro e W6 ⟨rfl, hb6⟩
  have HR4 : Hid (Rz w.heap.size W6) := HR3.out.on hb6
  have HB4 : Hid (Below w.heap.size w W6) := HB3.out.trans (hb6.mono HB3.out.size)
  have HX4 : Hid (Xz W1.heap.size W6 n p (u : Int) (m : Int) true c q l) := HX3.out.on hb6
  clear hb6
  obtain ⟨y40, y41, y42, y43, y44, y45, y46, y47⟩ := HX4.out
  go_wp2_with (go_at_call 27; refine Stop.mk ?_)
  refine Stop.out ((rnone_any _).mono ?_)
  rintro e W9 ⟨rfl, hb9⟩
  obtain ⟨r0, r1, rf⟩ := HR4.out.on hb9
  have HB9 : Hid (Below w.heap.size w W9) := HB4.out.trans (hb9.mono HB4.out.size)
  clear hb9
  go_wp2
  refine bodyPost_ret (v := .agg #[.slice none 0 0, .int .i64 0]) (by simp [results, Tryz.results24, go_sem, r0, r1]) rfl ⟨_, rfl, rfl, below_put HB9.out _ _⟩
end Go.Proofs.YtdggplhkeekdjaaGreatDoor.Ck
