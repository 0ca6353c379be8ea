import Derived.Test.YtnheeenkdjmhoaaDoorFi
/-
  DERIVED. The program's escaped.
-/
namespace Go.Proofs.YtnheeenkdjmhoaaDoor
open Go Go.Proofs Go.RowKit

theorem no_mark {y : Nat} (h : y < 256) (h1 : y ≠ 124) (h2 : y ≠ 94) (h3 : y ≠ 126) (h4 : y ≠ 92) (h5 : y ≠ 38) : Lib.indexByte [124, 94, 126, 92, 38] ((y : Int).toNat.toUInt8) = -1 := by
  have e : ((y : Int).toNat.toUInt8) = UInt8.ofNat y := rfl
  rw [e]
  have q : ∀ n : Nat, n < 256 → n ≠ y → (UInt8.ofNat n ≠ UInt8.ofNat y) := fun n hn hne hh => hne (by
    have := congrArg UInt8.toNat hh
    simp [UInt8.toNat_ofNat'] at this
    omega)
  have q1 := q 124 (by omega) (by omega)
  have q2 := q 94 (by omega) (by omega)
  have q3 := q 126 (by omega) (by omega)
  have q4 := q 92 (by omega) (by omega)
  have q5 := q 38 (by omega) (by omega)
  have f1 : ((124 : UInt8) == UInt8.ofNat y) = false := by simpa using q1
  have f2 : ((94 : UInt8) == UInt8.ofNat y) = false := by simpa using q2
  have f3 : ((126 : UInt8) == UInt8.ofNat y) = false := by simpa using q3
  have f4 : ((92 : UInt8) == UInt8.ofNat y) = false := by simpa using q4
  have f5 : ((38 : UInt8) == UInt8.ofNat y) = false := by simpa using q5
  simp [Lib.indexByte, f1, f2, f3, f4, f5]
/-- Here the walk stops. -/
structure StopF (p : Prop) : Prop where
  out : p
theorem mark_at (w : World) (y : Nat) (i : Int) (hy : y < 128) (hi : Lib.indexByte [124, 94, 126, 92, 38] ((y : Int).toNat.toUInt8) = i) : Calls Tryd.prog 36 #[.string { data := #[124, 94, 126, 92, 38] }, .int .i32 (y : Int)] w fun e w' => e = .returned (.int .i64 i) ∧ w = w' := by
  refine (rune_ascii w _ (y : Int) (by omega) (by omega)).mono ?_
  rintro e w' ⟨rfl, rfl⟩
  exact ⟨by rw [← hi], rfl⟩
theorem cells_tl (s : ByteArray) : Lib.strCells s = Lib.byteCells (tl s) := rfl

/-- What stands between two rounds of escaped. -/
def EscI (w : World) (B : Nat) (s : ByteArray) (nx : Value) (wr : World) : Prop :=
  ∃ (pos next : Nat) (acc : List UInt8), next ≤ pos ∧ pos ≤ s.size ∧ nx = .int .i64 next ∧ Lib.IsBuilderF 81 5 B B (Lib.byteCells acc) wr ∧ wr.heap[B + 1]? = some (.stringIter s pos) ∧ Below B w wr ∧ acc ++ ((tl s).take pos).drop next = escL ((tl s).take pos) ∧ acc.length ≤ 3 * pos

theorem tl_between (s : ByteArray) {i j : Nat} : tl (s.extract i j) = ((tl s).take j).drop i := tl_extract s i j
theorem size_between (s : ByteArray) {i j : Nat} (h : j ≤ s.size) : (s.extract i j).size = j - i := by
  rw [← tl_len, tl_extract, List.length_drop, List.length_take, tl_len]; omega

set_option maxRecDepth 100000 in
set_option maxHeartbeats 4000000 in
theorem escP_any (w : World) (s : ByteArray) (hl : s.size ≤ 1000) (hok : okB s) : Calls Tryd.prog 19 #[.string s] w fun e w' => ∃ o, e = .returned (.string o) ∧ tl o = escL (tl s) ∧ Below w.heap.size w w' := by
  obtain ⟨B, hB⟩ : ∃ B, w.heap.size = B := ⟨_, rfl⟩
  have HB : Hid (w.heap.size = B) := hB
  have HK : Hid (okB s) := hok
  clear hok
  go_enter Tryd.func19, Tryd.ntmps19
  go_wp2
  clear hB
  go_loopw [4] (fun nx wr => EscI w B s nx wr) (fun _ wr => s.size - wr.iterPos (B + 1))
  case atStart =>
    refine ⟨0, 0, [], Nat.le_refl _, Nat.zero_le _, rfl, ?_, ?_, ?_, by simp [escL], Nat.le_refl _⟩
    · have := (Lib.IsBuilderF.of (Lib.fresh_isBuilder 81 5 w)).alloc (.stringIter s 0)
      rw [HB.out] at this
      exact this
    · have := World.iter_heap (w.alloc (.cells #[.pointer none, .slice none 0 0] 81)) s 0
      simp only [World.size_alloc] at this
      rw [HB.out] at this
      exact this
    · have := HB.out
      exact ((Below.refl _ w).alloc (by omega) _).alloc (by simp; omega) _
  case round =>
    obtain ⟨pos, next, acc, hnp, hps, rfl, hI, hit, hbe, hacc, hal⟩ := hrel
    have hsz : B + 1 < wr.heap.size := (Array.getElem?_eq_some_iff.1 hit).1
    have HA : Hid (acc ++ ((tl s).take pos).drop next = escL ((tl s).take pos)) := hacc
    have HE : Hid (Below B w wr) := hbe
    clear hacc hbe
    by_cases hp : pos < s.size
    · obtain ⟨hy1, hy2⟩ := HK.out pos hp
      have hnx : ∀ ty, (Instr.next (.pointer (some ⟨B + 1, 0, none⟩)) true ty).run Tryd.prog wr = _ := fun ty => Lib.run_next_ascii_at wr (B + 1) s pos ty hit hp (by omega)
      have hI2 := hI.iterAt hit (pos + 1)
      have hit2 := Lib.iterAt_heap wr (B + 1) s pos (pos + 1) hit
      have HB2 : Hid (Below B w (wr.iterAt (B + 1) s (pos + 1))) := Lib.below_iterAt HE.out (k := B + 1) (by omega) s (pos + 1)
      have hsz2 : B ≤ (wr.iterAt (B + 1) s (pos + 1)).heap.size := by rw [Lib.iterAt_size]; omega
      have ht := tl_take_succ s pos hp
      obtain ⟨c, hc⟩ : ∃ c, s[pos] = c := ⟨_, rfl⟩
      rw [hc] at ht hy1 hy2
      obtain ⟨y, hy⟩ : ∃ y, c.toNat = y := ⟨_, rfl⟩
      simp only [hc, hy] at hnx
      rw [hy] at hy1 hy2
      have HT : Hid ((tl s).take (pos + 1) = (tl s).take pos ++ [c]) := ht
      have HY : Hid (c.toNat = y) := hy
      have HM : Hid (wr.iterPos (B + 1) = pos) := by show World.iterPos _ _ = _; simp only [World.iterPos, hit]
      clear ht hc hy hI hit
      obtain ⟨W0, hW0⟩ : ∃ W0, wr.iterAt (B + 1) s (pos + 1) = W0 := ⟨_, rfl⟩
      rw [hW0] at hI2 hit2 HB2 hsz2
      simp only [hW0] at hnx
      clear hW0
      have hd : (s.extract next pos).size = pos - next := size_between s (by omega)
      rcases mark_ways y with h | h | h | h | h | ⟨h1, h2, h3, h4, h5⟩
      · subst h
        have e := u8_eq HY.out (by decide)
        have hm := mark_at W0 124 0 (by decide) (by rfl)
        go_wp2_with (first | (go_at_call 36; refine hm.mono ?_; rintro e1 w1 ⟨rfl, rfl⟩) | (go_at_call 37; refine StopF.out ?_))
        clear hm
        refine StopF.mk ((bws_any B B _ _ _ hI2 (by rw [Lib.byteCells_length, hd]; omega) hsz2).mono ?_)
        rintro e1 W1 ⟨rfl, g1, b1, k1⟩
        have z1 : B ≤ W1.heap.size := by have := b1.size; omega
        go_wp2_with (go_at_call 38; refine StopF.out ?_)
        refine StopF.mk ((bwb_any B B _ _ _ (.inr g1) (by rw [List.length_append, Lib.byteCells_length, cells_tl, Lib.byteCells_length, tl_len, hd]; omega) z1).mono ?_)
        rintro e2 W2 ⟨rfl, g2, b2, k2⟩
        have z2 : B ≤ W2.heap.size := by have := b2.size; omega
        go_wp2_with (go_at_call 38; refine StopF.out ?_)
        refine StopF.mk ((bwb_any B B _ _ _ (.inr g2) (by simp only [List.length_append, Lib.byteCells_length, cells_tl, tl_len, hd, List.length_singleton]; omega) z2).mono ?_)
        rintro e3 W3 ⟨rfl, g3, b3, k3⟩
        have z3 : B ≤ W3.heap.size := by have := b3.size; omega
        go_wp2_with (go_at_call 38; refine StopF.out ?_)
        refine StopF.mk ((bwb_any B B _ _ _ (.inr g3) (by simp only [List.length_append, Lib.byteCells_length, cells_tl, tl_len, hd, List.length_singleton]; omega) z3).mono ?_)
        rintro e4 W4 ⟨rfl, g4, b4, k4⟩
        have HH : Hid (W4.heap[B + 1]? = some (.stringIter s (pos + 1))) := k4.iter (k3.iter (k2.iter (k1.iter hit2 (by omega)) (by omega)) (by omega)) (by omega)
        have HG : Hid (Lib.IsBuilderF 81 5 B B (Lib.byteCells (acc ++ tl (s.extract next pos) ++ [92, 70, 92])) W4) := by
          have e5 : Lib.byteCells (acc ++ tl (s.extract next pos) ++ [92, 70, 92]) = (((Lib.byteCells acc ++ Lib.strCells (s.extract next pos)) ++ [.int .u8 92]) ++ [.int .u8 70]) ++ [.int .u8 92] := by
            rw [Lib.byteCells_append, Lib.byteCells_append, cells_tl]; simp [Lib.byteCells]
          show Lib.IsBuilderF _ _ _ _ _ _
          rw [e5]
          exact .inr g4
        have HB4 : Hid (Below B w W4) := ((HB2.out.trans b1).trans b2).trans (b3.trans b4)
        clear g1 g2 g3 g4 b1 b2 b3 b4 k1 k2 k3 k4 hI2 hit2
        go_wp2
        go_roundw
        case rel =>
          refine ⟨pos + 1, pos + 1, _, Nat.le_refl _, by omega, by go_num, HG.out, HH.out, HB4.out, ?_, ?_⟩
          · have hn : ((tl s).take (pos + 1)).drop (pos + 1) = [] := List.drop_eq_nil_of_le (by rw [List.length_take]; omega)
            rw [hn, List.append_nil, HT.out, escL_append, escL_one, ← HA.out, tl_between, e]; rfl
          · have := congrArg List.length HA.out
            rw [List.length_append] at this
            have h3 := escL_len ((tl s).take pos)
            rw [List.length_take] at h3
            rw [List.length_append, List.length_append, tl_between]
            simp only [List.length_cons, List.length_nil]
            omega
        case measure =>
          rw [HM.out]
          simp only [World.iterPos, HH.out]
          omega
      · subst h
        have e := u8_eq HY.out (by decide)
        have hm := mark_at W0 94 1 (by decide) (by rfl)
        go_wp2_with (first | (go_at_call 36; refine hm.mono ?_; rintro e1 w1 ⟨rfl, rfl⟩) | (go_at_call 37; refine StopF.out ?_))
        clear hm
        refine StopF.mk ((bws_any B B _ _ _ hI2 (by rw [Lib.byteCells_length, hd]; omega) hsz2).mono ?_)
        rintro e1 W1 ⟨rfl, g1, b1, k1⟩
        have z1 : B ≤ W1.heap.size := by have := b1.size; omega
        go_wp2_with (go_at_call 38; refine StopF.out ?_)
        refine StopF.mk ((bwb_any B B _ _ _ (.inr g1) (by rw [List.length_append, Lib.byteCells_length, cells_tl, Lib.byteCells_length, tl_len, hd]; omega) z1).mono ?_)
        rintro e2 W2 ⟨rfl, g2, b2, k2⟩
        have z2 : B ≤ W2.heap.size := by have := b2.size; omega
        go_wp2_with (go_at_call 38; refine StopF.out ?_)
        refine StopF.mk ((bwb_any B B _ _ _ (.inr g2) (by simp only [List.length_append, Lib.byteCells_length, cells_tl, tl_len, hd, List.length_singleton]; omega) z2).mono ?_)
        rintro e3 W3 ⟨rfl, g3, b3, k3⟩
        have z3 : B ≤ W3.heap.size := by have := b3.size; omega
        go_wp2_with (go_at_call 38; refine StopF.out ?_)
        refine StopF.mk ((bwb_any B B _ _ _ (.inr g3) (by simp only [List.length_append, Lib.byteCells_length, cells_tl, tl_len, hd, List.length_singleton]; omega) z3).mono ?_)
        rintro e4 W4 ⟨rfl, g4, b4, k4⟩
        have HH : Hid (W4.heap[B + 1]? = some (.stringIter s (pos + 1))) := k4.iter (k3.iter (k2.iter (k1.iter hit2 (by omega)) (by omega)) (by omega)) (by omega)
        have HG : Hid (Lib.IsBuilderF 81 5 B B (Lib.byteCells (acc ++ tl (s.extract next pos) ++ [92, 83, 92])) W4) := by
          have e5 : Lib.byteCells (acc ++ tl (s.extract next pos) ++ [92, 83, 92]) = (((Lib.byteCells acc ++ Lib.strCells (s.extract next pos)) ++ [.int .u8 92]) ++ [.int .u8 83]) ++ [.int .u8 92] := by
            rw [Lib.byteCells_append, Lib.byteCells_append, cells_tl]; simp [Lib.byteCells]
          show Lib.IsBuilderF _ _ _ _ _ _
          rw [e5]
          exact .inr g4
        have HB4 : Hid (Below B w W4) := ((HB2.out.trans b1).trans b2).trans (b3.trans b4)
        clear g1 g2 g3 g4 b1 b2 b3 b4 k1 k2 k3 k4 hI2 hit2
        go_wp2
        go_roundw
        case rel =>
          refine ⟨pos + 1, pos + 1, _, Nat.le_refl _, by omega, by go_num, HG.out, HH.out, HB4.out, ?_, ?_⟩
          · have hn : ((tl s).take (pos + 1)).drop (pos + 1) = [] := List.drop_eq_nil_of_le (by rw [List.length_take]; omega)
            rw [hn, List.append_nil, HT.out, escL_append, escL_one, ← HA.out, tl_between, e]; rfl
          · have := congrArg List.length HA.out
            rw [List.length_append] at this
            have h3 := escL_len ((tl s).take pos)
            rw [List.length_take] at h3
            rw [List.length_append, List.length_append, tl_between]
            simp only [List.length_cons, List.length_nil]
            omega
        case measure =>
          rw [HM.out]
          simp only [World.iterPos, HH.out]
          omega
      · subst h
        have e := u8_eq HY.out (by decide)
        have hm := mark_at W0 126 2 (by decide) (by rfl)
        go_wp2_with (first | (go_at_call 36; refine hm.mono ?_; rintro e1 w1 ⟨rfl, rfl⟩) | (go_at_call 37; refine StopF.out ?_))
        clear hm
        refine StopF.mk ((bws_any B B _ _ _ hI2 (by rw [Lib.byteCells_length, hd]; omega) hsz2).mono ?_)
        rintro e1 W1 ⟨rfl, g1, b1, k1⟩
        have z1 : B ≤ W1.heap.size := by have := b1.size; omega
        go_wp2_with (go_at_call 38; refine StopF.out ?_)
        refine StopF.mk ((bwb_any B B _ _ _ (.inr g1) (by rw [List.length_append, Lib.byteCells_length, cells_tl, Lib.byteCells_length, tl_len, hd]; omega) z1).mono ?_)
        rintro e2 W2 ⟨rfl, g2, b2, k2⟩
        have z2 : B ≤ W2.heap.size := by have := b2.size; omega
        go_wp2_with (go_at_call 38; refine StopF.out ?_)
        refine StopF.mk ((bwb_any B B _ _ _ (.inr g2) (by simp only [List.length_append, Lib.byteCells_length, cells_tl, tl_len, hd, List.length_singleton]; omega) z2).mono ?_)
        rintro e3 W3 ⟨rfl, g3, b3, k3⟩
        have z3 : B ≤ W3.heap.size := by have := b3.size; omega
        go_wp2_with (go_at_call 38; refine StopF.out ?_)
        refine StopF.mk ((bwb_any B B _ _ _ (.inr g3) (by simp only [List.length_append, Lib.byteCells_length, cells_tl, tl_len, hd, List.length_singleton]; omega) z3).mono ?_)
        rintro e4 W4 ⟨rfl, g4, b4, k4⟩
        have HH : Hid (W4.heap[B + 1]? = some (.stringIter s (pos + 1))) := k4.iter (k3.iter (k2.iter (k1.iter hit2 (by omega)) (by omega)) (by omega)) (by omega)
        have HG : Hid (Lib.IsBuilderF 81 5 B B (Lib.byteCells (acc ++ tl (s.extract next pos) ++ [92, 82, 92])) W4) := by
          have e5 : Lib.byteCells (acc ++ tl (s.extract next pos) ++ [92, 82, 92]) = (((Lib.byteCells acc ++ Lib.strCells (s.extract next pos)) ++ [.int .u8 92]) ++ [.int .u8 82]) ++ [.int .u8 92] := by
            rw [Lib.byteCells_append, Lib.byteCells_append, cells_tl]; simp [Lib.byteCells]
          show Lib.IsBuilderF _ _ _ _ _ _
          rw [e5]
          exact .inr g4
        have HB4 : Hid (Below B w W4) := ((HB2.out.trans b1).trans b2).trans (b3.trans b4)
        clear g1 g2 g3 g4 b1 b2 b3 b4 k1 k2 k3 k4 hI2 hit2
        go_wp2
        go_roundw
        case rel =>
          refine ⟨pos + 1, pos + 1, _, Nat.le_refl _, by omega, by go_num, HG.out, HH.out, HB4.out, ?_, ?_⟩
          · have hn : ((tl s).take (pos + 1)).drop (pos + 1) = [] := List.drop_eq_nil_of_le (by rw [List.length_take]; omega)
            rw [hn, List.append_nil, HT.out, escL_append, escL_one, ← HA.out, tl_between, e]; rfl
          · have := congrArg List.length HA.out
            rw [List.length_append] at this
            have h3 := escL_len ((tl s).take pos)
            rw [List.length_take] at h3
            rw [List.length_append, List.length_append, tl_between]
            simp only [List.length_cons, List.length_nil]
            omega
        case measure =>
          rw [HM.out]
          simp only [World.iterPos, HH.out]
          omega
      · subst h
        have e := u8_eq HY.out (by decide)
        have hm := mark_at W0 92 3 (by decide) (by rfl)
        go_wp2_with (first | (go_at_call 36; refine hm.mono ?_; rintro e1 w1 ⟨rfl, rfl⟩) | (go_at_call 37; refine StopF.out ?_))
        clear hm
        refine StopF.mk ((bws_any B B _ _ _ hI2 (by rw [Lib.byteCells_length, hd]; omega) hsz2).mono ?_)
        rintro e1 W1 ⟨rfl, g1, b1, k1⟩
        have z1 : B ≤ W1.heap.size := by have := b1.size; omega
        go_wp2_with (go_at_call 38; refine StopF.out ?_)
        refine StopF.mk ((bwb_any B B _ _ _ (.inr g1) (by rw [List.length_append, Lib.byteCells_length, cells_tl, Lib.byteCells_length, tl_len, hd]; omega) z1).mono ?_)
        rintro e2 W2 ⟨rfl, g2, b2, k2⟩
        have z2 : B ≤ W2.heap.size := by have := b2.size; omega
        go_wp2_with (go_at_call 38; refine StopF.out ?_)
        refine StopF.mk ((bwb_any B B _ _ _ (.inr g2) (by simp only [List.length_append, Lib.byteCells_length, cells_tl, tl_len, hd, List.length_singleton]; omega) z2).mono ?_)
        rintro e3 W3 ⟨rfl, g3, b3, k3⟩
        have z3 : B ≤ W3.heap.size := by have := b3.size; omega
        go_wp2_with (go_at_call 38; refine StopF.out ?_)
        refine StopF.mk ((bwb_any B B _ _ _ (.inr g3) (by simp only [List.length_append, Lib.byteCells_length, cells_tl, tl_len, hd, List.length_singleton]; omega) z3).mono ?_)
        rintro e4 W4 ⟨rfl, g4, b4, k4⟩
        have HH : Hid (W4.heap[B + 1]? = some (.stringIter s (pos + 1))) := k4.iter (k3.iter (k2.iter (k1.iter hit2 (by omega)) (by omega)) (by omega)) (by omega)
        have HG : Hid (Lib.IsBuilderF 81 5 B B (Lib.byteCells (acc ++ tl (s.extract next pos) ++ [92, 69, 92])) W4) := by
          have e5 : Lib.byteCells (acc ++ tl (s.extract next pos) ++ [92, 69, 92]) = (((Lib.byteCells acc ++ Lib.strCells (s.extract next pos)) ++ [.int .u8 92]) ++ [.int .u8 69]) ++ [.int .u8 92] := by
            rw [Lib.byteCells_append, Lib.byteCells_append, cells_tl]; simp [Lib.byteCells]
          show Lib.IsBuilderF _ _ _ _ _ _
          rw [e5]
          exact .inr g4
        have HB4 : Hid (Below B w W4) := ((HB2.out.trans b1).trans b2).trans (b3.trans b4)
        clear g1 g2 g3 g4 b1 b2 b3 b4 k1 k2 k3 k4 hI2 hit2
        go_wp2
        go_roundw
        case rel =>
          refine ⟨pos + 1, pos + 1, _, Nat.le_refl _, by omega, by go_num, HG.out, HH.out, HB4.out, ?_, ?_⟩
          · have hn : ((tl s).take (pos + 1)).drop (pos + 1) = [] := List.drop_eq_nil_of_le (by rw [List.length_take]; omega)
            rw [hn, List.append_nil, HT.out, escL_append, escL_one, ← HA.out, tl_between, e]; rfl
          · have := congrArg List.length HA.out
            rw [List.length_append] at this
            have h3 := escL_len ((tl s).take pos)
            rw [List.length_take] at h3
            rw [List.length_append, List.length_append, tl_between]
            simp only [List.length_cons, List.length_nil]
            omega
        case measure =>
          rw [HM.out]
          simp only [World.iterPos, HH.out]
          omega
      · subst h
        have e := u8_eq HY.out (by decide)
        have hm := mark_at W0 38 4 (by decide) (by rfl)
        go_wp2_with (first | (go_at_call 36; refine hm.mono ?_; rintro e1 w1 ⟨rfl, rfl⟩) | (go_at_call 37; refine StopF.out ?_))
        clear hm
        refine StopF.mk ((bws_any B B _ _ _ hI2 (by rw [Lib.byteCells_length, hd]; omega) hsz2).mono ?_)
        rintro e1 W1 ⟨rfl, g1, b1, k1⟩
        have z1 : B ≤ W1.heap.size := by have := b1.size; omega
        go_wp2_with (go_at_call 38; refine StopF.out ?_)
        refine StopF.mk ((bwb_any B B _ _ _ (.inr g1) (by rw [List.length_append, Lib.byteCells_length, cells_tl, Lib.byteCells_length, tl_len, hd]; omega) z1).mono ?_)
        rintro e2 W2 ⟨rfl, g2, b2, k2⟩
        have z2 : B ≤ W2.heap.size := by have := b2.size; omega
        go_wp2_with (go_at_call 38; refine StopF.out ?_)
        refine StopF.mk ((bwb_any B B _ _ _ (.inr g2) (by simp only [List.length_append, Lib.byteCells_length, cells_tl, tl_len, hd, List.length_singleton]; omega) z2).mono ?_)
        rintro e3 W3 ⟨rfl, g3, b3, k3⟩
        have z3 : B ≤ W3.heap.size := by have := b3.size; omega
        go_wp2_with (go_at_call 38; refine StopF.out ?_)
        refine StopF.mk ((bwb_any B B _ _ _ (.inr g3) (by simp only [List.length_append, Lib.byteCells_length, cells_tl, tl_len, hd, List.length_singleton]; omega) z3).mono ?_)
        rintro e4 W4 ⟨rfl, g4, b4, k4⟩
        have HH : Hid (W4.heap[B + 1]? = some (.stringIter s (pos + 1))) := k4.iter (k3.iter (k2.iter (k1.iter hit2 (by omega)) (by omega)) (by omega)) (by omega)
        have HG : Hid (Lib.IsBuilderF 81 5 B B (Lib.byteCells (acc ++ tl (s.extract next pos) ++ [92, 84, 92])) W4) := by
          have e5 : Lib.byteCells (acc ++ tl (s.extract next pos) ++ [92, 84, 92]) = (((Lib.byteCells acc ++ Lib.strCells (s.extract next pos)) ++ [.int .u8 92]) ++ [.int .u8 84]) ++ [.int .u8 92] := by
            rw [Lib.byteCells_append, Lib.byteCells_append, cells_tl]; simp [Lib.byteCells]
          show Lib.IsBuilderF _ _ _ _ _ _
          rw [e5]
          exact .inr g4
        have HB4 : Hid (Below B w W4) := ((HB2.out.trans b1).trans b2).trans (b3.trans b4)
        clear g1 g2 g3 g4 b1 b2 b3 b4 k1 k2 k3 k4 hI2 hit2
        go_wp2
        go_roundw
        case rel =>
          refine ⟨pos + 1, pos + 1, _, Nat.le_refl _, by omega, by go_num, HG.out, HH.out, HB4.out, ?_, ?_⟩
          · have hn : ((tl s).take (pos + 1)).drop (pos + 1) = [] := List.drop_eq_nil_of_le (by rw [List.length_take]; omega)
            rw [hn, List.append_nil, HT.out, escL_append, escL_one, ← HA.out, tl_between, e]; rfl
          · have := congrArg List.length HA.out
            rw [List.length_append] at this
            have h3 := escL_len ((tl s).take pos)
            rw [List.length_take] at h3
            rw [List.length_append, List.length_append, tl_between]
            simp only [List.length_cons, List.length_nil]
            omega
        case measure =>
          rw [HM.out]
          simp only [World.iterPos, HH.out]
          omega
      · have hi := no_mark (by omega) h1 h2 h3 h4 h5
        have e : esc1 c = [c] := by
          have hh := HY.out
          unfold esc1
          rw [if_neg, if_neg, if_neg, if_neg, if_neg] <;> (intro hx; subst hx; simp at hh; omega)
        have hm := mark_at W0 y (-1) (by omega) hi
        have HH : Hid (W0.heap[B + 1]? = some (.stringIter s (pos + 1))) := hit2
        have HG : Hid (Lib.IsBuilderF 81 5 B B (Lib.byteCells acc) W0) := hI2
        clear hit2 hI2 hi
        go_wp2_with (go_at_call 36; refine hm.mono ?_; rintro e1 w1 ⟨rfl, rfl⟩)
        go_roundw
        case rel =>
          refine ⟨pos + 1, next, acc, by omega, by omega, rfl, HG.out, HH.out, HB2.out, ?_, by omega⟩
          rw [HT.out, escL_append, escL_one, e, ← HA.out, List.drop_append_of_le_length (by rw [List.length_take, tl_len]; omega), List.append_assoc]
        case measure =>
          rw [HM.out]
          simp only [World.iterPos, HH.out]
          omega
    · have hnx : ∀ ty, (Instr.next (.pointer (some ⟨B + 1, 0, none⟩)) true ty).run Tryd.prog wr = _ := fun ty => Lib.run_next_end_at wr (B + 1) s pos ty hit hp
      have hpe : pos = s.size := by omega
      have HP : Hid (pos = s.size) := hpe
      have hns : next ≤ s.size := by omega
      have hd : (s.extract next s.size).size = s.size - next := size_between s (Nat.le_refl _)
      have hsz2 : B ≤ wr.heap.size := by omega
      clear hpe
      go_wp2_with (go_at_call 37; refine StopF.out ?_)
      refine StopF.mk ((bws_any B B _ _ _ hI (by rw [Lib.byteCells_length, hd]; omega) hsz2).mono ?_)
      rintro e1 W1 ⟨rfl, g1, b1, k1⟩
      have z1 : B ≤ W1.heap.size := by have := b1.size; omega
      have g1' : Lib.IsBuilderF 81 5 B B (Lib.byteCells (acc ++ tl (s.extract next s.size))) W1 := by
        rw [Lib.byteCells_append, ← cells_tl]
        exact .inr g1
      go_wp2_with (go_at_call 39; refine StopF.out ?_)
      refine StopF.mk ((bst_any B B _ _ g1' z1).mono ?_)
      rintro e2 W2 ⟨rfl, g2, b2, k2⟩
      go_wp2
      go_ret
      refine ⟨_, rfl, ?_, HB.out ▸ (HE.out.trans b1).trans b2⟩
      rw [tl_mk, tl_between, ← HP.out, HA.out, HP.out, ← tl_len, List.take_length]
end Go.Proofs.YtnheeenkdjmhoaaDoor
