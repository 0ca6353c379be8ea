import Derived.Test.YtoikdpjjcnmgeaaGreatDoorIa
import Derived.Lib.QuietBelow
section
/-
  DERIVED. Which node may be an element: the program's look.
-/
namespace Go.Proofs.YtoikdpjjcnmgeaaGreatDoor
open Go Go.Proofs Go.RowKit
open Wk (Nd)

/-- A node in memory. -/
structure NC (W : World) (g : Nat) (t v n : Int) (s : ByteArray) : Prop where
  c0 : W.cell? ⟨g, 0, none⟩ = some (.int .u32 t)
  c1 : W.cell? ⟨g, 1, none⟩ = some (.int .i64 v)
  c2 : W.cell? ⟨g, 2, none⟩ = some (.int .i64 n)
  c3 : W.cell? ⟨g, 3, none⟩ = some (.string s)
theorem NC.on {W W' : World} {g : Nat} {t v n : Int} {s : ByteArray} (h : NC W g t v n s) (hb : Below W.heap.size W W') : NC W' g t v n s :=
  ⟨(hb.cell (Tb.cell_lt h.c0)).trans h.c0, (hb.cell (Tb.cell_lt h.c1)).trans h.c1, (hb.cell (Tb.cell_lt h.c2)).trans h.c2, (hb.cell (Tb.cell_lt h.c3)).trans h.c3⟩

set_option maxRecDepth 100000 in
set_option maxHeartbeats 2000000 in
theorem isElement_any (w : World) (a : Nd) (h0 : 0 ≤ a.t) (h1 : a.t < 4294967296) : Calls Tryz.prog 84 #[.agg #[.int .u32 a.t, .int .i64 a.v, .int .i64 a.n, .string a.s]] w fun e w' => e = .returned (.bool (elemOk a)) ∧ Below w.heap.size w w' := by
  have c26 := fun W => mayStand_any W a.t.toNat (by omega)
  have c27 := fun W => Tb.find_any W a.t.toNat (by omega)
  have htn : ((a.t.toNat : Nat) : Int) = a.t := by omega
  rw [htn] at c26 c27
  unfold elemOk vrO bodyO fnd
  obtain ⟨ms, hms⟩ : ∃ z, mayS a.t.toNat = z := ⟨_, rfl⟩
  simp only [hms] at c26 ⊢
  generalize Tb.docF a.t.toNat (Tb.upTo 10) = O at c27 ⊢
  generalize Tb.eT O = e0 at c27
  generalize Tb.eM O = e1 at c27
  generalize Tb.eV O = e2 at c27 ⊢
  generalize Tb.eS O = e3 at c27
  generalize Tb.eL O = e4 at c27
  generalize Tb.eN O = e5 at c27
  generalize O.isSome = kn at c27 ⊢
  obtain ⟨cf, ff, hcf, hff, c28⟩ : ∃ cf ff, Rp.FunV cf ∧ Rp.FunV ff ∧ ∀ W, Calls Tryz.prog 81 #[.int .i64 a.v] W fun e w' => e = .returned (.tuple #[.agg #[.string (Rp.nm (Rp.vn a.v)), .int .u8 (Rp.pd (Rp.vn a.v)), .int .i64 (Rp.un (Rp.vn a.v)), .int .i64 (Rp.mo (Rp.vn a.v)), .bool (Rp.tx (Rp.vn a.v)), .bool (Rp.ch (Rp.vn a.v)), .bool (Rp.mu (Rp.vn a.v)), .bool (Rp.lo (Rp.vn a.v)), cf, ff], .bool (decide (1 ≤ a.v ∧ a.v ≤ 28))]) ∧ Below W.heap.size W w' := by
    obtain ⟨cf, ff, h1, h2, h3⟩ := Rp.rep_shape a.v
    refine ⟨cf, ff, h1, h2, fun W => ?_⟩
    have := Rp.repOf_any W a.v
    rw [h3] at this
    exact this
  have c29 := fun W hs => unpadded_any W (Rp.nm (Rp.vn a.v)) (Rp.pd (Rp.vn a.v)) (Rp.un (Rp.vn a.v)) (Rp.mo (Rp.vn a.v)) (Rp.tx (Rp.vn a.v)) (Rp.ch (Rp.vn a.v)) (Rp.mu (Rp.vn a.v)) (Rp.lo (Rp.vn a.v)) cf ff hcf hff a.s hs
  generalize Rp.nm (Rp.vn a.v) = x0 at c28 c29
  generalize Rp.pd (Rp.vn a.v) = x1 at c28 c29
  generalize Rp.un (Rp.vn a.v) = x2 at c28 c29
  generalize Rp.mo (Rp.vn a.v) = x3 at c28 c29
  generalize Rp.tx (Rp.vn a.v) = x4 at c28 c29 ⊢
  generalize Rp.ch (Rp.vn a.v) = x5 at c28 c29
  generalize Rp.mu (Rp.vn a.v) = x6 at c28 c29
  generalize Rp.lo (Rp.vn a.v) = x7 at c28 c29
  generalize unp x4 a.s = up at c29 ⊢
  obtain ⟨ok, hok⟩ : ∃ z, decide (1 ≤ a.v ∧ a.v ≤ 28) = z := ⟨_, rfl⟩
  simp only [hok] at c28 ⊢
  obtain ⟨t, v, n, s⟩ := a
  simp only at *
  clear hok htn h0 h1 hms
  obtain ⟨R, hR⟩ : ∃ R, (ms && (!(kn && (v != e2)) && (if v = 18 then (s.toList == []) && decide (0 ≤ n) else ok && (decide (n = 0) && (decide (s.size ≤ 65534) && up))))) = R := ⟨_, rfl⟩
  rw [hR]
  have HR : Hid _ := hR
  clear hR
  obtain ⟨W1, hW1⟩ : ∃ W1, w.alloc (.cells #[.int .u32 t, .int .i64 v, .int .i64 n, .string s] 54) = W1 := ⟨_, rfl⟩
  have HN1 : Hid (NC W1 w.heap.size t v n s) := by rw [← hW1]; exact ⟨by simp, by simp, by simp, by simp⟩
  have HB1 : Hid (Below w.heap.size w W1) := by rw [← hW1]; exact (Below.refl _ _).alloc (Nat.le_refl _) _
  obtain ⟨y0, y1, y2, y3⟩ := HN1.out
  cases ms with
  | false =>
    have HR2 : Hid (R = false) := HR.out.symm
    go_enter Tryz.func84, Tryz.ntmps84
    go_wp2_with (first | (go_at_call 121; refine (c26 _).mono ?_; rintro e W2 ⟨rfl, rfl⟩) | fail)
    go_ret
    exact ⟨by rw [HR2.out]; rfl, HB1.out⟩
  | true =>
    go_enter Tryz.func84, Tryz.ntmps84
    go_wp2_with (first | (go_at_call 121; refine (c26 _).mono ?_; rintro e W2 ⟨rfl, rfl⟩) | (go_at_call 75; refine StopF.out ?_))
    refine ⟨Calls.mono (c27 _) ?_⟩
    rintro e W2 ⟨rfl, hb2⟩
    have hne : w.heap.size ≠ W2.heap.size := by
      have h1 := HB1.out.size
      have h2 := hb2.size
      have h3 : w.heap.size < W1.heap.size := Tb.cell_lt y0
      omega
    obtain ⟨W3, hW3⟩ : ∃ W3, W2.alloc (.cells #[.int .u32 e0, .int .u32 e1, .int .i64 e2, .string e3, .int .i64 e4, .int .i64 e5] 50) = W3 := ⟨_, rfl⟩
    have hb3 : Below W1.heap.size W1 W3 := hb2.trans (by rw [← hW3]; exact (Below.refl _ _).alloc hb2.size _)
    have HN3 : Hid (NC W3 w.heap.size t v n s) := HN1.out.on hb3
    have HB3 : Hid (Below w.heap.size w W3) := HB1.out.trans (hb3.mono HB1.out.size)
    have z2 : W3.cell? ⟨W2.heap.size, 2, none⟩ = some (.int .i64 e2) := by rw [← hW3]; simp
    obtain ⟨p0, p1, p2, p3⟩ := HN3.out
    clear hb2 hb3 c26 c27
    by_cases hbv : (kn && (v != e2)) = true
    · obtain ⟨rfl, hv⟩ : kn = true ∧ (v != e2) = true := by simpa using hbv
      have HR2 : Hid (R = false) := by
        have := HR.out
        rw [hv] at this
        exact this.symm
      clear hbv HR
      go_wp2
      go_ret
      exact ⟨by rw [HR2.out]; rfl, HB3.out⟩
    · have hbv2 : (kn && (v != e2)) = false := by simpa using hbv
      have HR3 : Hid ((if v = 18 then (s.toList == []) && decide (0 ≤ n) else ok && (decide (n = 0) && (decide (s.size ≤ 65534) && up))) = R) := by
        have := HR.out
        rw [hbv2] at this
        exact this
      have hkn : kn = false ∨ (kn = true ∧ (v != e2) = false) := by
        cases kn with
        | false => exact .inl rfl
        | true => exact .inr ⟨rfl, by simpa using hbv2⟩
      clear hbv HR hbv2
      rcases hkn with rfl | ⟨rfl, hv⟩
      all_goals
        by_cases h18 : v = 18
        · have HR4 : Hid (((s.toList == []) && decide (0 ≤ n)) = R) := by have := HR3.out; rwa [if_pos h18] at this
          have b18 : (v == 18) = true := by rw [h18]; rfl
          clear h18 HR3
          obtain ⟨es, hes⟩ : ∃ z, (s.toList == []) = z := ⟨_, rfl⟩
          cases es with
          | true =>
            have HR5 : Hid (R = decide (0 ≤ n)) := by have := HR4.out; rw [hes] at this; exact this.symm
            go_wp2
            go_ret
            exact ⟨by rw [HR5.out]; rfl, HB3.out⟩
          | false =>
            have HR5 : Hid (R = false) := by have := HR4.out; rw [hes] at this; exact this.symm
            go_wp2
            go_ret
            exact ⟨by rw [HR5.out]; rfl, HB3.out⟩
        · have HR4 : Hid ((ok && (decide (n = 0) && (decide (s.size ≤ 65534) && up))) = R) := by have := HR3.out; rwa [if_neg h18] at this
          have b18 : (v == 18) = false := beq_eq_false_iff_ne.2 h18
          clear h18 HR3
          go_wp2_with (go_at_call 81; refine StopF.out ?_)
          refine ⟨Calls.mono (c28 _) ?_⟩
          rintro e W4 ⟨rfl, hb4⟩
          have hne4 : w.heap.size ≠ W4.heap.size := by
            have h1 := HB3.out.size
            have h2 := hb4.size
            have h3 : w.heap.size < W3.heap.size := Tb.cell_lt p0
            omega
          obtain ⟨W5, hW5⟩ : ∃ W5, W4.alloc (.cells #[.string x0, .int .u8 x1, .int .i64 x2, .int .i64 x3, .bool x4, .bool x5, .bool x6, .bool x7, cf, ff] 144) = W5 := ⟨_, rfl⟩
          have hb5 : Below W3.heap.size W3 W5 := hb4.trans (by rw [← hW5]; exact (Below.refl _ _).alloc hb4.size _)
          have HN5 : Hid (NC W5 w.heap.size t v n s) := HN3.out.on hb5
          have HB5 : Hid (Below w.heap.size w W5) := HB3.out.trans (hb5.mono HB3.out.size)
          have hbk : W5.heap[W4.heap.size]? = some (.cells #[.string x0, .int .u8 x1, .int .i64 x2, .int .i64 x3, .bool x4, .bool x5, .bool x6, .bool x7, cf, ff] 144 (0, 0)) := by rw [← hW5]; exact World.alloc_heap_new _ _
          have h1c : (#[.string x0, .int .u8 x1, .int .i64 x2, .int .i64 x3, .bool x4, .bool x5, .bool x6, .bool x7, cf, ff] : Array Value).all (·.oneCell') = true := by
            rcases hcf with rfl | ⟨j, rfl⟩ <;> rcases hff with rfl | ⟨j2, rfl⟩ <;> kernel_rfl
          have HW5 : Hid _ := hW5
          clear hb4 hb5 c28 p0 p1 p2 p3 z2 hW3 hW5
          go_wp2_with (refine wpList_store_rowTo rfl 144 (.tmp 5) (.tmp 40) rfl rfl W4.heap.size #[.string x0, .int .u8 x1, .int .i64 x2, .int .i64 x3, .bool x4, .bool x5, .bool x6, .bool x7, cf, ff] rfl rfl 144 _ (World.alloc_heap_new _ _) (by kernel_rfl) rfl h1c ?_; refine StopF.out ?_)
          refine ⟨?_⟩
          rw [World.setRow_alloc_new, HW5.out]
          have k0 : W5.cell? ⟨W4.heap.size, 0, none⟩ = some (.string x0) := Tb.cell_blk hbk rfl
          have k1 : W5.cell? ⟨W4.heap.size, 1, none⟩ = some (.int .u8 x1) := Tb.cell_blk hbk rfl
          have k2 : W5.cell? ⟨W4.heap.size, 2, none⟩ = some (.int .i64 x2) := Tb.cell_blk hbk rfl
          have k3 : W5.cell? ⟨W4.heap.size, 3, none⟩ = some (.int .i64 x3) := Tb.cell_blk hbk rfl
          have k4 : W5.cell? ⟨W4.heap.size, 4, none⟩ = some (.bool x4) := Tb.cell_blk hbk rfl
          have k5 : W5.cell? ⟨W4.heap.size, 5, none⟩ = some (.bool x5) := Tb.cell_blk hbk rfl
          have k6 : W5.cell? ⟨W4.heap.size, 6, none⟩ = some (.bool x6) := Tb.cell_blk hbk rfl
          have k7 : W5.cell? ⟨W4.heap.size, 7, none⟩ = some (.bool x7) := Tb.cell_blk hbk rfl
          have k8 : W5.cell? ⟨W4.heap.size, 8, none⟩ = some cf := Tb.cell_blk hbk rfl
          have k9 : W5.cell? ⟨W4.heap.size, 9, none⟩ = some ff := Tb.cell_blk hbk rfl
          obtain ⟨q0, q1, q2, q3⟩ := HN5.out
          clear hbk h1c HW5
          by_cases hgo : (ok && (decide (n = 0) && decide (s.size ≤ 65534))) = true
          · obtain ⟨rfl, hn, hs⟩ : ok = true ∧ n = 0 ∧ s.size ≤ 65534 := by simpa using hgo
            have HR5 : Hid (R = up) := by
              have := HR4.out
              rw [show decide (n = 0) = true by simpa using hn, show decide (s.size ≤ 65534) = true by simpa using hs] at this
              exact this.symm
            have bn : (n == 0) = true := by rw [hn]; rfl
            have bs : decide ((s.size : Int) ≤ 65534) = true := by simp; omega
            have c := fun W => c29 W hs
            clear hgo HR4 hn c29
            all_goals go_wp2_with (first | (go_at_call 122; refine (c _).mono ?_; rintro e W6 ⟨rfl, hb6⟩) | fail)
            all_goals go_ret
            all_goals exact ⟨by rw [HR5.out]; rfl, HB5.out.trans (hb6.mono HB5.out.size)⟩
          · have HR5 : Hid (R = false) := by
              have := HR4.out
              show R = false
              rw [← this]
              have : (ok && (decide (n = 0) && decide (s.size ≤ 65534))) = false := by simpa using hgo
              revert this
              cases ok <;> cases decide (n = 0) <;> cases decide (s.size ≤ 65534) <;> simp
            have hor : ok = false ∨ (ok = true ∧ (n == 0) = false) ∨ (ok = true ∧ (n == 0) = true ∧ ¬ s.size ≤ 65534 ∧ decide ((s.size : Int) ≤ 65534) = false) := by
              cases ok with
              | false => exact .inl rfl
              | true =>
                right
                by_cases hn : n = 0
                · have hs : ¬ s.size ≤ 65534 := fun hs => hgo (by simp [hn, hs])
                  exact .inr ⟨rfl, by rw [hn]; rfl, hs, by simp; omega⟩
                · exact .inl ⟨rfl, beq_eq_false_iff_ne.2 hn⟩
            clear hgo HR4 c29
            rcases hor with rfl | ⟨rfl, bn⟩ | ⟨rfl, bn, bs, bs2⟩
            all_goals go_wp2
            all_goals go_ret
            all_goals exact ⟨by rw [HR5.out]; rfl, HB5.out⟩
end Go.Proofs.YtoikdpjjcnmgeaaGreatDoor
end

section
/-
  DERIVED. Which node may stand where the levels are: the program's look.
-/
namespace Go.Proofs.YtoikdpjjcnmgeaaGreatDoor
open Go Go.Proofs Go.RowKit Go.Sort
open Wk (Nd)

theorem hmix : Tryz.prog.follows .mixedOrders = true := by kernel_rfl
/-- A goal that no look goes into. -/
structure ShutQ (p : Prop) : Prop where
  out : p
theorem sq_skip {P : Program} {ops : Array Oper} {C : World → Prop} {Q : Act → Prop} {a : Act} {o : Oper} {rest : List Oper} (hwant : Region.wanted o (yielded ops a.tmps) = false) (h : ShutQ (wpQuiet P ops C Q rest (a.put o.dst undef))) : ShutQ (wpQuiet P ops C Q (o :: rest) a) := by
  refine ⟨?_⟩
  unfold wpQuiet
  rw [if_neg (by simp [hwant])]
  exact h.out
theorem sq_move {P : Program} {ops : Array Oper} {C : World → Prop} {Q : Act → Prop} {a : Act} {o : Oper} {rest : List Oper} (x : Operand) (ho : o.op = .move x) (hwant : Region.wanted o (yielded ops a.tmps) = true) (h : ShutQ (wpQuiet P ops C Q rest (a.put o.dst (a.eval x)))) : ShutQ (wpQuiet P ops C Q (o :: rest) a) := by
  refine ⟨?_⟩
  unfold wpQuiet
  rw [if_pos hwant]
  refine ⟨a.eval x, fun w hw => ?_, h.out⟩
  unfold Oper.quietAt execOp
  simp only [ho, Sem.run_pure]
  exact ⟨rfl, rfl⟩
theorem sq_pick {P : Program} {ops : Array Oper} {C : World → Prop} {Q : Act → Prop} {a : Act} {o : Oper} {rest : List Oper} (c x y : Operand) (b : Bool) (ho : o.op = .pick c x y) (hc : a.eval c = .bool b) (hwant : Region.wanted o (yielded ops a.tmps) = true) (h : ShutQ (wpQuiet P ops C Q rest (a.put o.dst (if b = true then a.eval x else a.eval y)))) : ShutQ (wpQuiet P ops C Q (o :: rest) a) := by
  refine ⟨?_⟩
  unfold wpQuiet
  rw [if_pos hwant]
  refine ⟨_, fun w hw => ?_, h.out⟩
  unfold Oper.quietAt execOp
  simp only [ho, hc, asBool, Sem.run_bind, Sem.run_pure, Result.andThen_ok]
  exact ⟨rfl, rfl⟩

set_option maxRecDepth 100000 in
set_option maxHeartbeats 2000000 in
theorem isRight_item (w : World) (a : Nd) (g k c : Nat) (hk : k < 100) (he : (k + 1) % 2 = 0) :
    Calls Tryz.prog 50 #[.agg #[.int .u32 a.t, .int .i64 a.v, .int .i64 a.n, .string a.s], .slice (some ⟨g, 0, none⟩) (k + 1) c] w fun e w' => e = .returned (.bool (itemOk a && decide ((k + 1) / 2 ≤ 4))) ∧ Below w.heap.size w w' := by
  have c21 := fun W => wants_any W (some ⟨g, 0, none⟩) (k + 1) c true (by simp [he])
  have c22 := fun W => isItem_any W a
  obtain ⟨R, hR⟩ : ∃ R, (itemOk a && decide ((k + 1) / 2 ≤ 4)) = R := ⟨_, rfl⟩
  rw [hR]
  have HR : Hid _ := hR
  clear hR
  generalize itemOk a = z at c22 HR
  obtain ⟨t, v, n, s⟩ := a
  simp only at *
  obtain ⟨W1, hW1⟩ : ∃ W1, w.alloc (.cells #[.int .u32 t, .int .i64 v, .int .i64 n, .string s] 54) = W1 := ⟨_, rfl⟩
  have HN1 : Hid (NC W1 w.heap.size t v n s) := by rw [← hW1]; exact ⟨by simp, by simp, by simp, by simp⟩
  have HB1 : Hid (Below w.heap.size w W1) := by rw [← hW1]; exact (Below.refl _ _).alloc (Nat.le_refl _) _
  obtain ⟨y0, y1, y2, y3⟩ := HN1.out
  have HQ : Hid (decide ((k + 1) / 2 ≤ 4) = decide (((k : Int) + 1) / 2 ≤ 4)) := by
    show _ = _
    by_cases h : (k + 1) / 2 ≤ 4
    · rw [show decide ((k + 1) / 2 ≤ 4) = true by simpa using h]; symm; simp; omega
    · rw [show decide ((k + 1) / 2 ≤ 4) = false by simpa using h]; symm; simp; omega
  clear he
  cases z with
  | false =>
    have HR2 : Hid (R = false) := HR.out.symm
    go_enter Tryz.func50, Tryz.ntmps50
    go_wp2_with (first | (go_at_call 82; refine (c21 _).mono ?_; rintro e W2 ⟨rfl, rfl⟩) | (go_at_call 83; refine (c22 _).mono ?_; rintro e W2 ⟨rfl, hb2⟩))
    go_ret
    exact ⟨by rw [HR2.out]; rfl, HB1.out.trans (hb2.mono HB1.out.size)⟩
  | true =>
    have HR2 : Hid (R = decide (((k : Int) + 1) / 2 ≤ 4)) := by rw [← HQ.out]; exact HR.out.symm
    go_enter Tryz.func50, Tryz.ntmps50
    go_wp2_with (first | (go_at_call 82; refine (c21 _).mono ?_; rintro e W2 ⟨rfl, rfl⟩) | (go_at_call 83; refine (c22 _).mono ?_; rintro e W2 ⟨rfl, hb2⟩))
    go_ret
    exact ⟨by rw [HR2.out]; rfl, HB1.out.trans (hb2.mono HB1.out.size)⟩

set_option maxRecDepth 100000 in
set_option maxHeartbeats 2000000 in
theorem isRight_elem (w : World) (a : Nd) (h0 : 0 ≤ a.t) (h1 : a.t < 4294967296) (g k c : Nat) (hk : k < 100) (he : (k + 1) % 2 = 1) (last : Int) (hl : w.cell? ⟨g, k * 2 + 1, none⟩ = some (.int .u32 last)) :
    Calls Tryz.prog 50 #[.agg #[.int .u32 a.t, .int .i64 a.v, .int .i64 a.n, .string a.s], .slice (some ⟨g, 0, none⟩) (k + 1) c] w fun e w' => e = .returned (.bool (elemOk a && decide (last < a.t))) ∧ Below w.heap.size w w' := by
  have c21 := fun W => wants_any W (some ⟨g, 0, none⟩) (k + 1) c false (by simp; omega)
  have c23 := fun W => isElement_any W a h0 h1
  obtain ⟨R, hR⟩ : ∃ R, (elemOk a && decide (last < a.t)) = R := ⟨_, rfl⟩
  rw [hR]
  have HR : Hid _ := hR
  clear hR
  generalize elemOk a = z at c23 HR
  obtain ⟨t, v, n, s⟩ := a
  simp only at *
  obtain ⟨W1, hW1⟩ : ∃ W1, w.alloc (.cells #[.int .u32 t, .int .i64 v, .int .i64 n, .string s] 54) = W1 := ⟨_, rfl⟩
  have HN1 : Hid (NC W1 w.heap.size t v n s) := by rw [← hW1]; exact ⟨by simp, by simp, by simp, by simp⟩
  have HB1 : Hid (Below w.heap.size w W1) := by rw [← hW1]; exact (Below.refl _ _).alloc (Nat.le_refl _) _
  obtain ⟨y0, y1, y2, y3⟩ := HN1.out
  have hl1 := (HB1.out.cell (p := ⟨g, k * 2 + 1, none⟩) (Tb.cell_lt hl)).trans hl
  have hs1 : w.heap.size ≤ W1.heap.size := HB1.out.size
  clear he hl
  have k0 := fun d os => cell_regrown y0 d os
  have k1 := fun d os => cell_regrown y1 d os
  have k2 := fun d os => cell_regrown y2 d os
  have k3 := fun d os => cell_regrown y3 d os
  have k4 := fun d os => cell_regrown hl1 d os
  have cM : ∀ d os, Calls Tryz.prog 84 #[.agg #[.int .u32 t, .int .i64 v, .int .i64 n, .string s]] (grow (redrawn W1 d) os) fun x w'' => x = .returned (.bool z) ∧ ∃ p : Regrown, w'' = grow (redrawn W1 p.d) p.os := fun d os => Calls.regrown_of (c23 _)
  clear c23
  have hwr : IntKind.i64.wrap (k : Int) = (k : Int) := by rw [IntKind.wrap_i64]; omega
  have hki : (k : Int) < (k : Int) + 1 := by omega
  cases z with
  | true =>
    have HR2 : Hid (R = decide (last < t)) := HR.out.symm
    go_enter Tryz.func50, Tryz.ntmps50
    go_wp2_with (first | (go_at_call 82; refine (c21 _).mono ?_; rintro e W2 ⟨rfl, rfl⟩) | fail)
    refine wp_region_quiet_below hmix (by kernel_rfl) ?_
    repeat (quiet_step (first | exact cM _ _))
    refine wpQuiet_nil ?_
    intro _ hw'
    obtain ⟨⟨dq, osq⟩, hw''⟩ := hw'
    subst hw''
    have hBW := below_regrown W1 dq osq
    have HB : Hid (Below w.heap.size w (grow (redrawn W1 dq) osq)) := HB1.out.trans (hBW.mono hs1)
    clear cM hBW k0 k1 k2 k3 k4
    go_wp2
    go_ret
    exact ⟨by rw [HR2.out]; rfl, HB.out⟩
  | false =>
    have HR2 : Hid (R = false) := HR.out.symm
    go_enter Tryz.func50, Tryz.ntmps50
    go_wp2_with (first | (go_at_call 82; refine (c21 _).mono ?_; rintro e W2 ⟨rfl, rfl⟩) | fail)
    refine wp_region_quiet_below hmix (by kernel_rfl) ?_
    iterate 2 (quiet_step (first | exact cM _ _))
    refine ShutQ.out ?_
    refine sq_move (.tmp 16) rfl (by kernel_rfl) ?_
    iterate 10 (refine sq_skip (by kernel_rfl) ?_)
    refine sq_pick (.tmp 17) (.tmp 27) (.const (.bool false)) false rfl (by kernel_rfl) (by kernel_rfl) ?_
    refine ⟨?_⟩
    quiet_step (fail)
    refine wpQuiet_nil ?_
    intro _ hw'
    obtain ⟨⟨dq, osq⟩, hw''⟩ := hw'
    subst hw''
    have hBW := below_regrown W1 dq osq
    have HB : Hid (Below w.heap.size w (grow (redrawn W1 dq) osq)) := HB1.out.trans (hBW.mono hs1)
    clear cM hBW k0 k1 k2 k3 k4
    try go_simp
    go_wp2
    go_ret
    exact ⟨by rw [HR2.out]; rfl, HB.out⟩
end Go.Proofs.YtoikdpjjcnmgeaaGreatDoor
end
