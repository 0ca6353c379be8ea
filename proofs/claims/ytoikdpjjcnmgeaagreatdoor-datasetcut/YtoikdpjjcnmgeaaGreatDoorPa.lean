import Derived.Test.YtoikdpjjcnmgeaaGreatDoorEc
import Derived.Test.YtoikdpjjcnmgeaaGreatDoorRM
import Derived.Deep.AppendLies
section
/-
  DERIVED. Which node may be an element: the document's look.
-/
namespace Go.Proofs.YtoikdpjjcnmgeaaGreatDoor
open Go Go.Proofs Go.RowKit Go.Sort
open Wk (Nd)

set_option maxRecDepth 100000 in
set_option maxHeartbeats 4000000 in
theorem relement_any (w : World) (a : Nd) (h0 : 0 ≤ a.t) (h1 : a.t < 4294967296) (last : Int) : Calls Tryz.prog 123 #[.agg #[.int .u32 a.t, .int .i64 a.v, .int .i64 a.n, .string a.s], .int .u32 last] w fun e w' => e = .returned (.bool (elemOk a && decide (last < a.t))) ∧ Below w.heap.size w w' := by
  have c30 := fun W => Rp.rabout_open W a.v
  have c31 := fun W => Tb.rfind_any W a.t.toNat (by omega)
  have c32 := fun W (hs : a.s.size ≤ 65534) => Rp.rtrim_any W a.v a.s (by omega)
  have htn : ((a.t.toNat : Nat) : Int) = a.t := by omega
  rw [htn] at c31
  obtain ⟨R, hR⟩ : ∃ R, (elemOk a && decide (last < a.t)) = R := ⟨_, rfl⟩
  rw [hR]
  unfold elemOk vrO bodyO fnd unp at hR
  have hA : bits .and .u32 a.t 65535 = ((a.t.toNat % 65536 : Nat) : Int) := by
    have := u32_and_nat a.t.toNat 65535 (by omega) (by decide)
    rw [show ((65535 : Nat) : Int) = 65535 from rfl, htn] at this
    rw [this, show (65535 : Nat) = 2 ^ 16 - 1 from rfl, Nat.and_two_pow_sub_one_eq_mod]
  have hG : a.t / 65536 = ((a.t.toNat / 65536 : Nat) : Int) := by omega
  have hms : mayS a.t.toNat = !(((a.t / 65536 == 0) || ((a.t / 65536 == 2) || ((a.t / 65536 == 65534) || (a.t / 65536 == 65535)))) || (bits .and .u32 a.t 65535 == 0)) := by
    unfold mayS
    rw [hA, hG]
    generalize a.t.toNat / 65536 = g
    generalize a.t.toNat % 65536 = m
    have e : ∀ (x c : Nat), (((x : Nat) : Int) == ((c : Nat) : Int)) = decide (x = c) := fun x c => by
      by_cases h : x = c
      · subst h; simp
      · rw [show decide (x = c) = false by simpa using h]; exact beq_eq_false_iff_ne.2 (by omega)
    rw [show (0 : Int) = ((0 : Nat) : Int) from rfl, show (2 : Int) = ((2 : Nat) : Int) from rfl, show (65534 : Int) = ((65534 : Nat) : Int) from rfl, show (65535 : Int) = ((65535 : Nat) : Int) from rfl, e, e, e, e, e]
    cases decide (g = 0) <;> cases decide (g = 2) <;> cases decide (g = 65534) <;> cases decide (g = 65535) <;> cases decide (m = 0) <;> rfl
  rw [hms] at hR
  generalize Tb.docF a.t.toNat (Tb.upTo 10) = O at c31 hR
  generalize Tb.eT O = e0 at c31
  generalize Tb.eM O = e1 at c31
  generalize Tb.eV O = e2 at c31 hR
  generalize Tb.eS O = e3 at c31
  generalize Tb.eL O = e4 at c31
  generalize Tb.eN O = e5 at c31
  generalize O.isSome = kn at c31 hR
  generalize Rp.nm (Rp.vn a.v) = x0 at c30
  generalize Rp.pd (Rp.vn a.v) = x1 at c30
  generalize Rp.un (Rp.vn a.v) = x2 at c30
  generalize Rp.mo (Rp.vn a.v) = x3 at c30
  generalize Rp.tx (Rp.vn a.v) = x4 at c30 c32 hR
  generalize Rp.ch (Rp.vn a.v) = x5 at c30
  generalize Rp.mu (Rp.vn a.v) = x6 at c30
  generalize Rp.lo (Rp.vn a.v) = x7 at c30
  obtain ⟨ok, hok⟩ : ∃ z, decide (1 ≤ a.v ∧ a.v ≤ 28) = z := ⟨_, rfl⟩
  have hv18 : a.v = 18 → ok = true := fun h => by rw [← hok, h]; rfl
  rw [hok] at hR
  simp only [hok] at c30
  obtain ⟨t, v, n, s⟩ := a
  simp only at *
  clear hok htn h0 h1 hms hA hG
  have HR : Hid _ := hR
  clear hR
  obtain ⟨W1, hW1⟩ : ∃ W1, w.alloc (.cells #[.int .u32 t, .int .i64 v, .int .i64 n, .string s] 54) = W1 := ⟨_, rfl⟩
  have HN1 : Hid (NC W1 w.heap.size t v n s) := by rw [← hW1]; exact ⟨by simp, by simp, by simp, by simp⟩
  have HB1 : Hid (Below w.heap.size w W1) := by rw [← hW1]; exact (Below.refl _ _).alloc (Nat.le_refl _) _
  obtain ⟨y0, y1, y2, y3⟩ := HN1.out
  have H18 : Hid (v = 18 → ok = true) := hv18
  clear hv18
  by_cases g0 : (t / 65536 == 0) = true
  · have HR2 : Hid (R = false) := by
      have := HR.out
      rw [g0] at this
      simp at this
      exact this
    clear HR
    go_enter Tryz.func123, Tryz.ntmps123
    go_wp2
    go_ret
    exact ⟨by rw [HR2.out]; rfl, HB1.out⟩
  rw [Bool.not_eq_true] at g0
  by_cases g1 : (t / 65536 == 2) = true
  · have HR2 : Hid (R = false) := by
      have := HR.out
      rw [g1] at this
      simp at this
      exact this
    clear HR
    go_enter Tryz.func123, Tryz.ntmps123
    go_wp2
    go_ret
    exact ⟨by rw [HR2.out]; rfl, HB1.out⟩
  rw [Bool.not_eq_true] at g1
  by_cases g2 : (t / 65536 == 65534) = true
  · have HR2 : Hid (R = false) := by
      have := HR.out
      rw [g2] at this
      simp at this
      exact this
    clear HR
    go_enter Tryz.func123, Tryz.ntmps123
    go_wp2
    go_ret
    exact ⟨by rw [HR2.out]; rfl, HB1.out⟩
  rw [Bool.not_eq_true] at g2
  by_cases g3 : (t / 65536 == 65535) = true
  · have HR2 : Hid (R = false) := by
      have := HR.out
      rw [g3] at this
      simp at this
      exact this
    clear HR
    go_enter Tryz.func123, Tryz.ntmps123
    go_wp2
    go_ret
    exact ⟨by rw [HR2.out]; rfl, HB1.out⟩
  rw [Bool.not_eq_true] at g3
  by_cases g4 : (bits .and .u32 t 65535 == 0) = true
  · have HR2 : Hid (R = false) := by
      have := HR.out
      rw [g4] at this
      simp at this
      exact this
    clear HR
    go_enter Tryz.func123, Tryz.ntmps123
    go_wp2
    go_ret
    exact ⟨by rw [HR2.out]; rfl, HB1.out⟩
  rw [Bool.not_eq_true] at g4
  by_cases g5 : t ≤ last
  · have HR2 : Hid (R = false) := by
      have := HR.out
      rw [show decide (last < t) = false by simp; omega] at this
      simp at this
      exact this
    clear HR
    go_enter Tryz.func123, Tryz.ntmps123
    go_wp2
    go_ret
    exact ⟨by rw [HR2.out]; rfl, HB1.out⟩
  have HR2 : Hid ((!(kn && (v != e2)) && (if v = 18 then (s.toList == []) && decide (0 ≤ n) else ok && (decide (n = 0) && (decide (s.size ≤ 65534) && (if x4 = true then (Rp.trimB s).toList == s.toList else decide (s.size % 2 = 0)))))) = R) := by
    have := HR.out
    rw [g0, g1, g2, g3, g4, show decide (last < t) = true by simp; omega, Bool.and_true] at this
    exact this
  clear HR
  go_enter Tryz.func123, Tryz.ntmps123
  go_wp2_with (go_at_call 105; refine StopF.out ?_)
  refine ⟨Calls.mono (c30 _) ?_⟩
  rintro e W2 ⟨rfl, hb2⟩
  obtain ⟨W3, hW3⟩ : ∃ W3, W2.alloc (.cells #[.string x0, .int .u8 x1, .int .i64 x2, .int .i64 x3, .bool x4, .bool x5, .bool x6, .bool x7] 140) = W3 := ⟨_, rfl⟩
  have hb3 : Below W1.heap.size W1 W3 := hb2.trans (by rw [← hW3]; exact (Below.refl _ _).alloc hb2.size _)
  have HN3 : Hid (NC W3 w.heap.size t v n s) := HN1.out.on hb3
  have HB3 : Hid (Below w.heap.size w W3) := HB1.out.trans (hb3.mono HB1.out.size)
  have z4 : W3.cell? ⟨W2.heap.size, 4, none⟩ = some (.bool x4) := by rw [← hW3]; simp
  obtain ⟨p0, p1, p2, p3⟩ := HN3.out
  clear hb2 c30 g0 g1 g2 g3 g4 g5 y0 y1 y2 y3 hW1
  go_wp2_with (go_at_call 21; refine StopF.out ?_)
  refine ⟨Calls.mono (c31 _) ?_⟩
  rintro e W4 ⟨rfl, hb4⟩
  obtain ⟨W5, hW5⟩ : ∃ W5, W4.alloc (.cells #[.int .u32 e0, .int .u32 e1, .int .i64 e2, .string e3, .int .i64 e4, .int .i64 e5] 50) = W5 := ⟨_, rfl⟩
  have hb5 : Below W3.heap.size W3 W5 := hb4.trans (by rw [← hW5]; exact (Below.refl _ _).alloc hb4.size _)
  have HN5 : Hid (NC W5 w.heap.size t v n s) := HN3.out.on hb5
  have HB5 : Hid (Below w.heap.size w W5) := HB3.out.trans (hb5.mono HB3.out.size)
  have j4 : W5.cell? ⟨W2.heap.size, 4, none⟩ = some (.bool x4) := (hb5.cell (p := ⟨W2.heap.size, 4, none⟩) (Tb.cell_lt z4)).trans z4
  have j2 : W5.cell? ⟨W4.heap.size, 2, none⟩ = some (.int .i64 e2) := by rw [← hW5]; simp
  obtain ⟨q0, q1, q2, q3⟩ := HN5.out
  clear hb4 hb5 c31 p0 p1 p2 p3 z4 hW3
  by_cases hgo : (!ok || (kn && (e2 != v))) = true
  · have HR5 : Hid (R = false) := by
      have := HR2.out
      have hne : (e2 != v) = (v != e2) := by simp [bne, Bool.beq_comm]
      rw [hne] at hgo
      show R = false
      rw [← this]
      cases hk : (kn && (v != e2)) with
      | true => rfl
      | false =>
        rw [hk] at hgo
        have ho : ok = false := by simpa using hgo
        rw [if_neg (fun h => by have := H18.out h; rw [ho] at this; cases this), ho]
        rfl
    have hor : ok = false ∨ (ok = true ∧ kn = true ∧ (e2 != v) = true) := by
      cases ok with
      | false => exact .inl rfl
      | true => exact .inr ⟨rfl, by simpa using hgo⟩
    clear hgo HR2 H18
    rcases hor with rfl | ⟨rfl, rfl, hev⟩
    all_goals go_wp2
    all_goals go_ret
    all_goals exact ⟨by rw [HR5.out]; rfl, HB5.out⟩
  · obtain ⟨rfl, hkn⟩ : ok = true ∧ (kn && (e2 != v)) = false := by
      cases ok with
      | false => simp at hgo
      | true => exact ⟨rfl, by simpa using hgo⟩
    have HR3 : Hid ((if v = 18 then (s.toList == []) && decide (0 ≤ n) else (decide (n = 0) && (decide (s.size ≤ 65534) && (if x4 = true then (Rp.trimB s).toList == s.toList else decide (s.size % 2 = 0))))) = R) := by
      have := HR2.out
      have hne : (e2 != v) = (v != e2) := by simp [bne, Bool.beq_comm]
      rw [hne] at hkn
      rw [hkn] at this
      exact this
    have hor : kn = false ∨ (kn = true ∧ (e2 != v) = false) := by
      cases kn with
      | false => exact .inl rfl
      | true => exact .inr ⟨rfl, by simpa using hkn⟩
    clear hgo HR2 H18 hkn
    by_cases h18 : v = 18
    · have HR4 : Hid (((s.toList == []) && decide (0 ≤ n)) = R) := by have := HR3.out; rwa [if_pos h18] at this
      have b18 : (v == 18) = true := by rw [h18]; rfl
      clear h18 HR3
      obtain ⟨es, hes⟩ : ∃ z, (s.toList == []) = z := ⟨_, rfl⟩
      cases es with
      | true =>
        have HR5 : Hid (R = decide (0 ≤ n)) := by have := HR4.out; rw [hes] at this; exact this.symm
        rcases hor with rfl | ⟨rfl, hev⟩
        all_goals go_wp2
        all_goals go_ret
        all_goals exact ⟨by rw [HR5.out]; rfl, HB5.out⟩
      | false =>
        have HR5 : Hid (R = false) := by have := HR4.out; rw [hes] at this; exact this.symm
        rcases hor with rfl | ⟨rfl, hev⟩
        all_goals go_wp2
        all_goals go_ret
        all_goals exact ⟨by rw [HR5.out]; rfl, HB5.out⟩
    · have HR4 : Hid ((decide (n = 0) && (decide (s.size ≤ 65534) && (if x4 = true then (Rp.trimB s).toList == s.toList else decide (s.size % 2 = 0)))) = R) := by have := HR3.out; rwa [if_neg h18] at this
      have b18 : (v == 18) = false := beq_eq_false_iff_ne.2 h18
      clear h18 HR3
      have k0 := fun d os => cell_regrown q0 d os
      have k1 := fun d os => cell_regrown q1 d os
      have k2 := fun d os => cell_regrown q2 d os
      have k3 := fun d os => cell_regrown q3 d os
      have k4 := fun d os => cell_regrown j4 d os
      rcases hor with rfl | ⟨rfl, hev⟩
      all_goals go_wp2
      all_goals
        by_cases hn : n = 0
        · have bn : (n == 0) = true := by rw [hn]; rfl
          have bn2 : decide (n = 0) = true := by simpa using hn
          clear hn
          by_cases hs : s.size ≤ 65534
          · have bs : decide ((s.size : Int) ≤ 65534) = true := by simp; omega
            have HR6 : Hid ((if x4 = true then (Rp.trimB s).toList == s.toList else decide (s.size % 2 = 0)) = R) := by
              have := HR4.out
              rw [bn2, show decide (s.size ≤ 65534) = true by simpa using hs] at this
              exact this
            have cM : ∀ d os, Calls Tryz.prog 107 #[.int .i64 v, .string s] (grow (redrawn W5 d) os) fun x w'' => x = .returned (.string (if x4 = true then Rp.trimB s else s)) ∧ ∃ p : Regrown, w'' = grow (redrawn W5 p.d) p.os := fun d os => Calls.regrown_of (c32 _ hs)
            clear c32 HR4 bn2
            cases x4 with
            | true =>
              have HR7 : Hid (R = ((Rp.trimB s).toList == s.toList)) := by have := HR6.out; rw [if_pos rfl] at this; exact this.symm
              rw [if_pos rfl] at cM
              clear HR6
              generalize Rp.trimB s = q at cM HR7
              by_cases hq : (q.toList == s.toList) = true
              · have HR5 : Hid (R = true) := HR7.out.trans hq
                refine wp_region_quiet_below hmix (by kernel_rfl) ?_
                iterate 23 (quiet_step (first | exact cM _ _))
                refine ShutQ.out ?_
                iterate 5 (refine sq_skip (by kernel_rfl) ?_)
                refine sq_pick (.tmp 96) (.const (.bool true)) (.tmp 101) true rfl (by kernel_rfl) (by kernel_rfl) ?_
                refine sq_pick (.tmp 93) (.tmp 102) (.const (.bool false)) true rfl (by kernel_rfl) (by kernel_rfl) ?_
                refine ⟨?_⟩
                quiet_step (fail)
                clear cM
                refine wpQuiet_nil ?_
                intro _ hw'
                obtain ⟨⟨dq, osq⟩, hw''⟩ := hw'
                subst hw''
                have hBW := below_regrown W5 dq osq
                have HB : Hid (Below w.heap.size w (grow (redrawn W5 dq) osq)) := HB5.out.trans (hBW.mono HB5.out.size)
                clear hBW k0 k1 k2 k3 k4
                try go_simp
                go_wp2
                go_ret
                exact ⟨by rw [HR5.out]; rfl, HB.out⟩
              · have hq2 : (q.toList == s.toList) = false := by simpa using hq
                have HR5 : Hid (R = false) := HR7.out.trans hq2
                clear hq
                refine wp_region_quiet_below hmix (by kernel_rfl) ?_
                iterate 19 (quiet_step (first | exact cM _ _))
                refine ShutQ.out ?_
                refine sq_move (.tmp 92) rfl (by kernel_rfl) ?_
                iterate 9 (refine sq_skip (by kernel_rfl) ?_)
                refine sq_pick (.tmp 93) (.tmp 102) (.const (.bool false)) false rfl (by kernel_rfl) (by kernel_rfl) ?_
                refine ⟨?_⟩
                quiet_step (fail)
                clear cM
                refine wpQuiet_nil ?_
                intro _ hw'
                obtain ⟨⟨dq, osq⟩, hw''⟩ := hw'
                subst hw''
                have hBW := below_regrown W5 dq osq
                have HB : Hid (Below w.heap.size w (grow (redrawn W5 dq) osq)) := HB5.out.trans (hBW.mono HB5.out.size)
                clear hBW k0 k1 k2 k3 k4
                try go_simp
                go_wp2
                go_ret
                exact ⟨by rw [HR5.out]; rfl, HB.out⟩
            | false =>
              have HR5 : Hid (R = (((s.size : Int) % 2) == 0)) := by
                have := HR6.out
                rw [if_neg (by decide)] at this
                show R = _
                rw [← this]
                by_cases h : s.size % 2 = 0
                · rw [show decide (s.size % 2 = 0) = true by simpa using h]; symm; exact beq_iff_eq.2 (by omega)
                · rw [show decide (s.size % 2 = 0) = false by simpa using h]; symm; exact beq_eq_false_iff_ne.2 (by omega)
              have hss : (s.toList == s.toList) = true := beq_iff_eq.2 rfl
              rw [if_neg (by decide)] at cM
              clear HR6
              refine wp_region_quiet_below hmix (by kernel_rfl) ?_
              iterate 31 (quiet_step (first | exact cM _ _))
              clear cM
              refine wpQuiet_nil ?_
              intro _ hw'
              obtain ⟨⟨dq, osq⟩, hw''⟩ := hw'
              subst hw''
              have hBW := below_regrown W5 dq osq
              have HB : Hid (Below w.heap.size w (grow (redrawn W5 dq) osq)) := HB5.out.trans (hBW.mono HB5.out.size)
              clear hBW k0 k1 k2 k3 k4
              try go_simp
              go_wp2
              go_ret
              exact ⟨by rw [HR5.out]; rfl, HB.out⟩
          · have bs : decide ((s.size : Int) ≤ 65534) = false := by simp; omega
            have HR5 : Hid (R = false) := by
              have := HR4.out
              rw [show decide (s.size ≤ 65534) = false by simpa using hs] at this
              simp at this
              exact this
            clear c32 HR4 bn2
            refine wp_region_quiet_below hmix (by kernel_rfl) ?_
            iterate 9 (quiet_step (fail))
            refine ShutQ.out ?_
            refine sq_move (.tmp 82) rfl (by kernel_rfl) ?_
            iterate 8 (refine sq_skip (by kernel_rfl) ?_)
            refine sq_pick (.tmp 83) (.tmp 91) (.const (.bool false)) false rfl (by kernel_rfl) (by kernel_rfl) ?_
            refine sq_move (.tmp 92) rfl (by kernel_rfl) ?_
            iterate 9 (refine sq_skip (by kernel_rfl) ?_)
            refine sq_pick (.tmp 93) (.tmp 102) (.const (.bool false)) false rfl (by kernel_rfl) (by kernel_rfl) ?_
            refine ⟨?_⟩
            quiet_step (fail)
            refine wpQuiet_nil ?_
            intro _ hw'
            obtain ⟨⟨dq, osq⟩, hw''⟩ := hw'
            subst hw''
            have hBW := below_regrown W5 dq osq
            have HB : Hid (Below w.heap.size w (grow (redrawn W5 dq) osq)) := HB5.out.trans (hBW.mono HB5.out.size)
            clear hBW k0 k1 k2 k3 k4
            try go_simp
            go_wp2
            go_ret
            exact ⟨by rw [HR5.out]; rfl, HB.out⟩
        · have bn : (n == 0) = false := beq_eq_false_iff_ne.2 hn
          have HR5 : Hid (R = false) := by
            have := HR4.out
            rw [show decide (n = 0) = false by simpa using hn] at this
            simp at this
            exact this
          clear hn c32 HR4
          refine wp_region_quiet_below hmix (by kernel_rfl) ?_
          iterate 3 (quiet_step (fail))
          refine ShutQ.out ?_
          refine sq_move (.tmp 76) rfl (by kernel_rfl) ?_
          iterate 4 (refine sq_skip (by kernel_rfl) ?_)
          refine sq_pick (.tmp 77) (.tmp 81) (.const (.bool false)) false rfl (by kernel_rfl) (by kernel_rfl) ?_
          refine sq_move (.tmp 82) rfl (by kernel_rfl) ?_
          iterate 8 (refine sq_skip (by kernel_rfl) ?_)
          refine sq_pick (.tmp 83) (.tmp 91) (.const (.bool false)) false rfl (by kernel_rfl) (by kernel_rfl) ?_
          refine sq_move (.tmp 92) rfl (by kernel_rfl) ?_
          iterate 9 (refine sq_skip (by kernel_rfl) ?_)
          refine sq_pick (.tmp 93) (.tmp 102) (.const (.bool false)) false rfl (by kernel_rfl) (by kernel_rfl) ?_
          refine ⟨?_⟩
          quiet_step (fail)
          refine wpQuiet_nil ?_
          intro _ hw'
          obtain ⟨⟨dq, osq⟩, hw''⟩ := hw'
          subst hw''
          have hBW := below_regrown W5 dq osq
          have HB : Hid (Below w.heap.size w (grow (redrawn W5 dq) osq)) := HB5.out.trans (hBW.mono HB5.out.size)
          clear hBW k0 k1 k2 k3 k4
          try go_simp
          go_wp2
          go_ret
          exact ⟨by rw [HR5.out]; rfl, HB.out⟩
end Go.Proofs.YtoikdpjjcnmgeaaGreatDoor
end

section
/-
  DERIVED. Levels in memory; a step past a node.
-/
namespace Go.Proofs.YtoikdpjjcnmgeaaGreatDoor
open Go Go.Proofs Go.RowKit
open Wk (Nd)

/-- Levels as cells, the outermost first. -/
def lvc (st : List Lv) : List Value := st.reverse.flatMap fun x => [.int .i64 x.1, .int .u32 x.2]
theorem lvc_cons (x : Lv) (r : List Lv) : lvc (x :: r) = lvc r ++ [.int .i64 x.1, .int .u32 x.2] := by
  unfold lvc
  rw [List.reverse_cons, List.flatMap_append]
  simp
theorem lvc_len : ∀ st : List Lv, (lvc st).length = st.length * 2
  | [] => rfl
  | x :: r => by
    rw [lvc_cons, List.length_append, lvc_len r]
    simp
    omega
theorem lvc_head (x : Lv) (r : List Lv) : (lvc (x :: r))[r.length * 2]? = some (.int .i64 x.1) ∧ (lvc (x :: r))[r.length * 2 + 1]? = some (.int .u32 x.2) := by
  have h := lvc_len r
  rw [lvc_cons]
  constructor
  · rw [List.getElem?_append_right (by omega), show r.length * 2 - (lvc r).length = 0 by omega]; rfl
  · rw [List.getElem?_append_right (by omega), show r.length * 2 + 1 - (lvc r).length = 1 by omega]; rfl
theorem lvc_set (x y : Lv) (r : List Lv) : ((lvc (x :: r)).set (r.length * 2) (.int .i64 y.1)).set (r.length * 2 + 1) (.int .u32 y.2) = lvc (y :: r) := by
  have h := lvc_len r
  rw [lvc_cons, lvc_cons, ← h, List.set_append_right _ _ (Nat.le_refl _), Nat.sub_self, List.set_append_right _ _ (by omega), show (lvc r).length + 1 - (lvc r).length = 1 by omega]
  rfl
theorem lvc_drop (x : Lv) (r : List Lv) : (lvc (x :: r)).take (r.length * 2) = lvc r := by
  rw [lvc_cons, List.take_left' (lvc_len r)]
theorem info41 : (Tryz.prog.info? 95).map (fun i => (i.zero, i.size, i.bytes)) = some (some (.agg #[.int .i64 0, .int .u32 0]), 2, 16) := by kernel_rfl

/-- Levels in memory of their own. -/
def Lvs (w : World) (base : Nat) (v : Value) (st : List Lv) : Prop := w.ownsRow base 95 2 v st.length (lvc st)
theorem Lvs.head {w : World} {base g cap : Nat} {x : Lv} {r : List Lv} (h : Lvs w base (.slice (some ⟨g, 0, none⟩) (r.length + 1) cap) (x :: r)) : w.cell? ⟨g, r.length * 2, none⟩ = some (.int .i64 x.1) ∧ w.cell? ⟨g, r.length * 2 + 1, none⟩ = some (.int .u32 x.2) := by
  have h1 := World.ownsRow.cellAt (n := r.length + 1) h
  exact ⟨(h1 _ (by omega)).trans (lvc_head x r).1, (h1 _ (by omega)).trans (lvc_head x r).2⟩
theorem Lvs.form {w : World} {base : Nat} {v : Value} {x : Lv} {r : List Lv} (h : Lvs w base v (x :: r)) : ∃ g cap, v = .slice (some ⟨g, 0, none⟩) (r.length + 1) cap ∧ base ≤ g ∧ r.length + 1 ≤ cap := by
  rcases h.2 with ⟨_, h0⟩ | ⟨g, cap, cur, rfl, hb, _, hc, _⟩
  · simp at h0
  · exact ⟨g, cap, rfl, hb, hc⟩
theorem Lvs.pop {w : World} {base g cap : Nat} {x y : Lv} {r : List Lv} (h : Lvs w base (.slice (some ⟨g, 0, none⟩) (r.length + 1 + 1) cap) (x :: y :: r)) : Lvs w base (.slice (some ⟨g, 0, none⟩) (r.length + 1) cap) (y :: r) := by
  rcases h.2 with ⟨_, h0⟩ | ⟨g', cap', cur, hv, hb, hh, hc, hm, hs, ht⟩
  · simp at h0
  · cases hv
    refine ⟨lvc_len _, .inr ⟨g, cap, cur, rfl, hb, hh, by simp only [List.length_cons] at hc ⊢; omega, hm, hs, ?_⟩⟩
    have := lvc_drop x (y :: r)
    rw [← ht, List.take_take] at this
    rw [← this]
    congr 1
    simp
theorem Lvs.set {w : World} {base g cap : Nat} {x : Lv} {r : List Lv} (h : Lvs w base (.slice (some ⟨g, 0, none⟩) (r.length + 1) cap) (x :: r)) (y : Lv) : Lvs ((w.setCell ⟨g, r.length * 2, none⟩ (.int .i64 y.1)).setCell ⟨g, r.length * 2 + 1, none⟩ (.int .u32 y.2)) base (.slice (some ⟨g, 0, none⟩) (r.length + 1) cap) (y :: r) := by
  have h1 := (World.ownsRow.stored (n := r.length + 1) h (r.length * 2) (.int .i64 y.1)).1
  have h2 := (World.ownsRow.stored h1 (r.length * 2 + 1) (.int .u32 y.2)).1
  rw [lvc_set] at h2
  exact h2
theorem Lvs.on {w w' : World} {base : Nat} {v : Value} {st : List Lv} (h : Lvs w base v st) (hb : Below w.heap.size w w') : Lvs w' base v st := Wk.ownsRow_below h hb (Nat.le_refl _)
def lenOf : Value → Nat
  | .slice _ n _ => n
  | _ => 0
theorem app42 {w : World} {ops : Array Oper} {rest : List Oper} {o : Oper} {a : Act} {Q : Exit → Act → World → Prop} (hgd : o.guard = none) (s x : Operand)
    (ho : o.op = .call { callee := .builtin .append, args := #[s, x], argTypes := #[96, 96] }) (base : Nat) (v : Value) (st : List Lv) (hs : a.eval s = v) (hown : Lvs w base v st)
    (ad : Addr) (c : Nat) (y : Lv) (hx : a.eval x = .slice (some ad) 1 c) (hnews : ∀ j u, [Value.int .i64 y.1, .int .u32 y.2][j]? = some u → w.cell? (ad.add j) = some u) (hsm : st.length ≤ 1000) (hbase : base ≤ w.heap.size)
    (h : ∀ g cap w', Lvs w' base (.slice (some ⟨g, 0, none⟩) (st.length + 1) cap) (y :: st) → w.grownBy w' v.ownBlock → g < w'.heap.size → wpList Tryz.prog ops Q rest (a.put o.dst (.slice (some ⟨g, 0, none⟩) (st.length + 1) cap)) w') : wpList Tryz.prog ops Q (o :: rest) a w := by
  obtain ⟨i0, hi, hz0, hz1, hz2⟩ := info_parts info41
  refine wpList_append_lies w hgd s x 96 ho base 95 i0 _ 2 16 Tryz.underlying96 hi hz0 hz1 hz2 rfl (by decide) v st.length (lvc st) hs hown ad 1 c [.int .i64 y.1, .int .u32 y.2] hx rfl hnews (by intro u hu; simp at hu; rcases hu with rfl | rfl <;> rfl) (by decide) (by unfold maxLen; omega) (by omega) hbase _ rfl ?_
  intro g cap w' h1 h2 h3 h4
  refine h g cap w' ?_ h2 h4
  show w'.ownsRow base 95 2 _ _ (lvc (y :: st))
  rw [lvc_cons]
  exact h1

theorem popL_first {y : Lv} {r : List Lv} (hy : y.1 = 0) (hr : r ≠ []) : popL (y :: r) = popL r := by
  rw [popL, if_pos ⟨hy, hr⟩]
/-- While levels that have their number are left. -/
def LI (base : Nat) (w : World) (S : List Lv) (x0 : Value) (wr : World) : Prop := ∃ (y : Lv) (r : List Lv) (G C : Nat), x0 = .slice (some ⟨G, 0, none⟩) (r.length + 1) C ∧ Lvs wr base x0 (y :: r) ∧ popL (y :: r) = popL S ∧ Below base w wr ∧ r.length ≤ 200 ∧ r.length + 1 ≤ C

set_option maxRecDepth 100000 in
set_option maxHeartbeats 4000000 in
theorem step_any (w : World) (base : Nat) (v : Value) (x : Lv) (r : List Lv) (a : Nd) (h : Lvs w base v (x :: r)) (hb : base ≤ w.heap.size) (hr : r.length ≤ 100) (hx : -9223372036854775808 < x.1 ∧ x.1 ≤ 9223372036854775807) :
    Calls Tryz.prog 52 #[v, .agg #[.int .u32 a.t, .int .i64 a.v, .int .i64 a.n, .string a.s]] w fun e w' => ∃ v', e = .returned v' ∧ Hid (Lvs w' base v' (stepL a (x :: r))) ∧ Hid (Below base w w') := by
  obtain ⟨g, cap, rfl, hbg, hcap⟩ := h.form
  obtain ⟨t, vr, n, s⟩ := a
  simp only
  have HL : Hid (Lvs w base (.slice (some ⟨g, 0, none⟩) (r.length + 1) cap) (x :: r)) := h
  obtain ⟨S, hS⟩ : ∃ S, pushL ⟨t, vr, n, s⟩ (x :: r) = S := ⟨_, rfl⟩
  have HS : Hid (pushL ⟨t, vr, n, s⟩ (x :: r) = S) := hS
  have HST : Hid (stepL ⟨t, vr, n, s⟩ (x :: r) = popL S) := by show _ = _; unfold stepL; rw [hS]
  clear hS h
  obtain ⟨k, hk⟩ : ∃ k, r.length = k := ⟨_, rfl⟩
  have HK : Hid (r.length = k) := hk
  rw [hk] at hr hcap ⊢
  clear hk
  obtain ⟨W1, hW1⟩ : ∃ W1, w.alloc (.cells #[.int .u32 t, .int .i64 vr, .int .i64 n, .string s] 54) = W1 := ⟨_, rfl⟩
  have hb1 : Below w.heap.size w W1 := by rw [← hW1]; exact (Below.refl _ _).alloc (Nat.le_refl _) _
  have HN1 : Hid (NC W1 w.heap.size t vr n s) := by rw [← hW1]; exact ⟨by simp, by simp, by simp, by simp⟩
  have HL1 : Hid (Lvs W1 base (.slice (some ⟨g, 0, none⟩) (r.length + 1) cap) (x :: r)) := HL.out.on hb1
  obtain ⟨l0, l1⟩ := HL1.out.head
  have f0 := World.ownsRow.frozenAt (n := r.length + 1) HL1.out (r.length * 2)
  have f1 := World.ownsRow.frozenAt (n := r.length + 1) HL1.out (r.length * 2 + 1)
  rw [HK.out] at l0 l1 f0 f1
  have hgw : g < w.heap.size := (World.ownsRow.lt HL.out g rfl).2
  have hne : g ≠ w.heap.size := by omega
  have hne' : w.heap.size ≠ g := by omega
  obtain ⟨y0, y1, y2, y3⟩ := HN1.out
  go_enter Tryz.func52, Tryz.ntmps52
  go_wp2_with (go_at_call 82; refine StopF.out ?_)
  obtain ⟨W2, hW2⟩ : ∃ W2, (W1.setCell ⟨g, k * 2, none⟩ (.int .i64 (x.1 - 1))).setCell ⟨g, k * 2 + 1, none⟩ (.int .u32 t) = W2 := ⟨_, rfl⟩
  have HL2 : Hid (Lvs W2 base (.slice (some ⟨g, 0, none⟩) (k + 1) cap) ((x.1 - 1, t) :: r)) := by
    have := HL1.out.set (x.1 - 1, t)
    rw [HK.out, hW2] at this
    exact this
  have HN2 : Hid (NC W2 w.heap.size t vr n s) := by
    have e : ∀ (W : World) (i j : Nat) (u : Value) (z : Value), W.cell? ⟨w.heap.size, j, none⟩ = some z → (W.setCell ⟨g, i, none⟩ u).cell? ⟨w.heap.size, j, none⟩ = some z := fun W i j u z hz => by
      rw [← hz]
      apply World.cell?_setCell_other
      simp
    rw [← hW2]
    exact ⟨e _ _ _ _ _ (e _ _ _ _ _ y0), e _ _ _ _ _ (e _ _ _ _ _ y1), e _ _ _ _ _ (e _ _ _ _ _ y2), e _ _ _ _ _ (e _ _ _ _ _ y3)⟩
  have HB2 : Hid (Below base w W2) := by
    rw [← hW2]
    exact ((hb1.mono hb).setCell (p := ⟨g, k * 2, none⟩) hbg _).setCell (p := ⟨g, k * 2 + 1, none⟩) hbg _
  have hsz2 : base ≤ W2.heap.size := Nat.le_trans hb HB2.out.size
  rw [hW2]
  obtain ⟨p0, p1, p2, p3⟩ := HN2.out
  clear y0 y1 y2 y3 l0 l1 f0 f1 hW2 hW1 hb1
  obtain ⟨z, hz⟩ : ∃ z, decide ((k + 1) % 2 = 0) = z := ⟨_, rfl⟩
  refine ⟨Calls.mono (wants_any W2 (some ⟨g, 0, none⟩) (k + 1) cap z hz) ?_⟩
  rintro e W3 ⟨rfl, rfl⟩
  by_cases hp : (k + 1) % 2 = 0 ∨ vr = 18
  · have HS2 : Hid (S = (n, 0) :: (x.1 - 1, t) :: r) := by
      show S = _
      rw [← HS.out]
      show (if (r.length + 1) % 2 = 0 ∨ vr = 18 then (n, 0) :: (x.1 - 1, t) :: r else (x.1 - 1, t) :: r) = _
      rw [HK.out, if_pos hp]
    have hor : z = true ∨ (z = false ∧ (vr == 18) = true) := by
      by_cases h2 : (k + 1) % 2 = 0
      · exact .inl (by rw [← hz]; simpa using h2)
      · exact .inr ⟨by rw [← hz]; simpa using h2, by rw [hp.resolve_left h2]; rfl⟩
    clear hp hz HS
    have hnl : ((x.1 - 1, t) :: r).length = k + 1 := by simp [HK.out]
    have HNL : Hid (((x.1 - 1, t) :: r).length = k + 1) := hnl
    clear hnl
    rcases hor with rfl | ⟨rfl, b18⟩
    all_goals
      go_wp2_with (at_builtin; refine StopF.out ?_)
      refine ⟨app42 rfl (.tmp 30) (.tmp 34) rfl base (.slice (some ⟨g, 0, none⟩) (k + 1) cap) ((x.1 - 1, t) :: r) rfl (HL2.out.on ((Below.refl _ _).alloc (Nat.le_refl _) _)) ⟨W2.heap.size, 0, none⟩ 1 (n, 0) rfl (Wk.news_new rfl _ _) (by rw [HNL.out]; omega) (by simp; omega) ?_⟩
      intro g4 cap4 W4 hl4 hg4 hlt4
      have HLI : Hid (LI base w S (.slice (some ⟨g4, 0, none⟩) (k + 1 + 1) cap4) W4) := by
        rw [HNL.out] at hl4
        refine ⟨(n, 0), (x.1 - 1, t) :: r, g4, cap4, by rw [HNL.out], hl4, by rw [HS2.out], ?_, by rw [HNL.out]; omega, ?_⟩
        · refine (HB2.out.alloc hsz2 _).grown hg4 (by simp; omega) (fun j hj => by cases hj; exact hbg)
        · obtain ⟨g5, c5, e5, -, h5⟩ := hl4.form
          cases e5
          exact h5
      rw [HNL.out]
      clear hl4 hg4
      go_wp2
      go_loopw [0] (fun x0 wr => Hid (LI base w S x0 wr)) (fun x0 _ => lenOf x0)
      case atStart => exact HLI
      case round =>
        obtain ⟨y, r', G, C, rfl, hl, hpop, hbw, hr2, hC⟩ := hrel.out
        obtain ⟨c0, c1⟩ := hl.head
        have HLr : Hid (Lvs wr base (.slice (some ⟨G, 0, none⟩) (r'.length + 1) C) (y :: r')) := hl
        have HPO : Hid (popL (y :: r') = popL S) := hpop
        have HBW : Hid (Below base w wr) := hbw
        clear hl hpop hbw hrel
        cases r' with
        | nil =>
          have HF : Hid (Lvs wr base (.slice (some ⟨G, 0, none⟩) 1 C) (popL S)) := by
            rw [← HPO.out, popL_one]
            exact HLr.out
          clear c0 c1
          go_wp2
          go_ret
          exact ⟨_, rfl, by rw [HST.out]; exact HF, HBW⟩
        | cons y2 r2 =>
          obtain ⟨m, hm⟩ : ∃ m, r2.length = m := ⟨_, rfl⟩
          have HM : Hid (r2.length = m) := hm
          simp only [List.length_cons] at c0 c1 hr2 hC ⊢
          rw [hm] at c0 c1 hr2 hC ⊢
          clear hm
          by_cases hy : y.1 = 0
          · have HN : Hid (LI base w S (.slice (some ⟨G, 0, none⟩) (m + 1) C) wr) := by
              have h1 := HLr.out
              simp only [List.length_cons] at h1
              have h2 := h1.pop
              rw [HM.out] at h2
              refine ⟨y2, r2, G, C, by rw [HM.out], h2, ?_, HBW.out, by rw [HM.out]; omega, by rw [HM.out]; omega⟩
              rw [← HPO.out]
              exact (popL_first hy (by simp)).symm
            have by0 : (y.1 == 0) = true := by rw [hy]; rfl
            clear hy
            go_wp2
            exact ⟨HN, by simp [lenOf]⟩
          · have HF : Hid (Lvs wr base (.slice (some ⟨G, 0, none⟩) (m + 1 + 1) C) (popL S)) := by
              rw [← HPO.out, popL_some _ hy]
              have h1 := HLr.out
              simp only [List.length_cons] at h1
              rw [HM.out] at h1
              exact h1
            have by0 : (y.1 == 0) = false := beq_eq_false_iff_ne.2 hy
            clear hy
            go_wp2
            go_ret
            exact ⟨_, rfl, by rw [HST.out]; exact HF, HBW⟩
  · have HS2 : Hid (S = (x.1 - 1, t) :: r) := by
      show S = _
      rw [← HS.out]
      show (if (r.length + 1) % 2 = 0 ∨ vr = 18 then (n, 0) :: (x.1 - 1, t) :: r else (x.1 - 1, t) :: r) = _
      rw [HK.out, if_neg hp]
    obtain ⟨rfl, b18⟩ : z = false ∧ (vr == 18) = false := ⟨by rw [← hz]; simp; omega, beq_eq_false_iff_ne.2 (fun h => hp (.inr h))⟩
    clear hp hz HS
    have HLI : Hid (LI base w S (.slice (some ⟨g, 0, none⟩) (k + 1) cap) W2) := ⟨(x.1 - 1, t), r, g, cap, by rw [HK.out], HL2.out, by rw [HS2.out], HB2.out, by rw [HK.out]; omega, by rw [HK.out]; omega⟩
    go_wp2
    go_loopw [0] (fun x0 wr => Hid (LI base w S x0 wr)) (fun x0 _ => lenOf x0)
    case atStart => exact HLI
    case round =>
      obtain ⟨y, r', G, C, rfl, hl, hpop, hbw, hr2, hC⟩ := hrel.out
      obtain ⟨c0, c1⟩ := hl.head
      have HLr : Hid (Lvs wr base (.slice (some ⟨G, 0, none⟩) (r'.length + 1) C) (y :: r')) := hl
      have HPO : Hid (popL (y :: r') = popL S) := hpop
      have HBW : Hid (Below base w wr) := hbw
      clear hl hpop hbw hrel
      cases r' with
      | nil =>
        have HF : Hid (Lvs wr base (.slice (some ⟨G, 0, none⟩) 1 C) (popL S)) := by
          rw [← HPO.out, popL_one]
          exact HLr.out
        clear c0 c1
        go_wp2
        go_ret
        exact ⟨_, rfl, by rw [HST.out]; exact HF, HBW⟩
      | cons y2 r2 =>
        obtain ⟨m, hm⟩ : ∃ m, r2.length = m := ⟨_, rfl⟩
        have HM : Hid (r2.length = m) := hm
        simp only [List.length_cons] at c0 c1 hr2 hC ⊢
        rw [hm] at c0 c1 hr2 hC ⊢
        clear hm
        by_cases hy : y.1 = 0
        · have HN : Hid (LI base w S (.slice (some ⟨G, 0, none⟩) (m + 1) C) wr) := by
            have h1 := HLr.out
            simp only [List.length_cons] at h1
            have h2 := h1.pop
            rw [HM.out] at h2
            refine ⟨y2, r2, G, C, by rw [HM.out], h2, ?_, HBW.out, by rw [HM.out]; omega, by rw [HM.out]; omega⟩
            rw [← HPO.out]
            exact (popL_first hy (by simp)).symm
          have by0 : (y.1 == 0) = true := by rw [hy]; rfl
          clear hy
          go_wp2
          exact ⟨HN, by simp [lenOf]⟩
        · have HF : Hid (Lvs wr base (.slice (some ⟨G, 0, none⟩) (m + 1 + 1) C) (popL S)) := by
            rw [← HPO.out, popL_some _ hy]
            have h1 := HLr.out
            simp only [List.length_cons] at h1
            rw [HM.out] at h1
            exact h1
          have by0 : (y.1 == 0) = false := beq_eq_false_iff_ne.2 hy
          clear hy
          go_wp2
          go_ret
          exact ⟨_, rfl, by rw [HST.out]; exact HF, HBW⟩
end Go.Proofs.YtoikdpjjcnmgeaaGreatDoor
end
