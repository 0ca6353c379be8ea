import Derived.Test.YtfoodjhffehgpaaGreatDoorDa
import Derived.Test.YtfoodjhffehgpaaGreatDoorEc
/-
  DERIVED. Which node may be an element: the document's look.
-/
namespace Go.Proofs.YtfoodjhffehgpaaGreatDoor
open Go Go.Proofs Go.RowKit Go.Sort
open Wk (Nd)

set_option maxRecDepth 100000 in
set_option maxHeartbeats 4000000 in
theorem relement_any (w : World) (a : Nd) (h0 : 0 ≤ a.t) (h1 : a.t < 4294967296) (last : Int) : Calls Tryz.prog 59 #[.agg #[.int .u32 a.t, .int .i64 a.v, .int .i64 a.n, .string a.s], .int .u32 last] w fun e w' => e = .returned (.bool (elemOk a && decide (last < a.t))) ∧ Below w.heap.size w w' := by
  have c30 := fun W => Rp.rabout_open W a.v
  have c31 := fun W => Tb.rfind_any W a.t.toNat (by omega)
  have c32 := fun W (hs : a.s.size ≤ 65534) => Rp.rtrim_any W a.v a.s (by omega)
  have htn : ((a.t.toNat : Nat) : Int) = a.t := by omega
  rw [htn] at c31
  obtain ⟨R, hR⟩ : ∃ R, (elemOk a && decide (last < a.t)) = R := ⟨_, rfl⟩
  rw [hR]
  unfold elemOk vrO bodyO fnd unp at hR
  have hA : bits .and .u32 a.t 65535 = ((a.t.toNat % 65536 : Nat) : Int) := by
    have := u32_and_nat a.t.toNat 65535 (by omega) (by decide)
    rw [show ((65535 : Nat) : Int) = 65535 from rfl, htn] at this
    rw [this, show (65535 : Nat) = 2 ^ 16 - 1 from rfl, Nat.and_two_pow_sub_one_eq_mod]
  have hG : a.t / 65536 = ((a.t.toNat / 65536 : Nat) : Int) := by omega
  have hms : mayS a.t.toNat = !(((a.t / 65536 == 0) || ((a.t / 65536 == 2) || ((a.t / 65536 == 65534) || (a.t / 65536 == 65535)))) || (bits .and .u32 a.t 65535 == 0)) := by
    unfold mayS
    rw [hA, hG]
    generalize a.t.toNat / 65536 = g
    generalize a.t.toNat % 65536 = m
    have e : ∀ (x c : Nat), (((x : Nat) : Int) == ((c : Nat) : Int)) = decide (x = c) := fun x c => by
      by_cases h : x = c
      · subst h; simp
      · rw [show decide (x = c) = false by simpa using h]; exact beq_eq_false_iff_ne.2 (by omega)
    rw [show (0 : Int) = ((0 : Nat) : Int) from rfl, show (2 : Int) = ((2 : Nat) : Int) from rfl, show (65534 : Int) = ((65534 : Nat) : Int) from rfl, show (65535 : Int) = ((65535 : Nat) : Int) from rfl, e, e, e, e, e]
    cases decide (g = 0) <;> cases decide (g = 2) <;> cases decide (g = 65534) <;> cases decide (g = 65535) <;> cases decide (m = 0) <;> rfl
  rw [hms] at hR
  generalize Tb.docF a.t.toNat (Tb.upTo 10) = O at c31 hR
  generalize Tb.eT O = e0 at c31
  generalize Tb.eM O = e1 at c31
  generalize Tb.eV O = e2 at c31 hR
  generalize Tb.eS O = e3 at c31
  generalize Tb.eL O = e4 at c31
  generalize Tb.eN O = e5 at c31
  generalize O.isSome = kn at c31 hR
  generalize Rp.nm (Rp.vn a.v) = x0 at c30
  generalize Rp.pd (Rp.vn a.v) = x1 at c30
  generalize Rp.un (Rp.vn a.v) = x2 at c30
  generalize Rp.mo (Rp.vn a.v) = x3 at c30
  generalize Rp.tx (Rp.vn a.v) = x4 at c30 c32 hR
  generalize Rp.ch (Rp.vn a.v) = x5 at c30
  generalize Rp.mu (Rp.vn a.v) = x6 at c30
  generalize Rp.lo (Rp.vn a.v) = x7 at c30
  obtain ⟨ok, hok⟩ : ∃ z, decide (1 ≤ a.v ∧ a.v ≤ 28) = z := ⟨_, rfl⟩
  have hv18 : a.v = 18 → ok = true := fun h => by rw [← hok, h]; rfl
  rw [hok] at hR
  simp only [hok] at c30
  obtain ⟨t, v, n, s⟩ := a
  simp only at *
  clear hok htn h0 h1 hms hA hG
  have HR : Hid _ := hR
  clear hR
  obtain ⟨W1, hW1⟩ : ∃ W1, w.alloc (.cells #[.int .u32 t, .int .i64 v, .int .i64 n, .string s] 48) = W1 := ⟨_, rfl⟩
  have HN1 : Hid (NC W1 w.heap.size t v n s) := by rw [← hW1]; exact ⟨by simp, by simp, by simp, by simp⟩
  have HB1 : Hid (Below w.heap.size w W1) := by rw [← hW1]; exact (Below.refl _ _).alloc (Nat.le_refl _) _
  obtain ⟨y0, y1, y2, y3⟩ := HN1.out
  have H18 : Hid (v = 18 → ok = true) := hv18
  clear hv18
  by_cases g0 : (t / 65536 == 0) = true
  · have HR2 : Hid (R = false) := by
      have := HR.out
      rw [g0] at this
      simp at this
      exact this
    clear HR
    go_enter Tryz.func59, Tryz.ntmps59
    go_wp2
    go_ret
    exact ⟨by rw [HR2.out]; rfl, HB1.out⟩
  rw [Bool.not_eq_true] at g0
  by_cases g1 : (t / 65536 == 2) = true
  · have HR2 : Hid (R = false) := by
      have := HR.out
      rw [g1] at this
      simp at this
      exact this
    clear HR
    go_enter Tryz.func59, Tryz.ntmps59
    go_wp2
    go_ret
    exact ⟨by rw [HR2.out]; rfl, HB1.out⟩
  rw [Bool.not_eq_true] at g1
  by_cases g2 : (t / 65536 == 65534) = true
  · have HR2 : Hid (R = false) := by
      have := HR.out
      rw [g2] at this
      simp at this
      exact this
    clear HR
    go_enter Tryz.func59, Tryz.ntmps59
    go_wp2
    go_ret
    exact ⟨by rw [HR2.out]; rfl, HB1.out⟩
  rw [Bool.not_eq_true] at g2
  by_cases g3 : (t / 65536 == 65535) = true
  · have HR2 : Hid (R = false) := by
      have := HR.out
      rw [g3] at this
      simp at this
      exact this
    clear HR
    go_enter Tryz.func59, Tryz.ntmps59
    go_wp2
    go_ret
    exact ⟨by rw [HR2.out]; rfl, HB1.out⟩
  rw [Bool.not_eq_true] at g3
  by_cases g4 : (bits .and .u32 t 65535 == 0) = true
  · have HR2 : Hid (R = false) := by
      have := HR.out
      rw [g4] at this
      simp at this
      exact this
    clear HR
    go_enter Tryz.func59, Tryz.ntmps59
    go_wp2
    go_ret
    exact ⟨by rw [HR2.out]; rfl, HB1.out⟩
  rw [Bool.not_eq_true] at g4
  by_cases g5 : t ≤ last
  · have HR2 : Hid (R = false) := by
      have := HR.out
      rw [show decide (last < t) = false by simp; omega] at this
      simp at this
      exact this
    clear HR
    go_enter Tryz.func59, Tryz.ntmps59
    go_wp2
    go_ret
    exact ⟨by rw [HR2.out]; rfl, HB1.out⟩
  have HR2 : Hid ((!(kn && (v != e2)) && (if v = 18 then (s.toList == []) && decide (0 ≤ n) else ok && (decide (n = 0) && (decide (s.size ≤ 65534) && (if x4 = true then (Rp.trimB s).toList == s.toList else decide (s.size % 2 = 0)))))) = R) := by
    have := HR.out
    rw [g0, g1, g2, g3, g4, show decide (last < t) = true by simp; omega, Bool.and_true] at this
    exact this
  clear HR
  go_enter Tryz.func59, Tryz.ntmps59
  go_wp2_with (go_at_call 37; refine StopF.out ?_)
  refine ⟨Calls.mono (c30 _) ?_⟩
  rintro e W2 ⟨rfl, hb2⟩
  obtain ⟨W3, hW3⟩ : ∃ W3, W2.alloc (.cells #[.string x0, .int .u8 x1, .int .i64 x2, .int .i64 x3, .bool x4, .bool x5, .bool x6, .bool x7] 88) = W3 := ⟨_, rfl⟩
  have hb3 : Below W1.heap.size W1 W3 := hb2.trans (by rw [← hW3]; exact (Below.refl _ _).alloc hb2.size _)
  have HN3 : Hid (NC W3 w.heap.size t v n s) := HN1.out.on hb3
  have HB3 : Hid (Below w.heap.size w W3) := HB1.out.trans (hb3.mono HB1.out.size)
  have z4 : W3.cell? ⟨W2.heap.size, 4, none⟩ = some (.bool x4) := by rw [← hW3]; simp
  obtain ⟨p0, p1, p2, p3⟩ := HN3.out
  clear hb2 c30 g0 g1 g2 g3 g4 g5 y0 y1 y2 y3 hW1
  go_wp2_with (go_at_call 17; refine StopF.out ?_)
  refine ⟨Calls.mono (c31 _) ?_⟩
  rintro e W4 ⟨rfl, hb4⟩
  obtain ⟨W5, hW5⟩ : ∃ W5, W4.alloc (.cells #[.int .u32 e0, .int .u32 e1, .int .i64 e2, .string e3, .int .i64 e4, .int .i64 e5] 58) = W5 := ⟨_, rfl⟩
  have hb5 : Below W3.heap.size W3 W5 := hb4.trans (by rw [← hW5]; exact (Below.refl _ _).alloc hb4.size _)
  have HN5 : Hid (NC W5 w.heap.size t v n s) := HN3.out.on hb5
  have HB5 : Hid (Below w.heap.size w W5) := HB3.out.trans (hb5.mono HB3.out.size)
  have j4 : W5.cell? ⟨W2.heap.size, 4, none⟩ = some (.bool x4) := (hb5.cell (p := ⟨W2.heap.size, 4, none⟩) (Tb.cell_lt z4)).trans z4
  have j2 : W5.cell? ⟨W4.heap.size, 2, none⟩ = some (.int .i64 e2) := by rw [← hW5]; simp
  obtain ⟨q0, q1, q2, q3⟩ := HN5.out
  clear hb4 hb5 c31 p0 p1 p2 p3 z4 hW3
  by_cases hgo : (!ok || (kn && (e2 != v))) = true
  · have HR5 : Hid (R = false) := by
      have := HR2.out
      have hne : (e2 != v) = (v != e2) := by simp [bne, Bool.beq_comm]
      rw [hne] at hgo
      show R = false
      rw [← this]
      cases hk : (kn && (v != e2)) with
      | true => rfl
      | false =>
        rw [hk] at hgo
        have ho : ok = false := by simpa using hgo
        rw [if_neg (fun h => by have := H18.out h; rw [ho] at this; cases this), ho]
        rfl
    have hor : ok = false ∨ (ok = true ∧ kn = true ∧ (e2 != v) = true) := by
      cases ok with
      | false => exact .inl rfl
      | true => exact .inr ⟨rfl, by simpa using hgo⟩
    clear hgo HR2 H18
    rcases hor with rfl | ⟨rfl, rfl, hev⟩
    all_goals go_wp2
    all_goals go_ret
    all_goals exact ⟨by rw [HR5.out]; rfl, HB5.out⟩
  · obtain ⟨rfl, hkn⟩ : ok = true ∧ (kn && (e2 != v)) = false := by
      cases ok with
      | false => simp at hgo
      | true => exact ⟨rfl, by simpa using hgo⟩
    have HR3 : Hid ((if v = 18 then (s.toList == []) && decide (0 ≤ n) else (decide (n = 0) && (decide (s.size ≤ 65534) && (if x4 = true then (Rp.trimB s).toList == s.toList else decide (s.size % 2 = 0))))) = R) := by
      have := HR2.out
      have hne : (e2 != v) = (v != e2) := by simp [bne, Bool.beq_comm]
      rw [hne] at hkn
      rw [hkn] at this
      exact this
    have hor : kn = false ∨ (kn = true ∧ (e2 != v) = false) := by
      cases kn with
      | false => exact .inl rfl
      | true => exact .inr ⟨rfl, by simpa using hkn⟩
    clear hgo HR2 H18 hkn
    by_cases h18 : v = 18
    · have HR4 : Hid (((s.toList == []) && decide (0 ≤ n)) = R) := by have := HR3.out; rwa [if_pos h18] at this
      have b18 : (v == 18) = true := by rw [h18]; rfl
      clear h18 HR3
      obtain ⟨es, hes⟩ : ∃ z, (s.toList == []) = z := ⟨_, rfl⟩
      cases es with
      | true =>
        have HR5 : Hid (R = decide (0 ≤ n)) := by have := HR4.out; rw [hes] at this; exact this.symm
        rcases hor with rfl | ⟨rfl, hev⟩
        all_goals go_wp2
        all_goals go_ret
        all_goals exact ⟨by rw [HR5.out]; rfl, HB5.out⟩
      | false =>
        have HR5 : Hid (R = false) := by have := HR4.out; rw [hes] at this; exact this.symm
        rcases hor with rfl | ⟨rfl, hev⟩
        all_goals go_wp2
        all_goals go_ret
        all_goals exact ⟨by rw [HR5.out]; rfl, HB5.out⟩
    · have HR4 : Hid ((decide (n = 0) && (decide (s.size ≤ 65534) && (if x4 = true then (Rp.trimB s).toList == s.toList else decide (s.size % 2 = 0)))) = R) := by have := HR3.out; rwa [if_neg h18] at this
      have b18 : (v == 18) = false := beq_eq_false_iff_ne.2 h18
      clear h18 HR3
      have k0 := fun d os => cell_regrown q0 d os
      have k1 := fun d os => cell_regrown q1 d os
      have k2 := fun d os => cell_regrown q2 d os
      have k3 := fun d os => cell_regrown q3 d os
      have k4 := fun d os => cell_regrown j4 d os
      rcases hor with rfl | ⟨rfl, hev⟩
      all_goals go_wp2
      all_goals
        by_cases hn : n = 0
        · have bn : (n == 0) = true := by rw [hn]; rfl
          have bn2 : decide (n = 0) = true := by simpa using hn
          clear hn
          by_cases hs : s.size ≤ 65534
          · have bs : decide ((s.size : Int) ≤ 65534) = true := by simp; omega
            have HR6 : Hid ((if x4 = true then (Rp.trimB s).toList == s.toList else decide (s.size % 2 = 0)) = R) := by
              have := HR4.out
              rw [bn2, show decide (s.size ≤ 65534) = true by simpa using hs] at this
              exact this
            have cM : ∀ d os, Calls Tryz.prog 24 #[.int .i64 v, .string s] (grow (redrawn W5 d) os) fun x w'' => x = .returned (.string (if x4 = true then Rp.trimB s else s)) ∧ ∃ p : Regrown, w'' = grow (redrawn W5 p.d) p.os := fun d os => Calls.regrown_of (c32 _ hs)
            clear c32 HR4 bn2
            cases x4 with
            | true =>
              have HR7 : Hid (R = ((Rp.trimB s).toList == s.toList)) := by have := HR6.out; rw [if_pos rfl] at this; exact this.symm
              rw [if_pos rfl] at cM
              clear HR6
              generalize Rp.trimB s = q at cM HR7
              by_cases hq : (q.toList == s.toList) = true
              · have HR5 : Hid (R = true) := HR7.out.trans hq
                refine wp_region_quiet_below hmix (by kernel_rfl) ?_
                iterate 23 (quiet_step (first | exact cM _ _))
                refine ShutQ.out ?_
                iterate 5 (refine sq_skip (by kernel_rfl) ?_)
                refine sq_pick (.tmp 96) (.const (.bool true)) (.tmp 101) true rfl (by kernel_rfl) (by kernel_rfl) ?_
                refine sq_pick (.tmp 93) (.tmp 102) (.const (.bool false)) true rfl (by kernel_rfl) (by kernel_rfl) ?_
                refine ⟨?_⟩
                quiet_step (fail)
                clear cM
                refine wpQuiet_nil ?_
                intro _ hw'
                obtain ⟨⟨dq, osq⟩, hw''⟩ := hw'
                subst hw''
                have hBW := below_regrown W5 dq osq
                have HB : Hid (Below w.heap.size w (grow (redrawn W5 dq) osq)) := HB5.out.trans (hBW.mono HB5.out.size)
                clear hBW k0 k1 k2 k3 k4
                try go_simp
                go_wp2
                go_ret
                exact ⟨by rw [HR5.out]; rfl, HB.out⟩
              · have hq2 : (q.toList == s.toList) = false := by simpa using hq
                have HR5 : Hid (R = false) := HR7.out.trans hq2
                clear hq
                refine wp_region_quiet_below hmix (by kernel_rfl) ?_
                iterate 19 (quiet_step (first | exact cM _ _))
                refine ShutQ.out ?_
                refine sq_move (.tmp 92) rfl (by kernel_rfl) ?_
                iterate 9 (refine sq_skip (by kernel_rfl) ?_)
                refine sq_pick (.tmp 93) (.tmp 102) (.const (.bool false)) false rfl (by kernel_rfl) (by kernel_rfl) ?_
                refine ⟨?_⟩
                quiet_step (fail)
                clear cM
                refine wpQuiet_nil ?_
                intro _ hw'
                obtain ⟨⟨dq, osq⟩, hw''⟩ := hw'
                subst hw''
                have hBW := below_regrown W5 dq osq
                have HB : Hid (Below w.heap.size w (grow (redrawn W5 dq) osq)) := HB5.out.trans (hBW.mono HB5.out.size)
                clear hBW k0 k1 k2 k3 k4
                try go_simp
                go_wp2
                go_ret
                exact ⟨by rw [HR5.out]; rfl, HB.out⟩
            | false =>
              have HR5 : Hid (R = (((s.size : Int) % 2) == 0)) := by
                have := HR6.out
                rw [if_neg (by decide)] at this
                show R = _
                rw [← this]
                by_cases h : s.size % 2 = 0
                · rw [show decide (s.size % 2 = 0) = true by simpa using h]; symm; exact beq_iff_eq.2 (by omega)
                · rw [show decide (s.size % 2 = 0) = false by simpa using h]; symm; exact beq_eq_false_iff_ne.2 (by omega)
              have hss : (s.toList == s.toList) = true := beq_iff_eq.2 rfl
              rw [if_neg (by decide)] at cM
              clear HR6
              refine wp_region_quiet_below hmix (by kernel_rfl) ?_
              iterate 31 (quiet_step (first | exact cM _ _))
              clear cM
              refine wpQuiet_nil ?_
              intro _ hw'
              obtain ⟨⟨dq, osq⟩, hw''⟩ := hw'
              subst hw''
              have hBW := below_regrown W5 dq osq
              have HB : Hid (Below w.heap.size w (grow (redrawn W5 dq) osq)) := HB5.out.trans (hBW.mono HB5.out.size)
              clear hBW k0 k1 k2 k3 k4
              try go_simp
              go_wp2
              go_ret
              exact ⟨by rw [HR5.out]; rfl, HB.out⟩
          · have bs : decide ((s.size : Int) ≤ 65534) = false := by simp; omega
            have HR5 : Hid (R = false) := by
              have := HR4.out
              rw [show decide (s.size ≤ 65534) = false by simpa using hs] at this
              simp at this
              exact this
            clear c32 HR4 bn2
            refine wp_region_quiet_below hmix (by kernel_rfl) ?_
            iterate 9 (quiet_step (fail))
            refine ShutQ.out ?_
            refine sq_move (.tmp 82) rfl (by kernel_rfl) ?_
            iterate 8 (refine sq_skip (by kernel_rfl) ?_)
            refine sq_pick (.tmp 83) (.tmp 91) (.const (.bool false)) false rfl (by kernel_rfl) (by kernel_rfl) ?_
            refine sq_move (.tmp 92) rfl (by kernel_rfl) ?_
            iterate 9 (refine sq_skip (by kernel_rfl) ?_)
            refine sq_pick (.tmp 93) (.tmp 102) (.const (.bool false)) false rfl (by kernel_rfl) (by kernel_rfl) ?_
            refine ⟨?_⟩
            quiet_step (fail)
            refine wpQuiet_nil ?_
            intro _ hw'
            obtain ⟨⟨dq, osq⟩, hw''⟩ := hw'
            subst hw''
            have hBW := below_regrown W5 dq osq
            have HB : Hid (Below w.heap.size w (grow (redrawn W5 dq) osq)) := HB5.out.trans (hBW.mono HB5.out.size)
            clear hBW k0 k1 k2 k3 k4
            try go_simp
            go_wp2
            go_ret
            exact ⟨by rw [HR5.out]; rfl, HB.out⟩
        · have bn : (n == 0) = false := beq_eq_false_iff_ne.2 hn
          have HR5 : Hid (R = false) := by
            have := HR4.out
            rw [show decide (n = 0) = false by simpa using hn] at this
            simp at this
            exact this
          clear hn c32 HR4
          refine wp_region_quiet_below hmix (by kernel_rfl) ?_
          iterate 3 (quiet_step (fail))
          refine ShutQ.out ?_
          refine sq_move (.tmp 76) rfl (by kernel_rfl) ?_
          iterate 4 (refine sq_skip (by kernel_rfl) ?_)
          refine sq_pick (.tmp 77) (.tmp 81) (.const (.bool false)) false rfl (by kernel_rfl) (by kernel_rfl) ?_
          refine sq_move (.tmp 82) rfl (by kernel_rfl) ?_
          iterate 8 (refine sq_skip (by kernel_rfl) ?_)
          refine sq_pick (.tmp 83) (.tmp 91) (.const (.bool false)) false rfl (by kernel_rfl) (by kernel_rfl) ?_
          refine sq_move (.tmp 92) rfl (by kernel_rfl) ?_
          iterate 9 (refine sq_skip (by kernel_rfl) ?_)
          refine sq_pick (.tmp 93) (.tmp 102) (.const (.bool false)) false rfl (by kernel_rfl) (by kernel_rfl) ?_
          refine ⟨?_⟩
          quiet_step (fail)
          refine wpQuiet_nil ?_
          intro _ hw'
          obtain ⟨⟨dq, osq⟩, hw''⟩ := hw'
          subst hw''
          have hBW := below_regrown W5 dq osq
          have HB : Hid (Below w.heap.size w (grow (redrawn W5 dq) osq)) := HB5.out.trans (hBW.mono HB5.out.size)
          clear hBW k0 k1 k2 k3 k4
          try go_simp
          go_wp2
          go_ret
          exact ⟨by rw [HR5.out]; rfl, HB.out⟩
end Go.Proofs.YtfoodjhffehgpaaGreatDoor
