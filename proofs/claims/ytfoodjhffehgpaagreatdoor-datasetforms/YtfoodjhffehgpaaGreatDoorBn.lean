import Derived.Test.YtfoodjhffehgpaaGreatDoorLa
import Derived.Test.YtfoodjhffehgpaaGreatDoorBa
import Derived.Test.YtfoodjhffehgpaaGreatDoorFd
import Derived.Deep.RegionLawGrows
section
/-
  DERIVED. Nodes that lie there, one by one.
-/
namespace Go.Proofs.YtfoodjhffehgpaaGreatDoor
open Go Go.Proofs
open Wk (Nd NV)

/-- Tags are tags. -/
def TagsOk (L : List Nd) : Prop := ∀ x ∈ L, 0 ≤ x.t ∧ x.t < 4294967296
theorem NV.cells {w : World} {a : Option Addr} {n cap : Nat} {L : List Nd} (h : NV w a n cap L) {j : Nat} (hj : j < n) : ∃ (b off : Nat) (hl : j < L.length), a = some ⟨b, off, none⟩ ∧ w.cell? ⟨b, off + j * 4, none⟩ = some (.int .u32 (L[j]'hl).t) ∧ w.cell? ⟨b, off + j * 4 + 1, none⟩ = some (.int .i64 (L[j]'hl).v) ∧ w.cell? ⟨b, off + j * 4 + 2, none⟩ = some (.int .i64 (L[j]'hl).n) ∧ w.cell? ⟨b, off + j * 4 + 3, none⟩ = some (.string (L[j]'hl).s) := by
  have hl : j < L.length := by have := h.len; omega
  obtain ⟨b, off, ha, hb⟩ := h.lies (by omega)
  exact ⟨b, off, hl, ha, hb j hl⟩
end Go.Proofs.YtfoodjhffehgpaaGreatDoor
end

section
/-
  DERIVED. Which node may be an element: the program's look.
-/
namespace Go.Proofs.YtfoodjhffehgpaaGreatDoor
open Go Go.Proofs Go.RowKit
open Wk (Nd)

/-- A node in memory. -/
structure NC (W : World) (g : Nat) (t v n : Int) (s : ByteArray) : Prop where
  c0 : W.cell? ⟨g, 0, none⟩ = some (.int .u32 t)
  c1 : W.cell? ⟨g, 1, none⟩ = some (.int .i64 v)
  c2 : W.cell? ⟨g, 2, none⟩ = some (.int .i64 n)
  c3 : W.cell? ⟨g, 3, none⟩ = some (.string s)
theorem NC.on {W W' : World} {g : Nat} {t v n : Int} {s : ByteArray} (h : NC W g t v n s) (hb : Below W.heap.size W W') : NC W' g t v n s :=
  ⟨(hb.cell (Tb.cell_lt h.c0)).trans h.c0, (hb.cell (Tb.cell_lt h.c1)).trans h.c1, (hb.cell (Tb.cell_lt h.c2)).trans h.c2, (hb.cell (Tb.cell_lt h.c3)).trans h.c3⟩

set_option maxRecDepth 100000 in
set_option maxHeartbeats 2000000 in
theorem isElement_any (w : World) (a : Nd) (h0 : 0 ≤ a.t) (h1 : a.t < 4294967296) : Calls Tryz.prog 99 #[.agg #[.int .u32 a.t, .int .i64 a.v, .int .i64 a.n, .string a.s]] w fun e w' => e = .returned (.bool (elemOk a)) ∧ Below w.heap.size w w' := by
  have c26 := fun W => mayStand_any W a.t.toNat (by omega)
  have c27 := fun W => Tb.find_any W a.t.toNat (by omega)
  have htn : ((a.t.toNat : Nat) : Int) = a.t := by omega
  rw [htn] at c26 c27
  unfold elemOk vrO bodyO fnd
  obtain ⟨ms, hms⟩ : ∃ z, mayS a.t.toNat = z := ⟨_, rfl⟩
  simp only [hms] at c26 ⊢
  generalize Tb.docF a.t.toNat (Tb.upTo 10) = O at c27 ⊢
  generalize Tb.eT O = e0 at c27
  generalize Tb.eM O = e1 at c27
  generalize Tb.eV O = e2 at c27 ⊢
  generalize Tb.eS O = e3 at c27
  generalize Tb.eL O = e4 at c27
  generalize Tb.eN O = e5 at c27
  generalize O.isSome = kn at c27 ⊢
  obtain ⟨cf, ff, hcf, hff, c28⟩ : ∃ cf ff, Rp.FunV cf ∧ Rp.FunV ff ∧ ∀ W, Calls Tryz.prog 93 #[.int .i64 a.v] W fun e w' => e = .returned (.tuple #[.agg #[.string (Rp.nm (Rp.vn a.v)), .int .u8 (Rp.pd (Rp.vn a.v)), .int .i64 (Rp.un (Rp.vn a.v)), .int .i64 (Rp.mo (Rp.vn a.v)), .bool (Rp.tx (Rp.vn a.v)), .bool (Rp.ch (Rp.vn a.v)), .bool (Rp.mu (Rp.vn a.v)), .bool (Rp.lo (Rp.vn a.v)), cf, ff], .bool (decide (1 ≤ a.v ∧ a.v ≤ 28))]) ∧ Below W.heap.size W w' := by
    obtain ⟨cf, ff, h1, h2, h3⟩ := Rp.rep_shape a.v
    refine ⟨cf, ff, h1, h2, fun W => ?_⟩
    have := Rp.repOf_any W a.v
    rw [h3] at this
    exact this
  have c29 := fun W hs => unpadded_any W (Rp.nm (Rp.vn a.v)) (Rp.pd (Rp.vn a.v)) (Rp.un (Rp.vn a.v)) (Rp.mo (Rp.vn a.v)) (Rp.tx (Rp.vn a.v)) (Rp.ch (Rp.vn a.v)) (Rp.mu (Rp.vn a.v)) (Rp.lo (Rp.vn a.v)) cf ff hcf hff a.s hs
  generalize Rp.nm (Rp.vn a.v) = x0 at c28 c29
  generalize Rp.pd (Rp.vn a.v) = x1 at c28 c29
  generalize Rp.un (Rp.vn a.v) = x2 at c28 c29
  generalize Rp.mo (Rp.vn a.v) = x3 at c28 c29
  generalize Rp.tx (Rp.vn a.v) = x4 at c28 c29 ⊢
  generalize Rp.ch (Rp.vn a.v) = x5 at c28 c29
  generalize Rp.mu (Rp.vn a.v) = x6 at c28 c29
  generalize Rp.lo (Rp.vn a.v) = x7 at c28 c29
  generalize unp x4 a.s = up at c29 ⊢
  obtain ⟨ok, hok⟩ : ∃ z, decide (1 ≤ a.v ∧ a.v ≤ 28) = z := ⟨_, rfl⟩
  simp only [hok] at c28 ⊢
  obtain ⟨t, v, n, s⟩ := a
  simp only at *
  clear hok htn h0 h1 hms
  obtain ⟨R, hR⟩ : ∃ R, (ms && (!(kn && (v != e2)) && (if v = 18 then (s.toList == []) && decide (0 ≤ n) else ok && (decide (n = 0) && (decide (s.size ≤ 65534) && up))))) = R := ⟨_, rfl⟩
  rw [hR]
  have HR : Hid _ := hR
  clear hR
  obtain ⟨W1, hW1⟩ : ∃ W1, w.alloc (.cells #[.int .u32 t, .int .i64 v, .int .i64 n, .string s] 48) = W1 := ⟨_, rfl⟩
  have HN1 : Hid (NC W1 w.heap.size t v n s) := by rw [← hW1]; exact ⟨by simp, by simp, by simp, by simp⟩
  have HB1 : Hid (Below w.heap.size w W1) := by rw [← hW1]; exact (Below.refl _ _).alloc (Nat.le_refl _) _
  obtain ⟨y0, y1, y2, y3⟩ := HN1.out
  cases ms with
  | false =>
    have HR2 : Hid (R = false) := HR.out.symm
    go_enter Tryz.func99, Tryz.ntmps99
    go_wp2_with (first | (go_at_call 108; refine (c26 _).mono ?_; rintro e W2 ⟨rfl, rfl⟩) | fail)
    go_ret
    exact ⟨by rw [HR2.out]; rfl, HB1.out⟩
  | true =>
    go_enter Tryz.func99, Tryz.ntmps99
    go_wp2_with (first | (go_at_call 108; refine (c26 _).mono ?_; rintro e W2 ⟨rfl, rfl⟩) | (go_at_call 109; refine StopF.out ?_))
    refine ⟨Calls.mono (c27 _) ?_⟩
    rintro e W2 ⟨rfl, hb2⟩
    have hne : w.heap.size ≠ W2.heap.size := by
      have h1 := HB1.out.size
      have h2 := hb2.size
      have h3 : w.heap.size < W1.heap.size := Tb.cell_lt y0
      omega
    obtain ⟨W3, hW3⟩ : ∃ W3, W2.alloc (.cells #[.int .u32 e0, .int .u32 e1, .int .i64 e2, .string e3, .int .i64 e4, .int .i64 e5] 58) = W3 := ⟨_, rfl⟩
    have hb3 : Below W1.heap.size W1 W3 := hb2.trans (by rw [← hW3]; exact (Below.refl _ _).alloc hb2.size _)
    have HN3 : Hid (NC W3 w.heap.size t v n s) := HN1.out.on hb3
    have HB3 : Hid (Below w.heap.size w W3) := HB1.out.trans (hb3.mono HB1.out.size)
    have z2 : W3.cell? ⟨W2.heap.size, 2, none⟩ = some (.int .i64 e2) := by rw [← hW3]; simp
    obtain ⟨p0, p1, p2, p3⟩ := HN3.out
    clear hb2 hb3 c26 c27
    by_cases hbv : (kn && (v != e2)) = true
    · obtain ⟨rfl, hv⟩ : kn = true ∧ (v != e2) = true := by simpa using hbv
      have HR2 : Hid (R = false) := by
        have := HR.out
        rw [hv] at this
        exact this.symm
      clear hbv HR
      go_wp2
      go_ret
      exact ⟨by rw [HR2.out]; rfl, HB3.out⟩
    · have hbv2 : (kn && (v != e2)) = false := by simpa using hbv
      have HR3 : Hid ((if v = 18 then (s.toList == []) && decide (0 ≤ n) else ok && (decide (n = 0) && (decide (s.size ≤ 65534) && up))) = R) := by
        have := HR.out
        rw [hbv2] at this
        exact this
      have hkn : kn = false ∨ (kn = true ∧ (v != e2) = false) := by
        cases kn with
        | false => exact .inl rfl
        | true => exact .inr ⟨rfl, by simpa using hbv2⟩
      clear hbv HR hbv2
      rcases hkn with rfl | ⟨rfl, hv⟩
      all_goals
        by_cases h18 : v = 18
        · have HR4 : Hid (((s.toList == []) && decide (0 ≤ n)) = R) := by have := HR3.out; rwa [if_pos h18] at this
          have b18 : (v == 18) = true := by rw [h18]; rfl
          clear h18 HR3
          obtain ⟨es, hes⟩ : ∃ z, (s.toList == []) = z := ⟨_, rfl⟩
          cases es with
          | true =>
            have HR5 : Hid (R = decide (0 ≤ n)) := by have := HR4.out; rw [hes] at this; exact this.symm
            go_wp2
            go_ret
            exact ⟨by rw [HR5.out]; rfl, HB3.out⟩
          | false =>
            have HR5 : Hid (R = false) := by have := HR4.out; rw [hes] at this; exact this.symm
            go_wp2
            go_ret
            exact ⟨by rw [HR5.out]; rfl, HB3.out⟩
        · have HR4 : Hid ((ok && (decide (n = 0) && (decide (s.size ≤ 65534) && up))) = R) := by have := HR3.out; rwa [if_neg h18] at this
          have b18 : (v == 18) = false := beq_eq_false_iff_ne.2 h18
          clear h18 HR3
          go_wp2_with (go_at_call 93; refine StopF.out ?_)
          refine ⟨Calls.mono (c28 _) ?_⟩
          rintro e W4 ⟨rfl, hb4⟩
          have hne4 : w.heap.size ≠ W4.heap.size := by
            have h1 := HB3.out.size
            have h2 := hb4.size
            have h3 : w.heap.size < W3.heap.size := Tb.cell_lt p0
            omega
          obtain ⟨W5, hW5⟩ : ∃ W5, W4.alloc (.cells #[.string x0, .int .u8 x1, .int .i64 x2, .int .i64 x3, .bool x4, .bool x5, .bool x6, .bool x7, cf, ff] 169) = W5 := ⟨_, rfl⟩
          have hb5 : Below W3.heap.size W3 W5 := hb4.trans (by rw [← hW5]; exact (Below.refl _ _).alloc hb4.size _)
          have HN5 : Hid (NC W5 w.heap.size t v n s) := HN3.out.on hb5
          have HB5 : Hid (Below w.heap.size w W5) := HB3.out.trans (hb5.mono HB3.out.size)
          have hbk : W5.heap[W4.heap.size]? = some (.cells #[.string x0, .int .u8 x1, .int .i64 x2, .int .i64 x3, .bool x4, .bool x5, .bool x6, .bool x7, cf, ff] 169 (0, 0)) := by rw [← hW5]; exact World.alloc_heap_new _ _
          have h1c : (#[.string x0, .int .u8 x1, .int .i64 x2, .int .i64 x3, .bool x4, .bool x5, .bool x6, .bool x7, cf, ff] : Array Value).all (·.oneCell') = true := by
            rcases hcf with rfl | ⟨j, rfl⟩ <;> rcases hff with rfl | ⟨j2, rfl⟩ <;> kernel_rfl
          have HW5 : Hid _ := hW5
          clear hb4 hb5 c28 p0 p1 p2 p3 z2 hW3 hW5
          go_wp2_with (refine wpList_store_rowTo rfl 169 (.tmp 5) (.tmp 40) rfl rfl W4.heap.size #[.string x0, .int .u8 x1, .int .i64 x2, .int .i64 x3, .bool x4, .bool x5, .bool x6, .bool x7, cf, ff] rfl rfl 169 _ (World.alloc_heap_new _ _) (by kernel_rfl) rfl h1c ?_; refine StopF.out ?_)
          refine ⟨?_⟩
          rw [World.setRow_alloc_new, HW5.out]
          have k0 : W5.cell? ⟨W4.heap.size, 0, none⟩ = some (.string x0) := Tb.cell_blk hbk rfl
          have k1 : W5.cell? ⟨W4.heap.size, 1, none⟩ = some (.int .u8 x1) := Tb.cell_blk hbk rfl
          have k2 : W5.cell? ⟨W4.heap.size, 2, none⟩ = some (.int .i64 x2) := Tb.cell_blk hbk rfl
          have k3 : W5.cell? ⟨W4.heap.size, 3, none⟩ = some (.int .i64 x3) := Tb.cell_blk hbk rfl
          have k4 : W5.cell? ⟨W4.heap.size, 4, none⟩ = some (.bool x4) := Tb.cell_blk hbk rfl
          have k5 : W5.cell? ⟨W4.heap.size, 5, none⟩ = some (.bool x5) := Tb.cell_blk hbk rfl
          have k6 : W5.cell? ⟨W4.heap.size, 6, none⟩ = some (.bool x6) := Tb.cell_blk hbk rfl
          have k7 : W5.cell? ⟨W4.heap.size, 7, none⟩ = some (.bool x7) := Tb.cell_blk hbk rfl
          have k8 : W5.cell? ⟨W4.heap.size, 8, none⟩ = some cf := Tb.cell_blk hbk rfl
          have k9 : W5.cell? ⟨W4.heap.size, 9, none⟩ = some ff := Tb.cell_blk hbk rfl
          obtain ⟨q0, q1, q2, q3⟩ := HN5.out
          clear hbk h1c HW5
          by_cases hgo : (ok && (decide (n = 0) && decide (s.size ≤ 65534))) = true
          · obtain ⟨rfl, hn, hs⟩ : ok = true ∧ n = 0 ∧ s.size ≤ 65534 := by simpa using hgo
            have HR5 : Hid (R = up) := by
              have := HR4.out
              rw [show decide (n = 0) = true by simpa using hn, show decide (s.size ≤ 65534) = true by simpa using hs] at this
              exact this.symm
            have bn : (n == 0) = true := by rw [hn]; rfl
            have bs : decide ((s.size : Int) ≤ 65534) = true := by simp; omega
            have c := fun W => c29 W hs
            clear hgo HR4 hn c29
            all_goals go_wp2_with (first | (go_at_call 110; refine (c _).mono ?_; rintro e W6 ⟨rfl, hb6⟩) | fail)
            all_goals go_ret
            all_goals exact ⟨by rw [HR5.out]; rfl, HB5.out.trans (hb6.mono HB5.out.size)⟩
          · have HR5 : Hid (R = false) := by
              have := HR4.out
              show R = false
              rw [← this]
              have : (ok && (decide (n = 0) && decide (s.size ≤ 65534))) = false := by simpa using hgo
              revert this
              cases ok <;> cases decide (n = 0) <;> cases decide (s.size ≤ 65534) <;> simp
            have hor : ok = false ∨ (ok = true ∧ (n == 0) = false) ∨ (ok = true ∧ (n == 0) = true ∧ ¬ s.size ≤ 65534 ∧ decide ((s.size : Int) ≤ 65534) = false) := by
              cases ok with
              | false => exact .inl rfl
              | true =>
                right
                by_cases hn : n = 0
                · have hs : ¬ s.size ≤ 65534 := fun hs => hgo (by simp [hn, hs])
                  exact .inr ⟨rfl, by rw [hn]; rfl, hs, by simp; omega⟩
                · exact .inl ⟨rfl, beq_eq_false_iff_ne.2 hn⟩
            clear hgo HR4 c29
            rcases hor with rfl | ⟨rfl, bn⟩ | ⟨rfl, bn, bs, bs2⟩
            all_goals go_wp2
            all_goals go_ret
            all_goals exact ⟨by rw [HR5.out]; rfl, HB5.out⟩
end Go.Proofs.YtfoodjhffehgpaaGreatDoor
end

section
/-
  DERIVED. Numbers, tags, heads laid down: the document's.
-/
namespace Go.Proofs.YtfoodjhffehgpaaGreatDoor
open Go Go.Proofs Go.RowKit
open Wk (Nd NV goN)

theorem le_two (n : Nat) : le 2 n = [UInt8.ofNat n, UInt8.ofNat (n / 256)] := rfl
theorem le_four (n : Nat) : le 4 n = le 2 n ++ le 2 (n / 65536) := by
  show [UInt8.ofNat n, UInt8.ofNat (n / 256), UInt8.ofNat (n / 256 / 256), UInt8.ofNat (n / 256 / 256 / 256)] = [UInt8.ofNat n, UInt8.ofNat (n / 256), UInt8.ofNat (n / 65536), UInt8.ofNat (n / 65536 / 256)]
  rw [show n / 256 / 256 = n / 65536 by omega]
set_option maxRecDepth 100000 in
set_option maxHeartbeats 1000000 in
theorem u16_any (w : World) (base : Nat) (v : Value) (ys : List UInt8) (n : Nat) (_ : n < 18446744073709551616) (hown : Ob base w v ys) (hb : base ≤ w.heap.size) (hl : ys.length ≤ 50000000) :
    Calls Tryz.prog 38 #[v, .int .u64 (n : Int)] w fun e w' => ∃ u, e = .returned u ∧ Hid (Ob base w' u (ys ++ le 2 n)) ∧ Hid (By base w w') := by
  have HO : Hid (Ob base w v ys ∧ base ≤ w.heap.size) := ⟨hown, hb⟩
  clear hown hb
  go_enter Tryz.func38, Tryz.ntmps38
  go_wp2_with (at_builtin; refine StopB.out ?_)
  have hb1 : Below w.heap.size w (w.alloc (.cells #[.int .u8 ((n : Int) % 256), .int .u8 ((n : Int) / 256 % 256)] 5)) := (Below.refl _ _).alloc (Nat.le_refl _) _
  refine ⟨app_bytes rfl (.tmp 5) (.tmp 11) rfl base _ _ rfl (HO.out.1.on hb1) ⟨w.heap.size, 0, none⟩ 2 2 (le 2 n) rfl rfl (news_b rfl _ _ (by rw [le_two]; simp [bvs]) _) (by omega) (Nat.le_trans HO.out.2 hb1.size) ?_⟩
  intro u W2 ho hby
  go_wp2
  go_ret
  exact ⟨_, rfl, ho, (By.of hb1 HO.out.2).trans hby⟩
set_option maxRecDepth 100000 in
theorem u32_any (w : World) (base : Nat) (v : Value) (ys : List UInt8) (n : Nat) (hn : n < 18446744073709551616) (hown : Ob base w v ys) (hb : base ≤ w.heap.size) (hl : ys.length ≤ 40000000) :
    Calls Tryz.prog 16 #[v, .int .u64 (n : Int)] w fun e w' => ∃ u, e = .returned u ∧ Hid (Ob base w' u (ys ++ le 4 n)) ∧ Hid (By base w w') := by
  have c1 := u16_any w base v ys n hn hown hb (by omega)
  have HB : Hid (base ≤ w.heap.size) := hb
  have c2 := fun W u h1 h2 => u16_any W base u (ys ++ le 2 n) (n / 65536) (by omega) h1 h2 (by rw [List.length_append, le_len]; omega)
  have hsh : ((n / 65536 : Nat) : Int) = (n : Int) / 65536 := by omega
  simp only [hsh] at c2
  clear hown hb hsh
  go_enter Tryz.func16, Tryz.ntmps16
  go_wp2_with (go_at_call 38; refine StopB.out ?_)
  refine ⟨Calls.mono c1 ?_⟩
  rintro e W1 ⟨u1, rfl, ho1, hb1⟩
  clear c1
  go_wp2_with (go_at_call 38; refine StopB.out ?_)
  refine ⟨Calls.mono (c2 W1 u1 ho1.out (Nat.le_trans HB.out hb1.out.size)) ?_⟩
  rintro e W2 ⟨u2, rfl, ho2, hb2⟩
  go_wp2
  go_ret
  exact ⟨_, rfl, by rw [le_four, ← List.append_assoc]; exact ho2.out, hb1.out.trans hb2.out⟩
set_option maxRecDepth 100000 in
theorem tagB_any (w : World) (base : Nat) (v : Value) (ys : List UInt8) (t : Nat) (ht : t < 4294967296) (hown : Ob base w v ys) (hb : base ≤ w.heap.size) (hl : ys.length ≤ 40000000) :
    Calls Tryz.prog 36 #[v, .int .u32 (t : Int)] w fun e w' => ∃ u, e = .returned u ∧ Hid (Ob base w' u (ys ++ tagL t)) ∧ Hid (By base w w') := by
  have c1 := u16_any w base v ys (t / 65536) (by omega) hown hb (by omega)
  have HB : Hid (base ≤ w.heap.size) := hb
  have hsh : ((t / 65536 : Nat) : Int) = (t : Int) / 65536 := by omega
  rw [hsh] at c1
  clear hown hb hsh
  go_enter Tryz.func36, Tryz.ntmps36
  go_wp2_with (go_at_call 38; refine StopB.out ?_)
  refine ⟨Calls.mono c1 ?_⟩
  rintro e W1 ⟨u1, rfl, ho1, hb1⟩
  clear c1
  go_wp2_with (go_at_call 38; refine StopB.out ?_)
  refine ⟨Calls.mono (u16_any W1 base u1 _ t (by omega) ho1.out (Nat.le_trans HB.out hb1.out.size) (by rw [List.length_append, le_len]; omega)) ?_⟩
  rintro e W2 ⟨u2, rfl, ho2, hb2⟩
  go_wp2
  go_ret
  exact ⟨_, rfl, by rw [tagL, ← List.append_assoc]; exact ho2.out, hb1.out.trans hb2.out⟩
set_option maxRecDepth 100000 in
theorem rhs_any (w : World) (v : Int) (x : Bool) (r : Nat) (hr : (if (x && Rp.lo (Rp.vn v)) = true then 12 else 8) = r) : Calls Tryz.prog 51 #[.int .i64 v, .bool x] w fun e w' => e = .returned (.int .i64 (r : Int)) ∧ Below w.heap.size w w' := by
  have c := Rp.rabout_open w v
  generalize Rp.nm (Rp.vn v) = n at c
  generalize Rp.pd (Rp.vn v) = p at c
  generalize Rp.un (Rp.vn v) = u at c
  generalize Rp.mo (Rp.vn v) = m at c
  generalize Rp.tx (Rp.vn v) = t at c
  generalize Rp.ch (Rp.vn v) = c' at c
  generalize Rp.mu (Rp.vn v) = q at c
  generalize Rp.lo (Rp.vn v) = l at c hr
  generalize decide (1 ≤ v ∧ v ≤ 28) = b at c
  cases x <;> cases l <;> simp at hr <;> subst hr
  all_goals go_enter Tryz.func51, Tryz.ntmps51
  all_goals go_wp2_with (first | (go_at_call 37; refine c.mono ?_; rintro e W1 ⟨rfl, hb⟩) | fail)
  all_goals go_ret
  all_goals exact ⟨rfl, hb.alloc hb.size _⟩
set_option maxRecDepth 100000 in
set_option maxHeartbeats 1000000 in
theorem open_any (w : World) (t : Nat) (ht : t < 4294967296) (v z : Int) (s : ByteArray) (x r : Bool) (hr : (!x && !(Tb.docF t (Tb.upTo 10)).isSome) = r) : Calls Tryz.prog 52 #[.agg #[.int .u32 (t : Int), .int .i64 v, .int .i64 z, .string s], .bool x] w fun e w' => e = .returned (.bool r) ∧ Below w.heap.size w w' := by
  have h0 : Below w.heap.size w (w.alloc (.cells #[.int .u32 (t : Int), .int .i64 v, .int .i64 z, .string s] 48)) := (Below.refl _ _).alloc (Nat.le_refl _) _
  have c := fun W => Tb.rfind_any W t ht
  generalize Tb.docF t (Tb.upTo 10) = O at c hr
  generalize Tb.eT O = e0 at c
  generalize Tb.eM O = e1 at c
  generalize Tb.eV O = e2 at c
  generalize Tb.eS O = e3 at c
  generalize Tb.eL O = e4 at c
  generalize Tb.eN O = e5 at c
  generalize O.isSome = k at c hr
  cases x <;> cases k <;> simp at hr <;> subst hr
  all_goals go_enter Tryz.func52, Tryz.ntmps52
  all_goals go_wp2_with (first | (go_at_call 17; refine (c _).mono ?_; rintro e W1 ⟨rfl, hb⟩) | fail)
  all_goals go_ret
  all_goals exact ⟨rfl, (h0.trans (hb.mono h0.size)).alloc (h0.trans (hb.mono h0.size)).size _⟩
theorem two_list {s : ByteArray} (h : s.size = 2) : s.data.toList = [s[0], s[1]] := by
  have h2 : s.data.size = 2 := h
  apply List.ext_getElem
  · simp [h2]
  · intro i h3 h4
    simp at h4
    rcases (show i = 0 ∨ i = 1 by omega) with rfl | rfl <;> simp <;> rfl
set_option maxRecDepth 100000 in
set_option maxHeartbeats 2000000 in
theorem headI_any (w : World) (base : Nat) (b : Value) (ys : List UInt8) (t n : Nat) (ht : t < 4294967296) (hn : n < 4294967296) (v : Int) (hown : Ob base w b ys) (hb : base ≤ w.heap.size) (hl : ys.length ≤ 30000000) :
    Calls Tryz.prog 15 #[b, .int .u32 (t : Int), .int .i64 v, .int .u64 (n : Int), .bool false] w fun e w' => ∃ u, e = .returned u ∧ Hid (Ob base w' u (ys ++ plL t n)) ∧ Hid (By base w w') := by
  have c1 := tagB_any w base b ys t ht hown hb (by omega)
  have HB : Hid (base ≤ w.heap.size) := hb
  clear hown hb
  go_enter Tryz.func15, Tryz.ntmps15
  go_wp2_with (go_at_call 36; refine StopB.out ?_)
  refine ⟨Calls.mono c1 ?_⟩
  rintro e W1 ⟨u1, rfl, ho1, hb1⟩
  clear c1
  go_wp2_with (go_at_call 16; refine StopB.out ?_)
  refine ⟨Calls.mono (u32_any W1 base u1 _ n (by omega) ho1.out (Nat.le_trans HB.out hb1.out.size) (by rw [List.length_append, tagL_len]; omega)) ?_⟩
  rintro e W2 ⟨u2, rfl, ho2, hb2⟩
  go_wp2
  go_ret
  exact ⟨_, rfl, by rw [plL, ← List.append_assoc]; exact ho2.out, hb1.out.trans hb2.out⟩
/-- Bytes behind bytes of our own, as a step of a region that draws its order. -/
theorem step_bytes {w : World} {ops : Array Oper} {o : Oper} {a : Act} {K : Act → World → Prop} {Q : Exit → Act → World → Prop} {E : Prop} (hgd : o.guard = none) (s x : Operand)
    (ho : o.op = .call { callee := .builtin .append, args := #[s, x], argTypes := #[31, 31] }) (base : Nat) (v : Value) (ys : List UInt8) (hs : a.eval s = v) (hown : Ob base w v ys)
    (ad : Addr) (m c : Nat) (zs : List UInt8) (hx : a.eval x = .slice (some ad) m c) (hm : zs.length = m) (hm0 : 0 < m) (hnews : ∀ j u, (bvs zs)[j]? = some u → w.cell? (ad.add j) = some u) (hlen : ys.length + m ≤ 100000000) (hbase : base ≤ w.heap.size)
    (h : ∀ u w', Ob base w' u (ys ++ zs) → By base w w' → K (a.put o.dst u) w') :
    if Region.wanted o (yielded ops a.tmps) = true then Oper.wp Tryz.prog o a w K Q else E := by
  obtain ⟨i0, hi, hz0, hz1, hz2⟩ := info_parts info8
  refine step_append_lies w hgd s x 31 ho base 5 i0 (.int .u8 0) 1 1 Tryz.underlying31 hi hz0 hz1 hz2 rfl (by decide) v ys.length (bvs ys) hs hown ad m c (bvs zs) hx (by rw [bvs_len, hm, Nat.mul_one]) hnews (bvs_one zs) hm0 (by simp only [maxLen]; omega) (by omega) hbase _ rfl ?_
  intro g cap w' h2 h3 _ _
  refine h _ w' ?_ (By.grown hown h3 hbase)
  unfold Ob
  rw [List.length_append, hm, bvs_app]
  exact h2
set_option maxRecDepth 100000 in
set_option maxHeartbeats 2000000 in
theorem headE_any (w : World) (base : Nat) (b : Value) (ys : List UInt8) (t n : Nat) (ht : t < 4294967296) (hn : n < 4294967296) (v : Int) (hv : 1 ≤ v ∧ v ≤ 28) (hown : Ob base w b ys) (hb : base ≤ w.heap.size) (hl : ys.length ≤ 30000000) :
    Calls Tryz.prog 15 #[b, .int .u32 (t : Int), .int .i64 v, .int .u64 (n : Int), .bool true] w fun e w' => ∃ u, e = .returned u ∧ Hid (Ob base w' u (ys ++ exL t v n)) ∧ Hid (By base w w') := by
  have c1 := tagB_any w base b ys t ht hown hb (by omega)
  have HB : Hid (base ≤ w.heap.size) := hb
  have c := fun W => Rp.rabout_open W v
  have hll : (ltr v).length = 2 := ltr_len hv
  have hnl : (Rp.nm (Rp.vn v)).size = 2 := hll
  have HEX : Hid (∀ l, Rp.lo (Rp.vn v) = l → exL t v n = tagL t ++ (Rp.nm (Rp.vn v)).data.toList ++ (if l = true then [0, 0] ++ le 4 n else le 2 n)) := by rintro l rfl; rfl
  generalize Rp.nm (Rp.vn v) = nm at c hnl HEX
  generalize Rp.pd (Rp.vn v) = p at c
  generalize Rp.un (Rp.vn v) = u at c
  generalize Rp.mo (Rp.vn v) = m at c
  generalize Rp.tx (Rp.vn v) = tt at c
  generalize Rp.ch (Rp.vn v) = c' at c
  generalize Rp.mu (Rp.vn v) = q at c
  generalize Rp.lo (Rp.vn v) = l at c HEX
  generalize decide (1 ≤ v ∧ v ≤ 28) = bb at c
  have HEX2 : Hid (exL t v n = tagL t ++ nm.data.toList ++ (if l = true then [0, 0] ++ le 4 n else le 2 n)) := HEX.out l rfl
  have htw := two_list hnl
  have h0n : 0 < nm.size := by omega
  have h1n : 1 < nm.size := by omega
  have h0i : (0 : Int) < (nm.size : Int) := by omega
  have h1i : (1 : Int) < (nm.size : Int) := by omega
  have HTW : Hid (nm.data.toList = [nm[0], nm[1]]) := htw
  clear hown hb hv HEX htw hll
  go_enter Tryz.func15, Tryz.ntmps15
  go_wp2_with (go_at_call 36; refine StopB.out ?_)
  refine ⟨Calls.mono c1 ?_⟩
  rintro e W1 ⟨u1, rfl, ho1, hb1⟩
  clear c1
  go_wp2_with (first | (go_at_call 37; refine Calls.mono (c _) ?_; rintro e W2 ⟨rfl, hb2⟩) | fail)
  obtain ⟨V, hV⟩ : ∃ V, W2.alloc (.cells #[.string nm, .int .u8 p, .int .i64 u, .int .i64 m, .bool tt, .bool c', .bool q, .bool l] 88) = V := ⟨_, rfl⟩
  have v0 : V.cell? ⟨W2.heap.size, 0, none⟩ = some (.string nm) := by rw [← hV]; simp
  have v7 : V.cell? ⟨W2.heap.size, 7, none⟩ = some (.bool l) := by rw [← hV]; simp
  have HVB : Hid (V.heap[W2.heap.size]? = some (.cells #[.string nm, .int .u8 p, .int .i64 u, .int .i64 m, .bool tt, .bool c', .bool q, .bool l] 88 (0, 0))) := by show _ = _; rw [← hV]; exact Wk.heap_new W2 _
  have hbV : Below W1.heap.size W1 V := by rw [← hV]; exact hb2.alloc hb2.size _
  have HBV : Hid (By base w V) := hb1.out.trans (By.of hbV (Nat.le_trans HB.out hb1.out.size))
  have HOV : Hid (Ob base V u1 (ys ++ tagL t)) := ho1.out.on hbV
  have HSV : Hid (base ≤ V.heap.size) := Nat.le_trans HB.out HBV.out.size
  rw [hV]
  clear hV hbV hb2 ho1 hb1 c
  go_region_law (first | (refine step_bytes rfl (.tmp 26) (.tmp 33) rfl base _ _ (by simp [Act.eval]) (HOV.out.on (by first | exact ((Below.refl _ _).drew).alloc (Nat.le_refl _) _ | exact (Below.refl _ _).alloc (Nat.le_refl _) _)) ⟨V.heap.size, 0, none⟩ 2 2 [nm[0], nm[1]] (by simp [Act.eval]) rfl (by decide) (news_b (by rfl) _ _ (by simp [bvs]) _) (by rw [List.length_append, tagL_len]; omega) (by have := HSV.out; simp; omega) ?_; intro u3 W3 ho3 hb3))
  all_goals have hBW : By base V W3 := (By.of (by first | exact ((Below.refl _ _).drew).alloc (Nat.le_refl _) _ | exact (Below.refl _ _).alloc (Nat.le_refl _) _) HSV.out).trans hb3
  all_goals have q7 : W3.cell? ⟨W2.heap.size, 7, none⟩ = some (.bool l) := (World.cell?_of_block (hBW.cell HVB.out (by decide))).trans v7
  all_goals have HO3 : Hid (Ob base W3 u3 (ys ++ tagL t ++ nm.data.toList)) := by rw [HTW.out]; exact ho3
  all_goals have HB3 : Hid (By base w W3) := HBV.out.trans hBW
  all_goals have HS3 : Hid (base ≤ W3.heap.size) := Nat.le_trans HSV.out hBW.size
  all_goals have HL3 : Hid ((ys ++ tagL t ++ nm.data.toList).length = ys.length + 6) := by show _ = _; rw [List.length_append, List.length_append, tagL_len, show nm.data.toList.length = 2 from hnl]
  all_goals clear hBW ho3 hb3 v0 v7 HBV HOV HSV HVB HTW h0n h1n h0i h1i
  all_goals cases l
  all_goals first
    | (have HX : Hid (exL t v n = tagL t ++ nm.data.toList ++ le 2 n) := by
         have := HEX2.out
         rw [if_neg (by decide)] at this
         exact this
       clear HEX2
       go_wp2_with (go_at_call 38; refine StopB.out ?_)
       refine ⟨Calls.mono (u16_any W3 base u3 _ n (by omega) HO3.out HS3.out (by rw [HL3.out]; omega)) ?_⟩
       rintro e W5 ⟨u5, rfl, ho5, hb5⟩
       go_wp2
       go_ret
       exact ⟨_, rfl, by rw [HX.out, ← List.append_assoc, ← List.append_assoc]; exact ho5.out, HB3.out.trans hb5.out⟩)
    | (have HX : Hid (exL t v n = tagL t ++ nm.data.toList ++ ([0, 0] ++ le 4 n)) := by
         have := HEX2.out
         rw [if_pos rfl] at this
         exact this
       clear HEX2
       go_wp2_with (at_builtin; refine StopB.out ?_)
       have hb4 : Below W3.heap.size W3 (W3.alloc (.cells #[.int .u8 0, .int .u8 0] 5)) := (Below.refl _ _).alloc (Nat.le_refl _) _
       have hsz : base ≤ (W3.alloc (.cells #[.int .u8 0, .int .u8 0] 5)).heap.size := Nat.le_trans HS3.out hb4.size
       refine ⟨app_bytes rfl (.tmp 37) (.tmp 38) rfl base _ _ rfl (HO3.out.on hb4) ⟨W3.heap.size, 0, none⟩ 2 2 [0, 0] rfl rfl (news_b rfl _ _ rfl _) (by rw [HL3.out]; omega) hsz ?_⟩
       intro u5 W5 ho5 hb5
       go_wp2_with (go_at_call 16; refine StopB.out ?_)
       refine ⟨Calls.mono (u32_any W5 base u5 _ n (by omega) ho5 (Nat.le_trans hsz hb5.size) (by rw [List.length_append, HL3.out]; simp; omega)) ?_⟩
       rintro e W6 ⟨u6, rfl, ho6, hb6⟩
       go_wp2
       go_ret
       refine ⟨_, rfl, ?_, HB3.out.trans ((By.of hb4 HS3.out).trans (hb5.trans hb6.out))⟩
       rw [HX.out, ← List.append_assoc, ← List.append_assoc, ← List.append_assoc]
       exact ho6.out)
end Go.Proofs.YtfoodjhffehgpaaGreatDoor
end
