import Derived.Test.YtngmleddlfkecaaDoorS
import Derived.Test.YtngmleddlfkecaaDoorT
namespace Go.Proofs.YtngmleddlfkecaaDoor
open Go Go.Proofs Go.RowKit

/-- The cell of a fault's result, still empty. -/
structure Fc (W : World) (g : Nat) : Prop where
  c0 : W.cell? ⟨g, 0, none⟩ = some (.slice none 0 0)
  c1 : W.cell? ⟨g, 1, none⟩ = some (.int .i64 0)
  cf : ∀ i, W.frozen? ⟨g, i, none⟩ = false

theorem Fc.next {W W' : World} {B g : Nat} (h : Fc W g) (hb : Below B W W') (hg : g < B) : Fc W' g :=
  ⟨(hb.cell (p := ⟨g, 0, none⟩) hg).trans h.c0, (hb.cell (p := ⟨g, 1, none⟩) hg).trans h.c1, fun i => (hb.frozen (p := ⟨g, i, none⟩) hg).trans (h.cf i)⟩

theorem Rc.under {W W' : World} {B g : Nat} (h : Rc W g) (hb : Below B W W') (hg : g < B) : Rc W' g :=
  ⟨(hb.cell (p := ⟨g, 0, none⟩) hg).trans h.c0, (hb.cell (p := ⟨g, 1, none⟩) hg).trans h.c1, (hb.cell (p := ⟨g, 2, none⟩) hg).trans h.c2, (hb.cell (p := ⟨g, 3, none⟩) hg).trans h.c3, fun i => (hb.frozen (p := ⟨g, i, none⟩) hg).trans (h.cf i)⟩

/-- The scan that is being filled. -/
structure Sc (W : World) (g : Nat) (G : Int) (vb vr : Value) (n : Int) : Prop where
  c0 : W.cell? ⟨g, 0, none⟩ = some (.int .u64 G)
  c1 : W.cell? ⟨g, 1, none⟩ = some vb
  c2 : W.cell? ⟨g, 2, none⟩ = some vr
  c3 : W.cell? ⟨g, 3, none⟩ = some (.int .i64 n)
  cf : ∀ i, W.frozen? ⟨g, i, none⟩ = false

theorem Sc.next {W W' : World} {B g : Nat} {G n : Int} {vb vr : Value} (h : Sc W g G vb vr n) (hb : Below B W W') (hg : g < B) : Sc W' g G vb vr n :=
  ⟨(hb.cell (p := ⟨g, 0, none⟩) hg).trans h.c0, (hb.cell (p := ⟨g, 1, none⟩) hg).trans h.c1, (hb.cell (p := ⟨g, 2, none⟩) hg).trans h.c2, (hb.cell (p := ⟨g, 3, none⟩) hg).trans h.c3, fun i => (hb.frozen (p := ⟨g, i, none⟩) hg).trans (h.cf i)⟩

theorem Sc.set1 {W : World} {g : Nat} {G n : Int} {vb vr : Value} (h : Sc W g G vb vr n) (v : Value) : Sc (W.setCell ⟨g, 1, none⟩ v) g G v vr n :=
  ⟨(cell_set_ne (by decide)).trans h.c0, cell_set_eq h.c1, (cell_set_ne (by decide)).trans h.c2, (cell_set_ne (by decide)).trans h.c3, fun i => by rw [World.frozen?_setCell]; exact h.cf i⟩
theorem Sc.set2 {W : World} {g : Nat} {G n : Int} {vb vr : Value} (h : Sc W g G vb vr n) (v : Value) : Sc (W.setCell ⟨g, 2, none⟩ v) g G vb v n :=
  ⟨(cell_set_ne (by decide)).trans h.c0, (cell_set_ne (by decide)).trans h.c1, cell_set_eq h.c2, (cell_set_ne (by decide)).trans h.c3, fun i => by rw [World.frozen?_setCell]; exact h.cf i⟩
theorem Sc.set3 {W : World} {g : Nat} {G n : Int} {vb vr : Value} (h : Sc W g G vb vr n) (m : Int) : Sc (W.setCell ⟨g, 3, none⟩ (.int .i64 m)) g G vb vr m :=
  ⟨(cell_set_ne (by decide)).trans h.c0, (cell_set_ne (by decide)).trans h.c1, (cell_set_ne (by decide)).trans h.c2, cell_set_eq h.c3, fun i => by rw [World.frozen?_setCell]; exact h.cf i⟩
theorem Rc.off {W : World} {g h i : Nat} (r : Rc W g) (hne : h ≠ g) (v : Value) : Rc (W.setCell ⟨h, i, none⟩ v) g :=
  ⟨(cell_set_off hne).trans r.c0, (cell_set_off hne).trans r.c1, (cell_set_off hne).trans r.c2, (cell_set_off hne).trans r.c3, fun i => by rw [World.frozen?_setCell]; exact r.cf i⟩
theorem Fc.off {W : World} {g h i : Nat} (r : Fc W g) (hne : h ≠ g) (v : Value) : Fc (W.setCell ⟨h, i, none⟩ v) g :=
  ⟨(cell_set_off hne).trans r.c0, (cell_set_off hne).trans r.c1, fun i => by rw [World.frozen?_setCell]; exact r.cf i⟩

/-- The document's fault, as a value. -/
def RFault (w : World) (v : Value) (a c : Int) : Prop := ∃ g cap, v = .agg #[.slice (some ⟨g, 0, none⟩) 1 cap, .int .i64 c] ∧ w.cell? ⟨g, 0, none⟩ = some (.string { data := #[106, 111, 117, 114, 110, 97, 108] }) ∧ w.cell? ⟨g, 1, none⟩ = some (.int .i64 a)

theorem RFault.next {w w' : World} {v : Value} {a c : Int} (h : RFault w v a c) (hb : Below w.heap.size w w') : RFault w' v a c := by
  obtain ⟨g, cap, rfl, h0, h1⟩ := h
  exact ⟨g, cap, rfl, (hb.cell (cell_lt h0)).trans h0, (hb.cell (cell_lt h1)).trans h1⟩

/-- What the six stores of a refusal leave. -/
theorem no_stores {W : World} {g0 g1 g : Nat} {cg : Nat} {c : Int} (hr : Rc W g0) (hf : Fc W g1) (h01 : g0 ≠ g1) (hg0 : g0 ≠ g) (hg1 : g1 ≠ g)
    (q0 : W.cell? ⟨g, 0, none⟩ = some (.string { data := #[106, 111, 117, 114, 110, 97, 108] })) (q1 : W.cell? ⟨g, 1, none⟩ = some (.int .i64 0)) :
    let U := (((((W.setCell ⟨g0, 0, none⟩ (.int .u64 0)).setCell ⟨g0, 1, none⟩ (.slice none 0 0)).setCell ⟨g0, 2, none⟩ (.slice none 0 0)).setCell ⟨g0, 3, none⟩ (.int .i64 0)).setCell ⟨g1, 0, none⟩ (.slice (some ⟨g, 0, none⟩) 1 cg)).setCell ⟨g1, 1, none⟩ (.int .i64 c)
    U.cell? ⟨g0, 0, none⟩ = some (.int .u64 0) ∧ U.cell? ⟨g0, 1, none⟩ = some (.slice none 0 0) ∧ U.cell? ⟨g0, 2, none⟩ = some (.slice none 0 0) ∧ U.cell? ⟨g0, 3, none⟩ = some (.int .i64 0) ∧ U.cell? ⟨g1, 0, none⟩ = some (.slice (some ⟨g, 0, none⟩) 1 cg) ∧ U.cell? ⟨g1, 1, none⟩ = some (.int .i64 c) ∧ RFault U (.agg #[.slice (some ⟨g, 0, none⟩) 1 cg, .int .i64 c]) 0 c := by
  obtain ⟨u0, u1, u2, u3⟩ := hr.set (.int .u64 0) (.slice none 0 0) (.slice none 0 0) (.int .i64 0)
  have h10 := Ne.symm h01
  have s := (((hf.off (i := 0) h01 (.int .u64 0)).off (i := 1) h01 (.slice none 0 0)).off (i := 2) h01 (.slice none 0 0)).off (i := 3) h01 (.int .i64 0)
  refine ⟨(cell_set_off h10).trans ((cell_set_off h10).trans u0), (cell_set_off h10).trans ((cell_set_off h10).trans u1), (cell_set_off h10).trans ((cell_set_off h10).trans u2), (cell_set_off h10).trans ((cell_set_off h10).trans u3), (cell_set_ne (by decide)).trans (cell_set_eq s.c0), cell_set_eq ((cell_set_ne (by decide)).trans s.c1), g, cg, rfl, ?_, ?_⟩
  · exact (cell_set_off hg1).trans ((cell_set_off hg1).trans ((cell_set_off hg0).trans ((cell_set_off hg0).trans ((cell_set_off hg0).trans ((cell_set_off hg0).trans q0)))))
  · exact (cell_set_off hg1).trans ((cell_set_off hg1).trans ((cell_set_off hg0).trans ((cell_set_off hg0).trans ((cell_set_off hg0).trans ((cell_set_off hg0).trans q1)))))

theorem no_below {w W : World} {g0 g1 : Nat} {x0 x1 x2 x3 y0 y1 : Value} (hb : Below w.heap.size w W) (h0 : w.heap.size ≤ g0) (h1 : w.heap.size ≤ g1) :
    Below w.heap.size w ((((((W.setCell ⟨g0, 0, none⟩ x0).setCell ⟨g0, 1, none⟩ x1).setCell ⟨g0, 2, none⟩ x2).setCell ⟨g0, 3, none⟩ x3).setCell ⟨g1, 0, none⟩ y0).setCell ⟨g1, 1, none⟩ y1) :=
  (((((hb.setCell (p := ⟨g0, 0, none⟩) h0 _).setCell (p := ⟨g0, 1, none⟩) h0 _).setCell (p := ⟨g0, 2, none⟩) h0 _).setCell (p := ⟨g0, 3, none⟩) h0 _).setCell (p := ⟨g1, 0, none⟩) h1 _).setCell (p := ⟨g1, 1, none⟩) h1 _

set_option maxRecDepth 100000 in
theorem rscan_short (w : World) (ao : Option Addr) (l cap : Nat) (h : l < 24) :
    Calls Tryd.prog 14 #[.slice ao l cap] w fun e w' => ∃ vf, e = .returned (.tuple #[noScan, vf]) ∧ RFault w' vf 0 43 ∧ Below w.heap.size w w' := by
  obtain ⟨W1, hW1⟩ : ∃ W1, (w.alloc (.cells #[.int .u64 0, .slice none 0 0, .slice none 0 0, .int .i64 0] 34)).alloc (.cells #[.slice none 0 0, .int .i64 0] 41) = W1 := ⟨_, rfl⟩
  have hb1 : Below w.heap.size w W1 := hW1 ▸ ((Below.refl _ _).alloc (Nat.le_refl _) _).alloc (by simp) _
  have HS : Hid (W1.heap.size = w.heap.size + 2) := by rw [← hW1]; show _ = _; simp
  have HRC : Hid (Rc W1 w.heap.size) := by
    rw [← hW1]
    exact ⟨by simp, by simp, by simp, by simp, fun i => by simp⟩
  have HFC : Hid (Fc W1 (w.heap.size + 1)) := by
    rw [← hW1]
    exact ⟨by simp, by simp, fun i => by simp⟩
  have hlt : (l : Int) < 24 := by omega
  go_enter Tryd.func14, Tryd.ntmps14
  go_wp2
  go_quiet (fail)
  go_wp2_with (go_at_call 33; fail)
  refine (refNo_any _ _ _).mono ?_
  rintro e W2 ⟨g, rfl, hb2, q0, q1, hg, hg2⟩
  have hb2' : Below W1.heap.size W1 W2 := (below_drewN (Below.refl _ _) nq).trans hb2
  have HR2 := HRC.out.next hb2'
  have HF2 := HFC.out.next hb2' (by rw [HS.out]; omega)
  have hgl : w.heap.size + 2 ≤ g := by have := HS.out; simp at hg; omega
  obtain ⟨a0, a1, a2, a3, af⟩ := HR2
  obtain ⟨f0, f1, ff⟩ := HF2
  go_wp2
  obtain ⟨u0, u1, u2, u3, u4, u5, hRF⟩ := no_stores (c := 43) (cg := 1) ⟨a0, a1, a2, a3, af⟩ ⟨f0, f1, ff⟩ (by omega) (by omega) (by omega) q0 q1
  exact bodyPost_ret (v := .tuple #[noScan, .agg #[.slice (some ⟨g, 0, none⟩) 1 1, .int .i64 43]]) (by simp only [results, Tryd.results14]; simp [go_sem, u0, u1, u2, u3, u4, u5, noScan]) rfl ⟨_, rfl, hRF, no_below (hb1.trans (hb2'.mono hb1.size)) (Nat.le_refl _) (by omega)⟩

theorem rvalue {w : World} {b off n cp : Nat} {bs : List Nat} (h : At w b off bs) (m : Nat) (hn : bs.length = n) (hcp : n ≤ cp) (h8 : n ≤ 8) :
    Calls Tryd.prog 32 #[.slice (some ⟨b, off, none⟩) n cp] (w.drewN m) fun e w' => e = .returned (.int .u64 (le bs : Nat)) ∧ w' = w.drewN m := by
  have hv : V (w.drewN m) (.slice (some ⟨b, off, none⟩) n cp) bs := V.mk (w := w.drewN m) h hn hcp
  refine (value_any hv (by omega)).mono ?_
  rintro e w' ⟨rfl, rfl⟩
  exact ⟨rfl, rfl⟩

theorem rsumv {w : World} {b off n cp : Nat} {bs : List Nat} (h : At w b off bs) (m : Nat) (hn : bs.length = n) (hcp : n ≤ cp) (h8 : n ≤ 400000) :
    Calls Tryd.prog 23 #[.slice (some ⟨b, off, none⟩) n cp] (w.drewN m) fun e w' => e = .returned (.int .u32 (crc bs : Nat)) ∧ w' = w.drewN m := by
  have hv : V (w.drewN m) (.slice (some ⟨b, off, none⟩) n cp) bs := V.mk (w := w.drewN m) h hn hcp
  refine (rsum_any hv (by omega)).mono ?_
  rintro e w' ⟨rfl, rfl⟩
  exact ⟨rfl, rfl⟩

set_option maxRecDepth 100000 in
theorem rscan_magic {w : World} {b off l cap : Nat} {d : List Nat} (h : At w b off d) (hlen : d.length = l) (hc : l ≤ cap) (hl : l ≤ 400000) (h24 : 24 ≤ l) (hm : le (d.take 4) ≠ 21649229) :
    Calls Tryd.prog 14 #[.slice (some ⟨b, off, none⟩) l cap] w fun e w' => ∃ vf, e = .returned (.tuple #[noScan, vf]) ∧ RFault w' vf 0 43 ∧ Below w.heap.size w w' := by
  obtain ⟨W1, hW1⟩ : ∃ W1, (w.alloc (.cells #[.int .u64 0, .slice none 0 0, .slice none 0 0, .int .i64 0] 34)).alloc (.cells #[.slice none 0 0, .int .i64 0] 41) = W1 := ⟨_, rfl⟩
  have hb1 : Below w.heap.size w W1 := hW1 ▸ ((Below.refl _ _).alloc (Nat.le_refl _) _).alloc (by simp) _
  have HS : Hid (W1.heap.size = w.heap.size + 2) := by rw [← hW1]; show _ = _; simp
  have HRC : Hid (Rc W1 w.heap.size) := by
    rw [← hW1]
    exact ⟨by simp, by simp, by simp, by simp, fun i => by simp⟩
  have HFC : Hid (Fc W1 (w.heap.size + 1)) := by
    rw [← hW1]
    exact ⟨by simp, by simp, fun i => by simp⟩
  have HA : Hid (At W1 b off d) := h.next hb1
  have HL : Hid (d.length = l) := hlen
  have HBy : Hid (∀ x ∈ d, x < 256) := h.2
  obtain ⟨X0, hX0⟩ : ∃ X, le (d.take 4) = X := ⟨_, rfl⟩
  obtain ⟨X20, hX20⟩ : ∃ X, le ((d.drop 20).take 4) = X := ⟨_, rfl⟩
  obtain ⟨Y20, hY20⟩ : ∃ X, crc (d.take 20) = X := ⟨_, rfl⟩
  have hY32 : Y20 < 4294967296 := by rw [← hY20]; exact crc_lt _ (take_lt h.2 20)
  have ewY := wrap_u64_small Y20 (by omega)
  have c0 : ∀ o nn cp m, o = off ∧ nn = 4 ∧ 4 ≤ cp → Calls Tryd.prog 32 #[.slice (some ⟨b, o, none⟩) nn cp] (W1.drewN m) fun e w' => e = .returned (.int .u64 (X0 : Int)) ∧ w' = W1.drewN m := by
    rintro o nn cp m ⟨rfl, rfl, hcp⟩
    rw [← hX0]
    exact rvalue (HA.out.take 4) m (by simp; omega) (by omega) (by omega)
  have c20 : ∀ o nn cp m, o = off + 20 ∧ nn = 4 ∧ 4 ≤ cp → Calls Tryd.prog 32 #[.slice (some ⟨b, o, none⟩) nn cp] (W1.drewN m) fun e w' => e = .returned (.int .u64 (X20 : Int)) ∧ w' = W1.drewN m := by
    rintro o nn cp m ⟨rfl, rfl, hcp⟩
    rw [← hX20]
    exact rvalue ((HA.out.drop 20).take 4) m (by simp; omega) (by omega) (by omega)
  have cs : ∀ m, Calls Tryd.prog 23 #[.slice (some ⟨b, off, none⟩) 20 cap] (W1.drewN m) fun e w' => e = .returned (.int .u32 (Y20 : Int)) ∧ w' = W1.drewN m := by
    intro m
    rw [← hY20]
    exact rsumv (HA.out.take 20) m (by simp; omega) (by omega) (by omega)
  have hd24 : decide ((l : Int) < 24) = false := by simp; omega
  have hcn : ¬ cap = 20 := by omega
  rw [hX0] at hm
  have hne : ((X0 : Int) != 21649229) = true := by simp; omega
  clear h hlen hX0 hX20 hY20
  go_enter Tryd.func14, Tryd.ntmps14
  go_wp2
  go_quiet (first | (go_at_call 32; refine Calls.quiet_of_same (c0 _ _ _ _ ?_); (focus omega)) | (go_at_call 32; refine Calls.quiet_of_same (c20 _ _ _ _ ?_); (focus omega)) | (go_at_call 23; exact Calls.quiet_of_same (cs _)))
  go_wp2_with (go_at_call 33; fail)
  refine (refNo_any _ _ _).mono ?_
  rintro e W2 ⟨g, rfl, hb2, q0, q1, hg, hg2⟩
  have hb2' : Below W1.heap.size W1 W2 := (below_drewN (Below.refl _ _) nq).trans hb2
  have HR2 := HRC.out.next hb2'
  have HF2 := HFC.out.next hb2' (by rw [HS.out]; omega)
  have hgl : w.heap.size + 2 ≤ g := by have := HS.out; simp at hg; omega
  obtain ⟨a0, a1, a2, a3, af⟩ := HR2
  obtain ⟨f0, f1, ff⟩ := HF2
  go_wp2
  obtain ⟨u0, u1, u2, u3, u4, u5, hRF⟩ := no_stores (c := 43) (cg := 1) ⟨a0, a1, a2, a3, af⟩ ⟨f0, f1, ff⟩ (by omega) (by omega) (by omega) q0 q1
  exact bodyPost_ret (v := .tuple #[noScan, .agg #[.slice (some ⟨g, 0, none⟩) 1 1, .int .i64 43]]) (by simp only [results, Tryd.results14]; simp [go_sem, u0, u1, u2, u3, u4, u5, noScan]) rfl ⟨_, rfl, hRF, no_below (hb1.trans (hb2'.mono hb1.size)) (Nat.le_refl _) (by omega)⟩

set_option maxRecDepth 100000 in
theorem rscan_sum {w : World} {b off l cap : Nat} {d : List Nat} (h : At w b off d) (hlen : d.length = l) (hc : l ≤ cap) (hl : l ≤ 400000) (h24 : 24 ≤ l) (hm : le (d.take 4) = 21649229) (hs : le ((d.drop 20).take 4) ≠ crc (d.take 20)) :
    Calls Tryd.prog 14 #[.slice (some ⟨b, off, none⟩) l cap] w fun e w' => ∃ vf, e = .returned (.tuple #[noScan, vf]) ∧ RFault w' vf 0 43 ∧ Below w.heap.size w w' := by
  obtain ⟨W1, hW1⟩ : ∃ W1, (w.alloc (.cells #[.int .u64 0, .slice none 0 0, .slice none 0 0, .int .i64 0] 34)).alloc (.cells #[.slice none 0 0, .int .i64 0] 41) = W1 := ⟨_, rfl⟩
  have hb1 : Below w.heap.size w W1 := hW1 ▸ ((Below.refl _ _).alloc (Nat.le_refl _) _).alloc (by simp) _
  have HS : Hid (W1.heap.size = w.heap.size + 2) := by rw [← hW1]; show _ = _; simp
  have HRC : Hid (Rc W1 w.heap.size) := by
    rw [← hW1]
    exact ⟨by simp, by simp, by simp, by simp, fun i => by simp⟩
  have HFC : Hid (Fc W1 (w.heap.size + 1)) := by
    rw [← hW1]
    exact ⟨by simp, by simp, fun i => by simp⟩
  have HA : Hid (At W1 b off d) := h.next hb1
  have HL : Hid (d.length = l) := hlen
  have HBy : Hid (∀ x ∈ d, x < 256) := h.2
  obtain ⟨X0, hX0⟩ : ∃ X, le (d.take 4) = X := ⟨_, rfl⟩
  obtain ⟨X20, hX20⟩ : ∃ X, le ((d.drop 20).take 4) = X := ⟨_, rfl⟩
  obtain ⟨Y20, hY20⟩ : ∃ X, crc (d.take 20) = X := ⟨_, rfl⟩
  have hY32 : Y20 < 4294967296 := by rw [← hY20]; exact crc_lt _ (take_lt h.2 20)
  have ewY := wrap_u64_small Y20 (by omega)
  have c0 : ∀ o nn cp m, o = off ∧ nn = 4 ∧ 4 ≤ cp → Calls Tryd.prog 32 #[.slice (some ⟨b, o, none⟩) nn cp] (W1.drewN m) fun e w' => e = .returned (.int .u64 (X0 : Int)) ∧ w' = W1.drewN m := by
    rintro o nn cp m ⟨rfl, rfl, hcp⟩
    rw [← hX0]
    exact rvalue (HA.out.take 4) m (by simp; omega) (by omega) (by omega)
  have c20 : ∀ o nn cp m, o = off + 20 ∧ nn = 4 ∧ 4 ≤ cp → Calls Tryd.prog 32 #[.slice (some ⟨b, o, none⟩) nn cp] (W1.drewN m) fun e w' => e = .returned (.int .u64 (X20 : Int)) ∧ w' = W1.drewN m := by
    rintro o nn cp m ⟨rfl, rfl, hcp⟩
    rw [← hX20]
    exact rvalue ((HA.out.drop 20).take 4) m (by simp; omega) (by omega) (by omega)
  have cs : ∀ m, Calls Tryd.prog 23 #[.slice (some ⟨b, off, none⟩) 20 cap] (W1.drewN m) fun e w' => e = .returned (.int .u32 (Y20 : Int)) ∧ w' = W1.drewN m := by
    intro m
    rw [← hY20]
    exact rsumv (HA.out.take 20) m (by simp; omega) (by omega) (by omega)
  have hd24 : decide ((l : Int) < 24) = false := by simp; omega
  have hcn : ¬ cap = 20 := by omega
  rw [hX0] at hm
  rw [hX20, hY20] at hs
  have hne : ((X0 : Int) != 21649229) = false := by simp; omega
  have hne2 : ((X20 : Int) != (Y20 : Int)) = true := by simp; omega
  clear h hlen hX0 hX20 hY20 hm
  go_enter Tryd.func14, Tryd.ntmps14
  go_wp2
  go_quiet (first | (go_at_call 32; refine Calls.quiet_of_same (c0 _ _ _ _ ?_); (focus omega)) | (go_at_call 32; refine Calls.quiet_of_same (c20 _ _ _ _ ?_); (focus omega)) | (go_at_call 23; exact Calls.quiet_of_same (cs _)))
  go_wp2_with (go_at_call 33; fail)
  refine (refNo_any _ _ _).mono ?_
  rintro e W2 ⟨g, rfl, hb2, q0, q1, hg, hg2⟩
  have hb2' : Below W1.heap.size W1 W2 := (below_drewN (Below.refl _ _) nq).trans hb2
  have HR2 := HRC.out.next hb2'
  have HF2 := HFC.out.next hb2' (by rw [HS.out]; omega)
  have hgl : w.heap.size + 2 ≤ g := by have := HS.out; simp at hg; omega
  obtain ⟨a0, a1, a2, a3, af⟩ := HR2
  obtain ⟨f0, f1, ff⟩ := HF2
  go_wp2
  obtain ⟨u0, u1, u2, u3, u4, u5, hRF⟩ := no_stores (c := 43) (cg := 1) ⟨a0, a1, a2, a3, af⟩ ⟨f0, f1, ff⟩ (by omega) (by omega) (by omega) q0 q1
  exact bodyPost_ret (v := .tuple #[noScan, .agg #[.slice (some ⟨g, 0, none⟩) 1 1, .int .i64 43]]) (by simp only [results, Tryd.results14]; simp [go_sem, u0, u1, u2, u3, u4, u5, noScan]) rfl ⟨_, rfl, hRF, no_below (hb1.trans (hb2'.mono hb1.size)) (Nat.le_refl _) (by omega)⟩

end Go.Proofs.YtngmleddlfkecaaDoor
