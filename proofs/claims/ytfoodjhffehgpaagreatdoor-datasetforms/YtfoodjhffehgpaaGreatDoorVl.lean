import Derived.Test.YtfoodjhffehgpaaGreatDoorVk
import Derived.Deep.Cut
import Derived.Deep.CutRange
/-
  DERIVED. Into what is behind a head.
-/
namespace Go.Proofs.YtfoodjhffehgpaaGreatDoor
open Go Go.Proofs Go.RowKit
open Wk (Nd nds)
open Go.Sort

def exI (x : Bool) : Nat := if x = true then 99 else 98
theorem exV_eq (x : Bool) : exV x = .iface (exI x) (.agg #[]) := by cases x <;> rfl
/-- The span behind a head. -/
def spOf (M : List Nd) (fin at' : Nat) (v : Int) (len : Nat) (x : Bool) : Sp := ⟨some (M.length - 1), if len = und then fin else at' + len, decide (len = und), decide (v = 18), x, 0⟩

/-- A span as it is being made. -/
structure SpC (W : World) (B : Nat) (p : Int) (fin : Nat) (opn it : Bool) (x : Nat) : Prop where
  p0 : W.cell? ⟨B, 0, none⟩ = some (.int .i64 p)
  p1 : W.cell? ⟨B, 1, none⟩ = some (.int .i64 (fin : Int))
  p2 : W.cell? ⟨B, 2, none⟩ = some (.bool opn)
  p3 : W.cell? ⟨B, 3, none⟩ = some (.bool it)
  p4 : W.cell? ⟨B, 4, none⟩ = some (.iface x (.agg #[]))
  p5 : W.cell? ⟨B, 5, none⟩ = some (.int .u32 0)
  fz : ∀ i, W.frozen? ⟨B, i, none⟩ = false

theorem NewZ' {W1 W2 : World} (h : W1.heap.size < (W1.alloc (.cells #[.int .i64 0, .int .i64 0, .bool false, .bool false, .nilIface, .int .u32 0] 103)).drew.heap.size → ∀ i, W2.cell? ⟨W1.heap.size, i, none⟩ = (W1.alloc (.cells #[.int .i64 0, .int .i64 0, .bool false, .bool false, .nilIface, .int .u32 0] 103)).drew.cell? ⟨W1.heap.size, i, none⟩) (hf : W1.heap.size < (W1.alloc (.cells #[.int .i64 0, .int .i64 0, .bool false, .bool false, .nilIface, .int .u32 0] 103)).drew.heap.size → ∀ i, W2.frozen? ⟨W1.heap.size, i, none⟩ = (W1.alloc (.cells #[.int .i64 0, .int .i64 0, .bool false, .bool false, .nilIface, .int .u32 0] 103)).drew.frozen? ⟨W1.heap.size, i, none⟩) :
    W2.cell? ⟨W1.heap.size, 0, none⟩ = some (.int .i64 0) ∧ W2.cell? ⟨W1.heap.size, 1, none⟩ = some (.int .i64 0) ∧ W2.cell? ⟨W1.heap.size, 2, none⟩ = some (.bool false) ∧ W2.cell? ⟨W1.heap.size, 3, none⟩ = some (.bool false) ∧ W2.cell? ⟨W1.heap.size, 4, none⟩ = some .nilIface ∧ W2.cell? ⟨W1.heap.size, 5, none⟩ = some (.int .u32 0) ∧ ∀ i, W2.frozen? ⟨W1.heap.size, i, none⟩ = false := by
  have h := h (by simp)
  have hf := hf (by simp)
  exact ⟨(h 0).trans (by simp), (h 1).trans (by simp), (h 2).trans (by simp), (h 3).trans (by simp), (h 4).trans (by simp), (h 5).trans (by simp), fun i => (hf i).trans (by simp)⟩
theorem set6 {W : World} {B : Nat} {u0 u1 u2 u3 u4 u5 : Value} (h0 : W.cell? ⟨B, 0, none⟩ = some u0) (h1 : W.cell? ⟨B, 1, none⟩ = some u1) (h2 : W.cell? ⟨B, 2, none⟩ = some u2) (h3 : W.cell? ⟨B, 3, none⟩ = some u3) (h4 : W.cell? ⟨B, 4, none⟩ = some u4) (h5 : W.cell? ⟨B, 5, none⟩ = some u5) (hf : ∀ i, W.frozen? ⟨B, i, none⟩ = false) (p : Int) (fin : Nat) (opn it : Bool) (x : Nat) :
    SpC ((((((W.setCell ⟨B, 0, none⟩ (.int .i64 p)).setCell ⟨B, 1, none⟩ (.int .i64 (fin : Int))).setCell ⟨B, 2, none⟩ (.bool opn)).setCell ⟨B, 3, none⟩ (.bool it)).setCell ⟨B, 4, none⟩ (.iface x (.agg #[]))).setCell ⟨B, 5, none⟩ (.int .u32 0)) B p fin opn it x :=
  ⟨((Rp.cell_set_ne (by decide)).trans ((Rp.cell_set_ne (by decide)).trans ((Rp.cell_set_ne (by decide)).trans ((Rp.cell_set_ne (by decide)).trans ((Rp.cell_set_ne (by decide)).trans (Rp.cell_set_eq (h0))))))),
   ((Rp.cell_set_ne (by decide)).trans ((Rp.cell_set_ne (by decide)).trans ((Rp.cell_set_ne (by decide)).trans ((Rp.cell_set_ne (by decide)).trans (Rp.cell_set_eq ((Rp.cell_set_ne (by decide)).trans (h1))))))),
   ((Rp.cell_set_ne (by decide)).trans ((Rp.cell_set_ne (by decide)).trans ((Rp.cell_set_ne (by decide)).trans (Rp.cell_set_eq ((Rp.cell_set_ne (by decide)).trans ((Rp.cell_set_ne (by decide)).trans (h2))))))),
   ((Rp.cell_set_ne (by decide)).trans ((Rp.cell_set_ne (by decide)).trans (Rp.cell_set_eq ((Rp.cell_set_ne (by decide)).trans ((Rp.cell_set_ne (by decide)).trans ((Rp.cell_set_ne (by decide)).trans (h3))))))),
   ((Rp.cell_set_ne (by decide)).trans (Rp.cell_set_eq ((Rp.cell_set_ne (by decide)).trans ((Rp.cell_set_ne (by decide)).trans ((Rp.cell_set_ne (by decide)).trans ((Rp.cell_set_ne (by decide)).trans (h4))))))),
   (Rp.cell_set_eq ((Rp.cell_set_ne (by decide)).trans ((Rp.cell_set_ne (by decide)).trans ((Rp.cell_set_ne (by decide)).trans ((Rp.cell_set_ne (by decide)).trans ((Rp.cell_set_ne (by decide)).trans (h5))))))), fun i => by simpa using hf i⟩
theorem SpC.new (W : World) (p : Int) (fin : Nat) (opn it : Bool) (x : Nat) : SpC (W.alloc (.cells #[.int .i64 p, .int .i64 (fin : Int), .bool opn, .bool it, .iface x (.agg #[]), .int .u32 0] 103)) W.heap.size p fin opn it x := ⟨by simp, by simp, by simp, by simp, by simp, by simp, fun i => by simp⟩
theorem SpC.drew {W : World} {B : Nat} {p : Int} {fin : Nat} {opn it : Bool} {x : Nat} (h : SpC W B p fin opn it x) : SpC W.drew B p fin opn it x := ⟨h.p0, h.p1, h.p2, h.p3, h.p4, h.p5, h.fz⟩
theorem SpC.shut {W : World} {B : Nat} {p : Int} {fin : Nat} {opn it : Bool} {x : Nat} (h : SpC W B p fin opn it x) (f : Nat) : SpC ((W.setCell ⟨B, 1, none⟩ (.int .i64 (f : Int))).setCell ⟨B, 2, none⟩ (.bool false)) B p f false it x :=
  ⟨(Rp.cell_set_ne (by decide)).trans ((Rp.cell_set_ne (by decide)).trans h.p0), (Rp.cell_set_ne (by decide)).trans (Rp.cell_set_eq h.p1), Rp.cell_set_eq ((Rp.cell_set_ne (by decide)).trans h.p2), (Rp.cell_set_ne (by decide)).trans ((Rp.cell_set_ne (by decide)).trans h.p3), (Rp.cell_set_ne (by decide)).trans ((Rp.cell_set_ne (by decide)).trans h.p4), (Rp.cell_set_ne (by decide)).trans ((Rp.cell_set_ne (by decide)).trans h.p5), fun i => by simpa using h.fz i⟩

set_option maxRecDepth 100000 in
set_option maxHeartbeats 4000000 in
theorem enter_any (w : World) (base rb : Nat) (bv : Value) (n k : Nat) (M : List Nd) (sp : Sp) (r : List Sp) (nv : Value) (g sc : Nat) (v : Int) (len sz : Nat) (x : Bool) (hP : PR base rb bv w k M (sp :: r) nv (.slice (some ⟨g, 0, none⟩) (r.length + 1) sc)) (hI : PI n k M (sp :: r)) (hn : n ≤ 1048576) (hM : 0 < M.length) (hz : sz ≤ 12) (hl : len < 4294967296) :
    Calls Tryz.prog 70 #[.pointer (some ⟨rb, 0, none⟩), hdV v len sz (exI x)] w fun e w' => e = .returned (.tuple #[]) ∧ Hid (∃ sv', PR base rb bv w' (k + sz) M (spOf M sp.fin (k + sz) v len x :: sp :: r) nv sv') ∧ Hid (Below base w w') := by
  obtain ⟨W0, hW0⟩ : ∃ W0, w.alloc (.cells #[.int .i64 v, .int .u32 (len : Int), .int .i64 (sz : Int), .iface (exI x) (.agg #[])] 131) = W0 := ⟨_, rfl⟩
  have hb0 : Below w.heap.size w W0 := by rw [← hW0]; exact (Below.refl _ _).alloc (Nat.le_refl _) _
  have HH : Hid (HC W0 w.heap.size v len sz (exI x)) := by rw [← hW0]; exact HC.new w v len sz (exI x)
  have HP0 : Hid (PR base rb bv W0 k M (sp :: r) nv (.slice (some ⟨g, 0, none⟩) (r.length + 1) sc)) := hP.on hb0
  obtain ⟨y0, y1, y2, y3⟩ := HH.out
  have c1 := HP0.out.c1
  have f1 := HP0.out.fz 1
  have hne : rb ≠ w.heap.size := Nat.ne_of_lt (Rp.cell_lt hP.c0)
  have hne' : w.heap.size ≠ rb := fun h => hne h.symm
  have hml := hI.mo.l
  have hln := hI.ln
  simp only [List.length_cons] at hln
  obtain ⟨hk, hf⟩ := hI.le
  have e1 : IntKind.i64.wrap ((k : Int) + (sz : Int)) = ((k + sz : Nat) : Int) := by rw [IntKind.wrap_i64]; omega
  have HB : Hid (base ≤ w.heap.size) := hP.lt
  obtain ⟨na, ncap, rfl, hna⟩ := own_form hP.nd
  obtain ⟨fin, hfin⟩ : ∃ f, sp.fin = f := ⟨_, rfl⟩
  obtain ⟨m, hm⟩ : ∃ m, r.length = m := ⟨_, rfl⟩
  obtain ⟨L, hL⟩ : ∃ L, M.length = L + 1 := ⟨M.length - 1, by omega⟩
  have HFI : Hid _ := hfin
  have HLN : Hid _ := hL
  have HBD : Hid (m ≤ 4000000 ∧ fin ≤ 1048576 ∧ k ≤ 1048576 ∧ L ≤ 4096) := by rw [hfin] at hk hf; exact ⟨by omega, by omega, by omega, by omega⟩
  have HR : Hid _ := hm
  clear hI hna hk hf hln hml hM hn
  unfold hdV
  go_enter Tryz.func70, Tryz.ntmps70
  go_wp2
  go_region
  obtain ⟨W1, hW1⟩ : ∃ W1, (W0.setCell ⟨rb, 1, none⟩ (.int .i64 ((k : Int) + (sz : Int)))).drew = W1 := ⟨_, rfl⟩
  rw [hW1]
  have HP1 : Hid (PR base rb bv W1 (k + sz) M (sp :: r) (.slice na M.length ncap) (.slice (some ⟨g, 0, none⟩) (r.length + 1) sc)) := by
    rw [← hW1]
    exact (HP0.out.setAt (k + sz)).on ((Below.refl _ _).drew)
  have HB1 : Hid (Below base w W1) := by
    rw [← hW1]
    exact (((hb0.mono HB.out).setCell (p := ⟨rb, 1, none⟩) HP0.out.hb _).drew)
  have HH1 : Hid (HC W1 w.heap.size v len sz (exI x)) := by
    rw [← hW1]
    exact (HC.on ⟨(Rp.cell_set_off hne).trans y0, (Rp.cell_set_off hne).trans y1, (Rp.cell_set_off hne).trans y2, (Rp.cell_set_off hne).trans y3⟩ ((Below.refl _ _).drew))
  clear hW1 c1 f1 y0 y1 y2 y3 HH HP0 hb0 hW0 W0
  obtain ⟨y0, y1, y2, y3⟩ := HH1.out
  obtain ⟨s0, s1, -⟩ := HP1.out.sc
  have c1 := HP1.out.c1
  have c2 := HP1.out.c2
  have c3 := HP1.out.c3
  rw [HLN.out] at c2
  rw [HFI.out, HR.out] at s1
  rw [HR.out] at c3
  have cI : ∀ W : World, W.cell? ⟨rb, 3, none⟩ = some (.slice (some ⟨g, 0, none⟩) (m + 1) sc) → Calls Tryz.prog 43 #[.pointer (some ⟨rb, 0, none⟩)] W fun e w' => e = .returned (.pointer (some ⟨g, m * 6, none⟩)) ∧ Below W.heap.size W w' := fun W h => inner_any W rb g m sc HBD.out.1 h
  have hw1 : IntKind.i64.wrap (L : Int) = (L : Int) := by rw [IntKind.wrap_i64]; have := HBD.out; omega
  have HNX : Hid (∀ W : World, (W.cell? ⟨rb, 3, none⟩).isSome = true → rb ≠ W.heap.size ∧ W.heap.size ≠ rb) := fun W h => by
    obtain ⟨z, hz⟩ := Option.isSome_iff_exists.1 h
    have := Rp.cell_lt hz
    exact ⟨Nat.ne_of_lt this, fun e => by rw [e] at this; exact Nat.lt_irrefl _ this⟩
  have c2a : ∀ o, (W1.alloc o).cell? ⟨rb, 2, none⟩ = some (.slice na (L + 1) ncap) := fun o => (((Below.refl _ W1).alloc (Nat.le_refl _) o).cell (Rp.cell_lt c2)).trans c2
  have c3a : ∀ o, (W1.alloc o).cell? ⟨rb, 3, none⟩ = some (.slice (some ⟨g, 0, none⟩) (m + 1) sc) := fun o => (((Below.refl _ W1).alloc (Nat.le_refl _) o).cell (Rp.cell_lt c3)).trans c3
  have y0a : ∀ o, (W1.alloc o).cell? ⟨w.heap.size, 0, none⟩ = some (.int .i64 v) := fun o => (((Below.refl _ W1).alloc (Nat.le_refl _) o).cell (Rp.cell_lt y0)).trans y0
  have y3a : ∀ o, (W1.alloc o).cell? ⟨w.heap.size, 3, none⟩ = some (.iface (exI x) (.agg #[])) := fun o => (((Below.refl _ W1).alloc (Nat.le_refl _) o).cell (Rp.cell_lt y3)).trans y3
  have cU : ∀ W : World, Below W1.heap.size W1 W → Calls Tryz.prog 43 #[.pointer (some ⟨rb, 0, none⟩)] W fun e w' => e = .returned (.pointer (some ⟨g, m * 6, none⟩)) ∧ Below W1.heap.size W1 w' ∧ (W1.heap.size < W.heap.size → ∀ i, w'.cell? ⟨W1.heap.size, i, none⟩ = W.cell? ⟨W1.heap.size, i, none⟩) ∧ (W1.heap.size < W.heap.size → ∀ i, w'.frozen? ⟨W1.heap.size, i, none⟩ = W.frozen? ⟨W1.heap.size, i, none⟩) := fun W hW => (cI W ((hW.cell (Rp.cell_lt c3)).trans c3)).mono fun _ _ h => ⟨h.1, hW.trans (h.2.mono hW.size), fun hl i => h.2.cell (p := ⟨W1.heap.size, i, none⟩) hl, fun hl i => h.2.frozen (p := ⟨W1.heap.size, i, none⟩) hl⟩
  clear cI
  have p1 : rb ≠ W1.heap.size := Nat.ne_of_lt (Rp.cell_lt c3)
  have p2 : W1.heap.size ≠ rb := fun h => p1 h.symm
  have p3 : g ≠ W1.heap.size := Nat.ne_of_lt (Rp.cell_lt s1)
  have p4 : W1.heap.size ≠ g := fun h => p3 h.symm
  have p5 : w.heap.size ≠ W1.heap.size := Nat.ne_of_lt (Rp.cell_lt y0)
  have p6 : W1.heap.size ≠ w.heap.size := fun h => p5 h.symm
  go_upto_region 2 with fail
  go_cut [4] from 5 (fun s4 wx => Hid (∃ B, s4 = .pointer (some ⟨B, 0, none⟩) ∧ W1.heap.size ≤ B ∧ Below W1.heap.size W1 wx ∧ SpC wx B (L : Int) fin true (v == 18) (exI x)))
  case first =>
    go_region_held3 (fun w' => w'.cell? ⟨rb, 2, none⟩ = some (.slice na (L + 1) ncap) ∧ w'.cell? ⟨rb, 3, none⟩ = some (.slice (some ⟨g, 0, none⟩) (m + 1) sc) ∧ w'.cell? ⟨g, m * 6 + 1, none⟩ = some (.int .i64 (fin : Int)) ∧ w'.cell? ⟨w.heap.size, 0, none⟩ = some (.int .i64 v) ∧ w'.cell? ⟨w.heap.size, 3, none⟩ = some (.iface (exI x) (.agg #[]))) (first | (go_keep; done) | exact ⟨u2, u3, us, v0, v3⟩ | exact ⟨a2 _, a3 _, asx _, a0 _, ay _⟩) (first | (go_at_call 43; refine Calls.mono (cU _ (by first | exact (Below.refl _ _).drew | exact ((Below.refl _ _).alloc (Nat.le_refl _) _).drew)) ?_; rintro e W2 ⟨rfl, hX, hq, hqf⟩; have u2 := (hX.cell (Rp.cell_lt c2)).trans c2; have u3 := (hX.cell (Rp.cell_lt c3)).trans c3; have us := (hX.cell (Rp.cell_lt s1)).trans s1; have v0 := (hX.cell (Rp.cell_lt y0)).trans y0; have v3 := (hX.cell (Rp.cell_lt y3)).trans y3; have a2 := (fun o => ((hX.alloc hX.size o).cell (Rp.cell_lt c2)).trans c2); have a3 := (fun o => ((hX.alloc hX.size o).cell (Rp.cell_lt c3)).trans c3); have asx := (fun o => ((hX.alloc hX.size o).cell (Rp.cell_lt s1)).trans s1); have a0 := (fun o => ((hX.alloc hX.size o).cell (Rp.cell_lt y0)).trans y0); have ay := (fun o => ((hX.alloc hX.size o).cell (Rp.cell_lt y3)).trans y3)))
    · go_wp2
      go_meet
      case rel => exact ⟨W2.heap.size, rfl, hX.size, hX.alloc hX.size _, SpC.new W2 _ _ _ _ _⟩
    · obtain ⟨n0, n1, n2, n3, n4, n5, nf⟩ := NewZ' hq hqf
      have hY := (((((hX.setCell (p := ⟨W1.heap.size, 0, none⟩) (Nat.le_refl _) (.int .i64 (L : Int))).setCell (p := ⟨W1.heap.size, 1, none⟩) (Nat.le_refl _) (.int .i64 (fin : Int))).setCell (p := ⟨W1.heap.size, 2, none⟩) (Nat.le_refl _) (.bool true)).setCell (p := ⟨W1.heap.size, 3, none⟩) (Nat.le_refl _) (.bool (v == 18))).setCell (p := ⟨W1.heap.size, 4, none⟩) (Nat.le_refl _) (.iface (exI x) (.agg #[]))).setCell (p := ⟨W1.heap.size, 5, none⟩) (Nat.le_refl _) (.int .u32 0)
      have hZ := set6 n0 n1 n2 n3 n4 n5 nf (L : Int) fin true (v == 18) (exI x)
      clear n0 n1 n2 n3 n4 n5 nf hq hqf
      go_wp2
      go_meet
      case rel => exact ⟨W1.heap.size, rfl, Nat.le_refl _, hY, hZ⟩
  case rest =>
    obtain ⟨B, rfl, hBl, hbc, hsc⟩ := hcut.out
    have HPc : Hid _ := HP1.out.on hbc
    have HBc : Hid (Below base w wc) := HB1.out.trans (hbc.mono HP1.out.lt)
    have HSc : Hid _ := hsc
    have hl1 := (HH1.out.on hbc).h1
    have c1c : wc.cell? ⟨rb, 1, none⟩ = some (.int .i64 ((k + sz : Nat) : Int)) := HPc.out.c1
    have q1 : rb ≠ B := by have := Rp.cell_lt c3; have h : rb < W1.heap.size := this; omega
    have q2 : B ≠ rb := fun h => q1 h.symm
    have q3 : w.heap.size ≠ B := by have := Rp.cell_lt y0; have h : w.heap.size < W1.heap.size := this; omega
    have q4 : B ≠ w.heap.size := fun h => q3 h.symm
    have HBB : Hid (base ≤ B) := Nat.le_trans HP1.out.lt hBl
    have HBR : Hid (∀ a b : Value, Below W1.heap.size W1 ((wc.setCell ⟨B, 1, none⟩ a).setCell ⟨B, 2, none⟩ b)) := fun a b => (hbc.setCell (p := ⟨B, 1, none⟩) hBl a).setCell (p := ⟨B, 2, none⟩) hBl b
    clear hcut hsc c2 c3 c2a c3a y0a y3a y0 y1 y2 y3 s0 s1 c1 cU HH1 p1 p2 p3 p4 p5 p6 HB1
    by_cases hu : len = und
    · have b1 : ((len : Int) != 4294967295) = false := by rw [hu]; rfl
      have HU : Hid (len = und) := hu
      clear hu
      go_wp2
      obtain ⟨i0, hi, hz0, hz1, hz2⟩ := info_parts info112
      have HS5 : Hid (spOf M sp.fin (k + sz) v len x = ⟨some L, fin, true, (v == 18), x, 0⟩) := by
        show _ = _
        unfold spOf
        rw [HLN.out, HFI.out, if_pos HU.out, decide_eq_true HU.out]
        rfl
      have HW4 : Hid (∀ (X W4 : World) (g4 c4 : Nat), Below wc.heap.size wc X → X.grownBy W4 (Value.slice (some ⟨g, 0, none⟩) (m + 1) sc).ownBlock → W4.ownsRow base 103 6 (.slice (some ⟨g4, 0, none⟩) (m + 1 + 1) c4) (m + 1 + 1) (spc (sp :: r) ++ [.int .i64 (L : Int), .int .i64 (fin : Nat), .bool true, .bool (v == 18), .iface (exI x) (.agg #[]), .int .u32 0]) →
          W4.cell? ⟨rb, 3, none⟩ = some (.slice (some ⟨g, 0, none⟩) (m + 1) sc) ∧ W4.frozen? ⟨rb, 3, none⟩ = false ∧ PR base rb bv (W4.setCell ⟨rb, 3, none⟩ (.slice (some ⟨g4, 0, none⟩) (m + 1 + 1) c4)) (k + sz) M (spOf M sp.fin (k + sz) v len x :: sp :: r) (.slice na M.length ncap) (.slice (some ⟨g4, 0, none⟩) (m + 1 + 1) c4) ∧ Below base w (W4.setCell ⟨rb, 3, none⟩ (.slice (some ⟨g4, 0, none⟩) (m + 1 + 1) c4))) := by
        intro X W4 g4 c4 hX hg ho
        have hPX := HPc.out.on hX
        rw [HR.out] at hPX
        have hn' : W4.ownsRow base 103 6 (.slice (some ⟨g4, 0, none⟩) (m + 1 + 1) c4) (spOf M sp.fin (k + sz) v len x :: sp :: r).length (spc (spOf M sp.fin (k + sz) v len x :: sp :: r)) := by
          rw [HS5.out, spc_cons, List.length_cons, List.length_cons, HR.out]
          show W4.ownsRow base 103 6 _ _ (spc (sp :: r) ++ [nodeV (some L), _, _, _, exV x, _])
          rw [exV_eq]
          exact ho
        obtain ⟨a, b, c⟩ := hPX.grownS hg hn'
        have hbx : Below base w X := HBc.out.trans (hX.mono HPc.out.lt)
        exact ⟨a, b, c, (hbx.trans (below_grown hPX.sp hg hPX.lt)).setCell (p := ⟨rb, 3, none⟩) hPX.hb _⟩
      have HO : Hid (∀ o, (wc.alloc o).ownsRow base 103 6 (.slice (some ⟨g, 0, none⟩) (m + 1) sc) (m + 1) (spc (sp :: r))) := fun o => by
        have := HPc.out.sp
        rw [List.length_cons, HR.out] at this
        exact World.ownsRow.alloc this o
      have HBS : Hid (∀ o, base ≤ (wc.alloc o).heap.size) := fun o => Nat.le_trans HPc.out.lt (by simp)
      have h63 : m + 1 + 1 ≤ maxLen := by have := HBD.out.1; unfold maxLen; omega
      have hby : (m + 1 + 1) * 48 ≤ 140737488355328 := by have := HBD.out.1; omega
      have c33 : wc.cell? ⟨rb, 3, none⟩ = some (.slice (some ⟨g, 0, none⟩) (m + 1) sc) := by have := HPc.out.c3; rw [HR.out] at this; exact this
      have c3b : ∀ o, (wc.alloc o).cell? ⟨rb, 3, none⟩ = some (.slice (some ⟨g, 0, none⟩) (m + 1) sc) := fun o => (((Below.refl _ wc).alloc (Nat.le_refl _) o).cell (Rp.cell_lt c33)).trans c33
      obtain ⟨z0, z1, z2, z3, z4, z5, zf⟩ := HSc.out
      clear HPc HSc HBc HBR hbc hl1 c1c HP1
      go_region_law (go_loud (refine step_append_lies _ rfl (.tmp 48) (.tmp 50) 104 rfl base 103 i0 _ 6 48 Tryz.underlying104 hi hz0 hz1 hz2 rfl (by decide) (.slice (some ⟨g, 0, none⟩) (m + 1) sc) (m + 1) (spc (sp :: r)) (by simp [Act.eval]) (HO.out _) ⟨wc.heap.size, 0, none⟩ 1 1 [.int .i64 (L : Int), .int .i64 (fin : Nat), .bool true, .bool (v == 18), .iface (exI x) (.agg #[]), .int .u32 0] (by simp [Act.eval]) rfl (World.news_of_block (heap_alloc_new wc _)) (by intro u hu; simp at hu; rcases hu with rfl | rfl | rfl | rfl | rfl | rfl <;> rfl) (by decide) h63 hby (HBS.out _) _ rfl ?_; intro g4 c4 W4 hown4 hgrow4 hat4 hlt4; obtain ⟨q2, f2, HPN, HBN⟩ := HW4.out _ W4 g4 c4 (((Below.refl _ wc).alloc (Nat.le_refl _) _).drew) hgrow4 hown4; clear hown4 hgrow4 hat4 hlt4))
      all_goals exact bodyPost_end (results_none rfl _ _ _) rfl ⟨rfl, ⟨_, HPN⟩, HBN⟩
    · have b1 : ((len : Int) != 4294967295) = true := bne_iff_ne.2 (by unfold und at hu; omega)
      have HU : Hid (len ≠ und) := hu
      have w1 : IntKind.i64.wrap (len : Int) = (len : Int) := by rw [IntKind.wrap_i64]; omega
      have w2 : IntKind.i64.wrap (((k + sz : Nat) : Int) + (len : Int)) = ((k + sz + len : Nat) : Int) := by rw [IntKind.wrap_i64]; have := HBD.out; omega
      obtain ⟨z0, z1, z2, z3, z4, z5, zf⟩ := HSc.out
      clear hu
      go_wp2
      go_region
      have w3 : wrap64 ((k : Int) + (sz : Int) + (len : Int)) = ((k + sz + len : Nat) : Int) := by unfold wrap64; have := HBD.out; omega
      rw [w3]
      obtain ⟨W5, hW5⟩ : ∃ W5, ((wc.setCell ⟨B, 1, none⟩ (.int .i64 ((k + sz + len : Nat) : Int))).setCell ⟨B, 2, none⟩ (.bool false)).drew = W5 := ⟨_, rfl⟩
      rw [hW5]
      have HP5 : Hid (PR base rb bv W5 (k + sz) M (sp :: r) (.slice na M.length ncap) (.slice (some ⟨g, 0, none⟩) (r.length + 1) sc)) := by rw [← hW5]; exact HP1.out.on ((HBR.out _ _).drew)
      have HB5 : Hid (Below base w W5) := by rw [← hW5]; exact ((HBc.out.setCell (p := ⟨B, 1, none⟩) HBB.out _).setCell (p := ⟨B, 2, none⟩) HBB.out _).drew
      have HS6 : Hid (SpC W5 B (L : Int) (k + sz + len) false (v == 18) (exI x)) := by rw [← hW5]; exact (HSc.out.shut (k + sz + len)).drew
      clear hW5 z0 z1 z2 z3 z4 z5 zf HPc HSc HBc HBR hbc hl1 c1c HP1 w2 w3
      go_wp2
      obtain ⟨i0, hi, hz0, hz1, hz2⟩ := info_parts info112
      have HS5 : Hid (spOf M sp.fin (k + sz) v len x = ⟨some L, k + sz + len, false, (v == 18), x, 0⟩) := by
        show _ = _
        unfold spOf
        rw [HLN.out, HFI.out, if_neg HU.out, decide_eq_false HU.out]
        rfl
      have HW4 : Hid (∀ (X W4 : World) (g4 c4 : Nat), Below W5.heap.size W5 X → X.grownBy W4 (Value.slice (some ⟨g, 0, none⟩) (m + 1) sc).ownBlock → W4.ownsRow base 103 6 (.slice (some ⟨g4, 0, none⟩) (m + 1 + 1) c4) (m + 1 + 1) (spc (sp :: r) ++ [.int .i64 (L : Int), .int .i64 ((k + sz + len : Nat) : Int), .bool false, .bool (v == 18), .iface (exI x) (.agg #[]), .int .u32 0]) →
          W4.cell? ⟨rb, 3, none⟩ = some (.slice (some ⟨g, 0, none⟩) (m + 1) sc) ∧ W4.frozen? ⟨rb, 3, none⟩ = false ∧ PR base rb bv (W4.setCell ⟨rb, 3, none⟩ (.slice (some ⟨g4, 0, none⟩) (m + 1 + 1) c4)) (k + sz) M (spOf M sp.fin (k + sz) v len x :: sp :: r) (.slice na M.length ncap) (.slice (some ⟨g4, 0, none⟩) (m + 1 + 1) c4) ∧ Below base w (W4.setCell ⟨rb, 3, none⟩ (.slice (some ⟨g4, 0, none⟩) (m + 1 + 1) c4))) := by
        intro X W4 g4 c4 hX hg ho
        have hPX := HP5.out.on hX
        rw [HR.out] at hPX
        have hn' : W4.ownsRow base 103 6 (.slice (some ⟨g4, 0, none⟩) (m + 1 + 1) c4) (spOf M sp.fin (k + sz) v len x :: sp :: r).length (spc (spOf M sp.fin (k + sz) v len x :: sp :: r)) := by
          rw [HS5.out, spc_cons, List.length_cons, List.length_cons, HR.out]
          show W4.ownsRow base 103 6 _ _ (spc (sp :: r) ++ [nodeV (some L), _, _, _, exV x, _])
          rw [exV_eq]
          exact ho
        obtain ⟨a, b, c⟩ := hPX.grownS hg hn'
        have hbx : Below base w X := HB5.out.trans (hX.mono HP5.out.lt)
        exact ⟨a, b, c, (hbx.trans (below_grown hPX.sp hg hPX.lt)).setCell (p := ⟨rb, 3, none⟩) hPX.hb _⟩
      have HO : Hid (∀ o, (W5.alloc o).ownsRow base 103 6 (.slice (some ⟨g, 0, none⟩) (m + 1) sc) (m + 1) (spc (sp :: r))) := fun o => by
        have := HP5.out.sp
        rw [List.length_cons, HR.out] at this
        exact World.ownsRow.alloc this o
      have HBS : Hid (∀ o, base ≤ (W5.alloc o).heap.size) := fun o => Nat.le_trans HP5.out.lt (by simp)
      have h63 : m + 1 + 1 ≤ maxLen := by have := HBD.out.1; unfold maxLen; omega
      have hby : (m + 1 + 1) * 48 ≤ 140737488355328 := by have := HBD.out.1; omega
      have c33 : W5.cell? ⟨rb, 3, none⟩ = some (.slice (some ⟨g, 0, none⟩) (m + 1) sc) := by have := HP5.out.c3; rw [HR.out] at this; exact this
      have c3b : ∀ o, (W5.alloc o).cell? ⟨rb, 3, none⟩ = some (.slice (some ⟨g, 0, none⟩) (m + 1) sc) := fun o => (((Below.refl _ W5).alloc (Nat.le_refl _) o).cell (Rp.cell_lt c33)).trans c33
      obtain ⟨z0, z1, z2, z3, z4, z5, zf⟩ := HS6.out
      clear HP5 HS6 HB5
      go_region_law (go_loud (refine step_append_lies _ rfl (.tmp 48) (.tmp 50) 104 rfl base 103 i0 _ 6 48 Tryz.underlying104 hi hz0 hz1 hz2 rfl (by decide) (.slice (some ⟨g, 0, none⟩) (m + 1) sc) (m + 1) (spc (sp :: r)) (by simp [Act.eval]) (HO.out _) ⟨W5.heap.size, 0, none⟩ 1 1 [.int .i64 (L : Int), .int .i64 ((k + sz + len : Nat) : Int), .bool false, .bool (v == 18), .iface (exI x) (.agg #[]), .int .u32 0] (by simp [Act.eval]) rfl (World.news_of_block (heap_alloc_new W5 _)) (by intro u hu; simp at hu; rcases hu with rfl | rfl | rfl | rfl | rfl | rfl <;> rfl) (by decide) h63 hby (HBS.out _) _ rfl ?_; intro g4 c4 W4 hown4 hgrow4 hat4 hlt4; obtain ⟨q2, f2, HPN, HBN⟩ := HW4.out _ W4 g4 c4 (((Below.refl _ W5).alloc (Nat.le_refl _) _).drew) hgrow4 hown4; clear hown4 hgrow4 hat4 hlt4))
      all_goals exact bodyPost_end (results_none rfl _ _ _) rfl ⟨rfl, ⟨_, HPN⟩, HBN⟩
end Go.Proofs.YtfoodjhffehgpaaGreatDoor
