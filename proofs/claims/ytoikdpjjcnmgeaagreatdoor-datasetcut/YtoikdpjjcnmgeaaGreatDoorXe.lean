import Derived.Test.YtoikdpjjcnmgeaaGreatDoorBn
import Derived.Test.YtoikdpjjcnmgeaaGreatDoorEc
section
/-
  DERIVED. The document's reader: numbers and tags.
-/
namespace Go.Proofs.YtoikdpjjcnmgeaaGreatDoor
open Go Go.Proofs Go.RowKit
open Wk (Nd nds)
open Go.Sort

theorem or64 (a b k : Nat) (ha : a < 2 ^ k) (hb : b * 2 ^ k < 18446744073709551616) (ha2 : a < 18446744073709551616) : bits .or .u64 (a : Int) ((b : Int) * (2 ^ k : Nat)) = ((a + b * 2 ^ k : Nat) : Int) := by
  have := u64_or_nat a (b * 2 ^ k) ha2 hb
  rw [or_low k ha] at this
  rw [← this]
  congr 1
theorem or64_8 (a x : Nat) (h : a < 256) (hx : x < 256) : bits .or .u64 (a : Int) ((x : Int) * 256) = ((a + 256 * x : Nat) : Int) := by
  have := or64 a x 8 h (by omega) (by omega)
  rw [show ((2 ^ 8 : Nat) : Int) = 256 from rfl] at this
  rw [this]; congr 1; omega
theorem or64_16 (a x : Nat) (h : a < 65536) (hx : x < 65536) : bits .or .u64 (a : Int) ((x : Int) * 65536) = ((a + 65536 * x : Nat) : Int) := by
  have := or64 a x 16 h (by omega) (by omega)
  rw [show ((2 ^ 16 : Nat) : Int) = 65536 from rfl] at this
  rw [this]; congr 1; omega
theorem or64_T (a b : Nat) (ha : a < 65536) (hb : b < 65536) : bits .or .u64 ((a : Int) * 65536) (b : Int) = ((a * 65536 + b : Nat) : Int) := by
  have := u64_or_nat (a * 65536) b (by omega) (by omega)
  rw [Nat.or_comm, show (65536 : Nat) = 2 ^ 16 from rfl, or_low 16 hb] at this
  rw [show ((a : Int) * 65536) = ((a * 2 ^ 16 : Nat) : Int) by simp, this]
  congr 1; omega

set_option maxRecDepth 100000 in
set_option maxHeartbeats 2000000 in
theorem ru16_any (w : World) (rb b off n cap k : Nat) (ys : List UInt8) (hk : k + 2 ≤ n) (hs : n ≤ 1048576) (c0 : w.cell? ⟨rb, 0, none⟩ = some (.slice (some ⟨b, off, none⟩) n cap)) (h0 : w.cell? ⟨b, off + k, none⟩ = some (.int .u8 (gB ys k : Int))) (h1 : w.cell? ⟨b, off + (k + 1), none⟩ = some (.int .u8 (gB ys (k + 1) : Int))) :
    Calls Tryz.prog 104 #[.pointer (some ⟨rb, 0, none⟩), .int .i64 (k : Int)] w fun e w' => e = .returned (.int .u64 (u16S ys k : Int)) ∧ Below w.heap.size w w' := by
  have HO : Hid _ := or64_8 (gB ys k) (gB ys (k + 1)) (gB_lt _ _) (gB_lt _ _)
  have e : gB ys k + 256 * gB ys (k + 1) = u16S ys k := rfl
  rw [e] at HO
  have l0 := gB_lt ys k
  have l1 := gB_lt ys (k + 1)
  generalize gB ys k = x0 at h0 HO l0
  generalize gB ys (k + 1) = x1 at h1 HO l1
  generalize u16S ys k = R at HO ⊢
  have hw : IntKind.i64.wrap ((k : Int) + 1) = (k : Int) + 1 := by rw [IntKind.wrap_i64]; omega
  have i0 : (k : Int) < (n : Int) := by omega
  have i1 : (k : Int) + 1 < (n : Int) := by omega
  have i2 : (0 : Int) ≤ (k : Int) + 1 := by omega
  have h1' : w.cell? ⟨b, off + k + 1, none⟩ = some (.int .u8 (x1 : Int)) := by rw [Nat.add_assoc]; exact h1
  have k0 := fun d os => cell_regrown c0 d os
  have k1 := fun d os => cell_regrown h0 d os
  have k2 := fun d os => cell_regrown h1 d os
  have k3 := fun d os => cell_regrown h1' d os
  clear e
  go_enter Tryz.func104, Tryz.ntmps104
  go_wp2
  refine wp_region_quiet_below hmix (by kernel_rfl) ?_
  repeat (quiet_step (fail))
  refine wpQuiet_nil ?_
  intro _ hw'
  obtain ⟨⟨dq, osq⟩, hw''⟩ := hw'
  subst hw''
  go_wp2
  go_ret
  refine ⟨?_, below_regrown _ _ _⟩
  show Ending.returned (.int .u64 (bits .or .u64 (IntKind.u64.wrap (x0 : Int)) (IntKind.u64.wrap (IntKind.u64.wrap (x1 : Int) * 256)))) = _
  rw [show IntKind.u64.wrap (x0 : Int) = (x0 : Int) by rw [IntKind.wrap_u64]; omega, show IntKind.u64.wrap (x1 : Int) = (x1 : Int) by rw [IntKind.wrap_u64]; omega, show IntKind.u64.wrap ((x1 : Int) * 256) = (x1 : Int) * 256 by rw [IntKind.wrap_u64]; omega, HO.out]
set_option maxRecDepth 100000 in
set_option maxHeartbeats 2000000 in
theorem ru32_any (w : World) (rb b off n cap k : Nat) (ys : List UInt8) (hk : k + 4 ≤ n) (hs : n ≤ 1048576) (c0 : w.cell? ⟨rb, 0, none⟩ = some (.slice (some ⟨b, off, none⟩) n cap)) (hb : ∀ j, j < n → w.cell? ⟨b, off + j, none⟩ = some (.int .u8 (gB ys j : Int))) :
    Calls Tryz.prog 63 #[.pointer (some ⟨rb, 0, none⟩), .int .i64 (k : Int)] w fun e w' => e = .returned (.int .u64 (numS ys k : Int)) ∧ Below w.heap.size w w' := by
  have cA : Hid (∀ W, Below w.heap.size w W → Calls Tryz.prog 104 #[.pointer (some ⟨rb, 0, none⟩), .int .i64 (k : Int)] W fun e w' => e = .returned (.int .u64 (u16S ys k : Int)) ∧ Below W.heap.size W w') := fun W hW => ru16_any W rb b off n cap k ys (by omega) hs ((hW.cell (Rp.cell_lt c0)).trans c0) ((hW.cell (Rp.cell_lt (hb k (by omega)))).trans (hb k (by omega))) ((hW.cell (Rp.cell_lt (hb (k + 1) (by omega)))).trans (hb (k + 1) (by omega)))
  have cB : Hid (∀ W, Below w.heap.size w W → Calls Tryz.prog 104 #[.pointer (some ⟨rb, 0, none⟩), .int .i64 ((k : Int) + 2)] W fun e w' => e = .returned (.int .u64 (u16S ys (k + 2) : Int)) ∧ Below W.heap.size W w') := fun W hW => ru16_any W rb b off n cap (k + 2) ys (by omega) hs ((hW.cell (Rp.cell_lt c0)).trans c0) ((hW.cell (Rp.cell_lt (hb (k + 2) (by omega)))).trans (hb (k + 2) (by omega))) ((hW.cell (Rp.cell_lt (hb (k + 2 + 1) (by omega)))).trans (hb (k + 2 + 1) (by omega)))
  have l0 := u16S_lt ys k
  have l1 := u16S_lt ys (k + 2)
  have HO : Hid _ := or64_16 (u16S ys k) (u16S ys (k + 2)) l0 l1
  have e : u16S ys k + 65536 * u16S ys (k + 2) = numS ys k := rfl
  rw [e] at HO
  have hR : numS ys k < 4294967296 := by rw [← e]; omega
  generalize u16S ys k = A at cA HO l0 e
  generalize u16S ys (k + 2) = B at cB HO l1 e
  generalize numS ys k = R at HO hR e ⊢
  have hw : IntKind.i64.wrap ((k : Int) + 2) = (k : Int) + 2 := by rw [IntKind.wrap_i64]; omega
  have w1 : IntKind.u64.wrap ((B : Int) * 65536) = (B : Int) * 65536 := by rw [IntKind.wrap_u64]; omega
  have HW : Hid (IntKind.u32.wrap (R : Int) = (R : Int)) := by show _ = _; rw [IntKind.wrap_u32]; omega
  clear e hb
  go_enter Tryz.func63, Tryz.ntmps63
  go_wp2_with (go_at_call 104; refine StopV.out ?_)
  refine ⟨Calls.mono (cA.out _ (Below.refl _ _)) ?_⟩
  rintro e W1 ⟨rfl, hb1⟩
  go_wp2_with (go_at_call 104; refine StopV.out ?_)
  refine ⟨Calls.mono (cB.out _ hb1) ?_⟩
  rintro e W2 ⟨rfl, hb2⟩
  have HO2 := HO.out
  have HW2 := HW.out
  go_wp2
  go_ret
  exact ⟨rfl, hb1.trans (hb2.mono hb1.size)⟩
set_option maxRecDepth 100000 in
set_option maxHeartbeats 2000000 in
theorem rtag_any (w : World) (rb b off n cap k : Nat) (ys : List UInt8) (hk : k + 4 ≤ n) (hs : n ≤ 1048576) (c0 : w.cell? ⟨rb, 0, none⟩ = some (.slice (some ⟨b, off, none⟩) n cap)) (hb : ∀ j, j < n → w.cell? ⟨b, off + j, none⟩ = some (.int .u8 (gB ys j : Int))) :
    Calls Tryz.prog 62 #[.pointer (some ⟨rb, 0, none⟩), .int .i64 (k : Int)] w fun e w' => e = .returned (.int .u32 (tagS ys k : Int)) ∧ Below w.heap.size w w' := by
  have cA : Hid (∀ W, Below w.heap.size w W → Calls Tryz.prog 104 #[.pointer (some ⟨rb, 0, none⟩), .int .i64 (k : Int)] W fun e w' => e = .returned (.int .u64 (u16S ys k : Int)) ∧ Below W.heap.size W w') := fun W hW => ru16_any W rb b off n cap k ys (by omega) hs ((hW.cell (Rp.cell_lt c0)).trans c0) ((hW.cell (Rp.cell_lt (hb k (by omega)))).trans (hb k (by omega))) ((hW.cell (Rp.cell_lt (hb (k + 1) (by omega)))).trans (hb (k + 1) (by omega)))
  have cB : Hid (∀ W, Below w.heap.size w W → Calls Tryz.prog 104 #[.pointer (some ⟨rb, 0, none⟩), .int .i64 ((k : Int) + 2)] W fun e w' => e = .returned (.int .u64 (u16S ys (k + 2) : Int)) ∧ Below W.heap.size W w') := fun W hW => ru16_any W rb b off n cap (k + 2) ys (by omega) hs ((hW.cell (Rp.cell_lt c0)).trans c0) ((hW.cell (Rp.cell_lt (hb (k + 2) (by omega)))).trans (hb (k + 2) (by omega))) ((hW.cell (Rp.cell_lt (hb (k + 2 + 1) (by omega)))).trans (hb (k + 2 + 1) (by omega)))
  have l0 := u16S_lt ys k
  have l1 := u16S_lt ys (k + 2)
  have HO : Hid _ := or64_T (u16S ys k) (u16S ys (k + 2)) l0 l1
  have e : u16S ys k * 65536 + u16S ys (k + 2) = tagS ys k := rfl
  rw [e] at HO
  have hR : tagS ys k < 4294967296 := by rw [← e]; omega
  generalize u16S ys k = A at cA HO l0 e
  generalize u16S ys (k + 2) = B at cB HO l1 e
  generalize tagS ys k = R at HO hR e ⊢
  have hw : IntKind.i64.wrap ((k : Int) + 2) = (k : Int) + 2 := by rw [IntKind.wrap_i64]; omega
  have w1 : IntKind.u64.wrap ((A : Int) * 65536) = (A : Int) * 65536 := by rw [IntKind.wrap_u64]; omega
  have HW : Hid (IntKind.u32.wrap (R : Int) = (R : Int)) := by show _ = _; rw [IntKind.wrap_u32]; omega
  clear e hb
  go_enter Tryz.func62, Tryz.ntmps62
  go_wp2_with (go_at_call 104; refine StopV.out ?_)
  refine ⟨Calls.mono (cA.out _ (Below.refl _ _)) ?_⟩
  rintro e W1 ⟨rfl, hb1⟩
  go_wp2_with (go_at_call 104; refine StopV.out ?_)
  refine ⟨Calls.mono (cB.out _ hb1) ?_⟩
  rintro e W2 ⟨rfl, hb2⟩
  have HO2 := HO.out
  have HW2 := HW.out
  go_wp2
  go_ret
  exact ⟨rfl, hb1.trans (hb2.mono hb1.size)⟩
end Go.Proofs.YtoikdpjjcnmgeaaGreatDoor
end

section
/-
  DERIVED. The document's reader: which tags are barred.
-/
namespace Go.Proofs.YtoikdpjjcnmgeaaGreatDoor
open Go Go.Proofs Go.RowKit
open Wk (Nd nds)
open Go.Sort

set_option maxRecDepth 100000 in
theorem barred_any (w : World) (t : Nat) : Calls Tryz.prog 64 #[.int .u32 (t : Int)] w fun e w' => e = .returned (.bool (isBar t)) ∧ w = w' := by
  obtain ⟨R, hR⟩ : ∃ R, isBar t = R := ⟨_, rfl⟩
  have HR : Hid _ := hR
  rw [hR]
  unfold isBar at HR
  clear hR
  by_cases h0 : t / 65536 = 0
  · have b0 : ((t : Int) / 65536 == 0) = true := beq_iff_eq.2 (by omega)
    have HR1 : Hid (R = true) := by show _ = _; rw [← HR.out]; simp [h0]
    clear HR h0
    go_enter Tryz.func64, Tryz.ntmps64
    go_wp2
    go_ret
    exact ⟨by rw [HR1.out]; rfl, rfl⟩
  have b0 : ((t : Int) / 65536 == 0) = false := beq_eq_false_iff_ne.2 (by omega)
  by_cases h2 : t / 65536 = 2
  · have b2 : ((t : Int) / 65536 == 2) = true := beq_iff_eq.2 (by omega)
    have HR1 : Hid (R = true) := by show _ = _; rw [← HR.out]; simp [h2]
    clear HR h0 h2
    go_enter Tryz.func64, Tryz.ntmps64
    go_wp2
    go_ret
    exact ⟨by rw [HR1.out]; rfl, rfl⟩
  have b2 : ((t : Int) / 65536 == 2) = false := beq_eq_false_iff_ne.2 (by omega)
  by_cases h3 : t / 65536 = 65534
  · have b3 : ((t : Int) / 65536 == 65534) = true := beq_iff_eq.2 (by omega)
    have HR1 : Hid (R = true) := by show _ = _; rw [← HR.out]; simp [h3]
    clear HR h0 h2 h3
    go_enter Tryz.func64, Tryz.ntmps64
    go_wp2
    go_ret
    exact ⟨by rw [HR1.out]; rfl, rfl⟩
  have b3 : ((t : Int) / 65536 == 65534) = false := beq_eq_false_iff_ne.2 (by omega)
  have HR1 : Hid (R = ((t : Int) / 65536 == 65535)) := by
    show _ = _
    rw [← HR.out, show ((t : Int) / 65536 == 65535) = decide ((t : Int) / 65536 = 65535) from rfl]
    simp only [h0, h2, h3, decide_false, Bool.false_or]
    exact decide_eq_decide.2 (by omega)
  clear HR h0 h2 h3
  go_enter Tryz.func64, Tryz.ntmps64
  go_wp2
  go_ret
  exact ⟨by rw [HR1.out]; rfl, rfl⟩

end Go.Proofs.YtoikdpjjcnmgeaaGreatDoor
end

section
/-
  DERIVED. The document's reader: a fault laid down.
-/
namespace Go.Proofs.YtoikdpjjcnmgeaaGreatDoor
open Go Go.Proofs Go.RowKit
open Wk (Nd nds)
open Go.Sort

set_option maxRecDepth 100000 in
theorem newD_any (c at' : Int) (w : World) : Calls Tryz.prog 36 #[.string { data := #[100, 97, 116, 97, 115, 101, 116] }, .int .i64 at', .int .i64 c] w fun e w' => ∃ g, e = .returned (.agg #[.slice (some ⟨g, 0, none⟩) 1 1, .int .i64 c]) ∧ Hid (LkAt w' g [(dsB, at')]) ∧ Hid (w.heap.size ≤ g) ∧ Hid (Below w.heap.size w w') := by
  go_enter Tryz.func36, Tryz.ntmps36
  go_wp2
  refine bodyPost_ret (v := .agg #[.slice (some ⟨w.heap.size + 1, 0, none⟩) 1 1, .int .i64 c]) (by simp [results, Tryz.results36, go_sem]) rfl ⟨w.heap.size + 1, rfl, ?_, Nat.le_succ _, ((Below.refl _ _).alloc (Nat.le_refl _) _).alloc (by simp) _⟩
  intro i hi
  match i, hi with
  | 0, _ => exact ⟨by simp [dsB], by simp⟩
end Go.Proofs.YtoikdpjjcnmgeaaGreatDoor
end

section
/-
  DERIVED. The document's reader in memory.
-/
namespace Go.Proofs.YtoikdpjjcnmgeaaGreatDoor
open Go Go.Proofs Go.RowKit
open Wk (Nd nds)
open Go.Sort

/-- The reader: its bytes, its nodes, its fault. -/
structure DR (base rb : Nat) (bv : Value) (W : World) (M : List Nd) (nv lv : Value) (c : Int) : Prop where
  c0 : W.cell? ⟨rb, 0, none⟩ = some bv
  c1 : W.cell? ⟨rb, 1, none⟩ = some nv
  c2 : W.cell? ⟨rb, 2, none⟩ = some lv
  c3 : W.cell? ⟨rb, 3, none⟩ = some (.int .i64 c)
  fz : ∀ i, W.frozen? ⟨rb, i, none⟩ = false
  ty : ∃ cs, W.heap[rb]? = some (.cells cs 79)
  nd : W.ownsRow base 54 4 nv M.length (nds M)
  hb : base ≤ rb
theorem DR.on {base rb : Nat} {bv nv lv : Value} {c : Int} {W W' : World} {M : List Nd} (h : DR base rb bv W M nv lv c) (hb : Below W.heap.size W W') : DR base rb bv W' M nv lv c :=
  ⟨(hb.cell (Rp.cell_lt h.c0)).trans h.c0, (hb.cell (Rp.cell_lt h.c1)).trans h.c1, (hb.cell (Rp.cell_lt h.c2)).trans h.c2, (hb.cell (Rp.cell_lt h.c3)).trans h.c3, fun i => (hb.frozen (p := ⟨rb, i, none⟩) (show rb < _ from Rp.cell_lt h.c0)).trans (h.fz i), by
    obtain ⟨cs, e⟩ := h.ty
    exact ⟨cs, (hb.block rb (Rp.cell_lt h.c0)).trans e⟩, Wk.ownsRow_below h.nd hb (Nat.le_refl _), h.hb⟩
/-- Two cells of the reader are written over. -/
theorem DR.fault {base rb : Nat} {bv nv lv : Value} {c : Int} {W : World} {M : List Nd} (h : DR base rb bv W M nv lv c) (l2 : Value) (c2 : Int) : DR base rb bv ((W.setCell ⟨rb, 2, none⟩ l2).setCell ⟨rb, 3, none⟩ (.int .i64 c2)) M nv l2 c2 := by
  obtain ⟨cs, ht⟩ := h.ty
  have hk : ∀ (X : World) (i : Nat) (x : Value), (∃ cs, X.heap[rb]? = some (Obj.cells cs 79)) → ∀ (g : Nat) (cur : Array Value), X.heap[g]? = some (Obj.cells cur 54) → (X.setCell ⟨rb, i, none⟩ x).heap[g]? = X.heap[g]? := fun X i x hX g cur hg => heap_setCell_other X ⟨rb, i, none⟩ g x (fun hc => by
    have hc : g = rb := hc
    obtain ⟨cs, ht⟩ := hX
    rw [hc, ht] at hg
    cases hg)
  have t1 := ty_set (i := 2) (v := l2) h.ty
  exact ⟨(Rp.cell_set_ne (by simp)).trans ((Rp.cell_set_ne (by simp)).trans h.c0), (Rp.cell_set_ne (by simp)).trans ((Rp.cell_set_ne (by simp)).trans h.c1),
    (Rp.cell_set_ne (by simp)).trans (Rp.cell_set_eq h.c2), Rp.cell_set_eq ((Rp.cell_set_ne (by simp)).trans h.c3), fun i => by simpa using h.fz i, ty_set t1,
    own_same (own_same h.nd (hk W 2 l2 h.ty)) (hk _ 3 _ t1), h.hb⟩

/-- Blocks that are neither readers nor nodes stay. -/
def Kq (w w' : World) : Prop := ∀ (i : Nat) (cs : Array Value) (t : TypeId), w.heap[i]? = some (.cells cs t) → t ≠ 79 → t ≠ 54 → w'.heap[i]? = w.heap[i]?
theorem Kq.refl (w : World) : Kq w w := fun _ _ _ _ _ _ => rfl
theorem Kq.trans {a b c : World} (h : Kq a b) (g : Kq b c) : Kq a c := fun i cs t e h1 h2 => (g i cs t ((h i cs t e h1 h2).trans e) h1 h2).trans (h i cs t e h1 h2)
theorem Kq.below {w w' : World} (h : Below w.heap.size w w') : Kq w w' := fun i cs t e _ _ => h.block i (by
  rcases Nat.lt_or_ge i w.heap.size with h | h
  · exact h
  · rw [Array.getElem?_eq_none h] at e; cases e)
theorem Kq.set {w : World} {rb i : Nat} {x : Value} (h : ∃ cs, w.heap[rb]? = some (Obj.cells cs 79)) : Kq w (w.setCell ⟨rb, i, none⟩ x) := fun g cs t e h1 _ => heap_setCell_other w ⟨rb, i, none⟩ g x (fun hc => by
  have hc : g = rb := hc
  obtain ⟨cs2, ht⟩ := h
  rw [hc, ht] at e
  cases e
  exact h1 rfl)
end Go.Proofs.YtoikdpjjcnmgeaaGreatDoor
end

section
/-
  DERIVED. The document's reader: a fault is kept.
-/
namespace Go.Proofs.YtoikdpjjcnmgeaaGreatDoor
open Go Go.Proofs Go.RowKit
open Wk (Nd nds)
open Go.Sort

/-- The reader holds a fault. -/
def DBad (base rb : Nat) (bv : Value) (W : World) (M : List Nd) (nv : Value) (a c : Int) : Prop := ∃ g, DR base rb bv W M nv (.slice (some ⟨g, 0, none⟩) 1 1) c ∧ LkAt W g [(dsB, a)]

set_option maxRecDepth 100000 in
theorem bad_any (base rb : Nat) (bv nv lv : Value) (c0 a c : Int) (M : List Nd) (w : World) (h : DR base rb bv w M nv lv c0) : Calls Tryz.prog 61 #[.pointer (some ⟨rb, 0, none⟩), .int .i64 a, .int .i64 c] w fun e w' => e = .returned (.tuple #[]) ∧ Hid (DBad base rb bv w' M nv a c) ∧ Hid (Below base w w') ∧ Hid (Kq w w') := by
  have H : Hid (DR base rb bv w M nv lv c0) := h
  clear h
  go_enter Tryz.func61, Tryz.ntmps61
  go_wp2_with (go_at_call 36; refine StopV.out ?_)
  refine StopV.mk ((newD_any c a _).mono ?_)
  rintro e W1 ⟨g, rfl, hl, hg, hb⟩
  have H1 : Hid (DR base rb bv W1 M nv (lv) c0) := H.out.on hb.out
  have d2 := H1.out.c2
  have d3 := H1.out.c3
  have f2 := H1.out.fz 2
  have f3 := H1.out.fz 3
  go_wp2
  have HS : DBad base rb bv ((W1.setCell ⟨rb, 2, none⟩ (.slice (some ⟨g, 0, none⟩) 1 1)).setCell ⟨rb, 3, none⟩ (.int .i64 c)) M nv a c := by
    refine ⟨g, H1.out.fault _ _, ?_⟩
    have hne : g ≠ rb := fun e => by
      have := hg.out
      have := Rp.cell_lt H.out.c0
      have : rb < w.heap.size := this
      omega
    intro i hi
    obtain ⟨x, y⟩ := hl.out i hi
    have hx : ∀ (X : World) (j k : Nat) (v : Value), (X.setCell ⟨rb, j, none⟩ v).cell? ⟨g, k, none⟩ = X.cell? ⟨g, k, none⟩ := fun X j k v => by
      unfold World.cell?
      rw [show (X.setCell ⟨rb, j, none⟩ v).heap[g]? = X.heap[g]? from heap_setCell_other X ⟨rb, j, none⟩ g v hne]
    exact ⟨by rw [hx, hx]; exact x, by rw [hx, hx]; exact y⟩
  have hbase : base ≤ w.heap.size := by
    have := H.out.hb
    have h2 : rb < w.heap.size := Rp.cell_lt H.out.c0
    omega
  exact bodyPost_end (results_none rfl _ _ _) rfl ⟨rfl, HS, ((hb.out.mono hbase).setCell (p := ⟨rb, 2, none⟩) H.out.hb _).setCell (p := ⟨rb, 3, none⟩) H.out.hb _, ((Kq.below hb.out).trans (Kq.set H1.out.ty)).trans (Kq.set (ty_set H1.out.ty))⟩
end Go.Proofs.YtoikdpjjcnmgeaaGreatDoor
end
