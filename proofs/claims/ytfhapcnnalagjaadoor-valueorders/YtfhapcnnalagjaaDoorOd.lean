import Derived.Test.YtfhapcnnalagjaaDoorOb
/-
  DERIVED. The program's own span, and its first tick.
-/
namespace Go.Proofs.YtfhapcnnalagjaaDoor
open Go Go.Proofs Go.RowKit

def PS (v : Value) : Option (Int × Int) → Prop
  | some _ => ∃ q, v = .iface 102 (.pointer (some ⟨q, 0, none⟩))
  | none => v = .nilIface
theorem PErr.ps {w : World} {v : Value} {o : Option (Int × Int)} (h : PErr w v o) : PS v o := by
  cases o with
  | none => exact h
  | some x => obtain ⟨g, e, _⟩ := h; exact ⟨g, e⟩
def PostQ (w : World) (V : Value) (o : Option (Int × Int)) (e : Ending) (w' : World) : Prop := ∃ v, e = .returned (.tuple #[V, v]) ∧ PS v o ∧ Below w.heap.size w w'

set_option maxRecDepth 100000 in
set_option maxHeartbeats 1000000 in
theorem own14_no (w : World) (vr : Int) (s : ByteArray) (x : Int × Int) (hT : Mt w)
    (c23 : ∀ W, Mt W → Calls Tryd.prog 23 #[.int .i64 vr, .string s, .int .i64 0] W (PostR W (.agg #[.int .i64 0, .int .i64 0, .int .i64 0, .int .i64 0, .int .i64 0, .int .i64 0, .int .i64 0, .int .i64 0, .int .i64 0, .bool false, .int .i64 0]) (some x))) :
    Calls Tryd.prog 14 #[.int .i64 vr, .string s, .int .i64 0] w (PostQ w (sp 0 0) (some x)) := by
  obtain ⟨r, hr⟩ : ∃ r, w.heap.size = r := ⟨_, rfl⟩
  obtain ⟨W0, hW0⟩ : ∃ W0, w.alloc (.cells #[.int .i64 0, .int .i64 0] 32) = W0 := ⟨_, rfl⟩
  have hb0 : Below r w W0 := by rw [← hW0, ← hr]; exact (Below.refl _ _).alloc (Nat.le_refl _) _
  have hs0 : W0.heap.size = r + 1 := by rw [← hW0, ← hr]; simp
  have HZ0 : Hid (W0.rowIs r 32 2 (fun k => #[Value.int .i64 0, .int .i64 0].getD k undef)) := by
    show W0.rowIs _ _ _ _
    rw [← hW0, ← hr]
    exact World.rowIs_alloc w _ 32 _ (row_lit _)
  have c23 := c23 W0 (hT.on (hr ▸ hb0))
  have HB0 : Hid (Below r w W0) := hb0
  have HW0 : Hid _ := hW0
  clear hW0 hT hb0
  go_enter Tryd.func14, Tryd.ntmps14
  go_wp2_with (go_at_call 23; refine Stop.mk ?_)
  rw [HW0.out]
  refine Stop.out (c23.mono ?_)
  rintro e W1 ⟨v, rfl, hv, hb1⟩
  obtain ⟨g, rfl, _⟩ := hv
  go_upto_region 2 with fail
  obtain ⟨W2, hW2⟩ : ∃ W2, W1.alloc (.cells #[.int .i64 0, .int .i64 0, .int .i64 0, .int .i64 0, .int .i64 0, .int .i64 0, .int .i64 0, .int .i64 0, .int .i64 0, .bool false, .int .i64 0] 57) = W2 := ⟨_, rfl⟩
  have hb2 : Below W0.heap.size W0 W2 := by
    rw [← hW2]
    exact hb1.trans (((Below.refl _ W1).alloc (Nat.le_refl _) _).mono hb1.size)
  have HZ2 := HZ0.out.of_block (hb2.block _ HZ0.out.lt)
  have z0 : W2.cell? ⟨r, 0, none⟩ = some (.int .i64 0) := HZ2.cell (i := 0) (by omega)
  have z1 : W2.cell? ⟨r, 1, none⟩ = some (.int .i64 0) := HZ2.cell (i := 1) (by omega)
  have zf := fun i => HZ2.frozen i
  have HB2 : Hid (Below r w W2) := HB0.out.trans (hb2.mono (by omega))
  rw [hW2]
  clear hW2 hb2 hb1 HZ2 HZ0 HB0 HW0 c23
  go_wp2
  refine bodyPost_ret (v := .tuple #[sp 0 0, .iface 102 (.pointer (some ⟨g, 0, none⟩))]) (by simp [results, Tryd.results14, go_sem, sp, z0, z1]) rfl ⟨_, rfl, ⟨g, rfl⟩, ?_⟩
  rw [hr]
  exact (HB2.out.setCell (p := ⟨r, 0, none⟩) (Nat.le_refl _) _).setCell (p := ⟨r, 1, none⟩) (Nat.le_refl _) _

set_option maxRecDepth 100000 in
set_option maxHeartbeats 1000000 in
theorem own11_any (w : World) (vr : Int) (s : ByteArray) (F : Int) (o : Option (Int × Int)) (hT : Mt w) (hO : Ot w)
    (c14 : ∀ W, Mt W → Ot W → ∃ L, Calls Tryd.prog 14 #[.int .i64 vr, .string s, .int .i64 0] W (PostQ W (sp F L) o)) :
    ∃ L, Calls Tryd.prog 11 #[.int .i64 vr, .string s] w (PostQ w (sp F L) o) := by
  obtain ⟨r, hr⟩ : ∃ r, w.heap.size = r := ⟨_, rfl⟩
  obtain ⟨W0, hW0⟩ : ∃ W0, w.alloc (.cells #[.int .i64 0, .int .i64 0] 32) = W0 := ⟨_, rfl⟩
  have hb0 : Below r w W0 := by rw [← hW0, ← hr]; exact (Below.refl _ _).alloc (Nat.le_refl _) _
  have hs0 : W0.heap.size = r + 1 := by rw [← hW0, ← hr]; simp
  have HZ0 : Hid (W0.rowIs r 32 2 (fun k => #[Value.int .i64 0, .int .i64 0].getD k undef)) := by
    show W0.rowIs _ _ _ _
    rw [← hW0, ← hr]
    exact World.rowIs_alloc w _ 32 _ (row_lit _)
  obtain ⟨L, c14⟩ := c14 W0 (hT.on (hr ▸ hb0)) (hO.on (hr ▸ hb0))
  refine ⟨L, ?_⟩
  have HB0 : Hid (Below r w W0) := hb0
  have HW0 : Hid _ := hW0
  clear hW0 hT hb0 hO
  unfold sp at c14
  go_enter Tryd.func11, Tryd.ntmps11
  go_wp2_with (go_at_call 14; refine Stop.mk ?_)
  rw [HW0.out]
  refine Stop.out (c14.mono ?_)
  rintro e W2 ⟨v, rfl, hv, hb2⟩
  have HV : Hid _ := hv
  have HZ2 := HZ0.out.of_block (hb2.block _ HZ0.out.lt)
  have z0 : W2.cell? ⟨r, 0, none⟩ = some (.int .i64 0) := HZ2.cell (i := 0) (by omega)
  have z1 : W2.cell? ⟨r, 1, none⟩ = some (.int .i64 0) := HZ2.cell (i := 1) (by omega)
  have zf := fun i => HZ2.frozen i
  have HB2 : Hid (Below r w W2) := HB0.out.trans (hb2.mono (by omega))
  clear hb2 HZ2 HZ0 HB0 HW0 c14 hv
  go_wp2
  refine bodyPost_ret (v := .tuple #[sp F L, v]) (by simp [results, Tryd.results11, go_sem, sp, z0, z1]) rfl ⟨_, rfl, HV.out, ?_⟩
  rw [hr]
  exact (HB2.out.setCell (p := ⟨r, 0, none⟩) (Nat.le_refl _) _).setCell (p := ⟨r, 1, none⟩) (Nat.le_refl _) _

def ftk (F : Int) (o : Option (Int × Int)) : Int := if o = none then F else 4611686018427387904

set_option maxRecDepth 100000 in
set_option maxHeartbeats 1000000 in
theorem first_any (w : World) (vr : Int) (s : ByteArray) (F : Int) (o : Option (Int × Int)) (hT : Mt w) (hO : Ot w)
    (c11 : ∀ W, Mt W → Ot W → ∃ L, Calls Tryd.prog 11 #[.int .i64 vr, .string s] W (PostQ W (sp F L) o)) :
    Calls Tryd.prog 8 #[.int .i64 vr, .string s] w fun e w' => e = .returned (.int .i64 (ftk F o)) ∧ Below w.heap.size w w' := by
  obtain ⟨L, c11⟩ := c11 w hT hO
  clear hT hO
  unfold sp at c11
  obtain ⟨r, hr⟩ : ∃ r, w.heap.size = r := ⟨_, rfl⟩
  cases o with
  | none =>
    unfold ftk
    rw [if_pos rfl]
    go_enter Tryd.func8, Tryd.ntmps8
    go_wp2_with (go_at_call 11; refine Stop.mk ?_)
    refine Stop.out (c11.mono ?_)
    rintro e W2 ⟨v, rfl, hv, hb2⟩
    obtain rfl : v = .nilIface := hv
    go_wp2
    go_ret
    exact ⟨rfl, hb2.alloc hb2.size _⟩
  | some x =>
    unfold ftk
    rw [if_neg (by simp)]
    go_enter Tryd.func8, Tryd.ntmps8
    go_wp2_with (go_at_call 11; refine Stop.mk ?_)
    refine Stop.out (c11.mono ?_)
    rintro e W2 ⟨v, rfl, hv, hb2⟩
    obtain ⟨g, rfl⟩ := hv
    go_wp2
    go_ret
    exact ⟨rfl, hb2.alloc hb2.size _⟩

end Go.Proofs.YtfhapcnnalagjaaDoor
