import Derived.Test.YtehgeninocbpeaaDoorSb
/-
  DERIVED. The program's own span where there is none, and Own.
-/
namespace Go.Proofs.YtehgeninocbpeaaDoor.Tm
open Go Go.Proofs Go.RowKit

/-- An error stays when a row of numbers is written. -/
theorem PErr.two {W : World} {v : Value} {o : Option (Int × Int)} {r : Nat} {x : Int} (h : PErr W v o) (h0 : W.cell? ⟨r, 0, none⟩ = some (.int .i64 x)) (a b : Value) : PErr ((W.setCell ⟨r, 0, none⟩ a).setCell ⟨r, 1, none⟩ b) v o := by
  have hD : Dbt W r v o := ⟨h, fun p hp => by
    cases o with
    | none => rw [show v = .nilIface from h] at hp; cases hp
    | some y =>
      obtain ⟨q, hq, hf⟩ := h
      rw [hq] at hp
      obtain rfl : q = p := by simpa using hp
      rintro rfl
      have := hf.1
      rw [h0] at this
      cases this⟩
  exact (hD.grown (grown_set (grown_set (grown_refl _ _) 0 _) 1 _)).1

set_option maxRecDepth 100000 in
set_option maxHeartbeats 1000000 in
theorem own96_no (w : World) (vr : Int) (s : ByteArray) (a : Nat) (x : Int × Int) (hT : Mt w)
    (c23 : ∀ W, Mt W → Calls Tryd.prog 28 #[.int .i64 vr, .string s, .int .i64 (a : Int)] W (PostR W (.agg #[.int .i64 0, .int .i64 0, .int .i64 0, .int .i64 0, .int .i64 0, .int .i64 0, .int .i64 0, .int .i64 0, .int .i64 0, .bool false, .int .i64 0]) (some x))) :
    Calls Tryd.prog 9 #[.int .i64 vr, .string s, .int .i64 (a : Int)] w (PostR w (sp 0 0) (some x)) := by
  obtain ⟨r, hr⟩ : ∃ r, w.heap.size = r := ⟨_, rfl⟩
  obtain ⟨W0, hW0⟩ : ∃ W0, w.alloc (.cells #[.int .i64 0, .int .i64 0] 23) = W0 := ⟨_, rfl⟩
  have hb0 : Below r w W0 := by rw [← hW0, ← hr]; exact (Below.refl _ _).alloc (Nat.le_refl _) _
  have hs0 : W0.heap.size = r + 1 := by rw [← hW0, ← hr]; simp
  have HZ0 : Hid (W0.rowIs r 23 2 (fun k => #[Value.int .i64 0, .int .i64 0].getD k undef)) := by
    show W0.rowIs _ _ _ _
    rw [← hW0, ← hr]
    exact World.rowIs_alloc w _ 23 _ (row_lit _)
  have c23 := c23 W0 (hT.on (hr ▸ hb0))
  have HB0 : Hid (Below r w W0) := hb0
  have HW0 : Hid _ := hW0
  clear hW0 hT hb0
  go_enter Tryd.func9, Tryd.ntmps9
  go_wp2_with (go_at_call 28; refine Stop.mk ?_)
  rw [HW0.out]
  refine Stop.out (c23.mono ?_)
  rintro e W1 ⟨v, rfl, hv, hb1⟩
  have HV1 : Hid (PErr W1 v (some x)) := hv
  obtain ⟨g, rfl, _⟩ := hv
  go_upto_region 2 with fail
  obtain ⟨W2, hW2⟩ : ∃ W2, W1.alloc (.cells #[.int .i64 0, .int .i64 0, .int .i64 0, .int .i64 0, .int .i64 0, .int .i64 0, .int .i64 0, .int .i64 0, .int .i64 0, .bool false, .int .i64 0] 51) = W2 := ⟨_, rfl⟩
  have hb12 : Below W1.heap.size W1 W2 := hW2 ▸ (Below.refl _ W1).alloc (Nat.le_refl _) _
  have HV2 : Hid (PErr W2 (.iface 87 (.pointer (some ⟨g, 0, none⟩))) (some x)) := HV1.out.next hb12
  have hb2 : Below W0.heap.size W0 W2 := hb1.trans (hb12.mono hb1.size)
  have HZ2 := HZ0.out.of_block (hb2.block _ HZ0.out.lt)
  have z0 : W2.cell? ⟨r, 0, none⟩ = some (.int .i64 0) := HZ2.cell (i := 0) (by omega)
  have z1 : W2.cell? ⟨r, 1, none⟩ = some (.int .i64 0) := HZ2.cell (i := 1) (by omega)
  have zf := fun i => HZ2.frozen i
  have HB2 : Hid (Below r w W2) := HB0.out.trans (hb2.mono (by omega))
  rw [hW2]
  clear hW2 hb2 hb1 HZ2 HZ0 HB0 HW0 c23 hb12 HV1
  go_wp2
  refine bodyPost_ret (v := .tuple #[sp 0 0, .iface 87 (.pointer (some ⟨g, 0, none⟩))]) (by simp [results, Tryd.results9, go_sem, sp, z0, z1]) rfl ⟨_, rfl, HV2.out.two z0 _ _, ?_⟩
  rw [hr]
  exact (HB2.out.setCell (p := ⟨r, 0, none⟩) (Nat.le_refl _) _).setCell (p := ⟨r, 1, none⟩) (Nat.le_refl _) _

set_option maxRecDepth 100000 in
set_option maxHeartbeats 1000000 in
theorem own61_any (w : World) (vr : Int) (s : ByteArray) (F L : Int) (o : Option (Int × Int)) (hT : Mt w) (hO : Ot w)
    (c14 : ∀ W, Mt W → Ot W → Calls Tryd.prog 9 #[.int .i64 vr, .string s, .int .i64 0] W (PostR W (sp F L) o)) :
    Calls Tryd.prog 4 #[.int .i64 vr, .string s] w (PostR w (sp F L) o) := by
  obtain ⟨r, hr⟩ : ∃ r, w.heap.size = r := ⟨_, rfl⟩
  obtain ⟨W0, hW0⟩ : ∃ W0, w.alloc (.cells #[.int .i64 0, .int .i64 0] 23) = W0 := ⟨_, rfl⟩
  have hb0 : Below r w W0 := by rw [← hW0, ← hr]; exact (Below.refl _ _).alloc (Nat.le_refl _) _
  have hs0 : W0.heap.size = r + 1 := by rw [← hW0, ← hr]; simp
  have HZ0 : Hid (W0.rowIs r 23 2 (fun k => #[Value.int .i64 0, .int .i64 0].getD k undef)) := by
    show W0.rowIs _ _ _ _
    rw [← hW0, ← hr]
    exact World.rowIs_alloc w _ 23 _ (row_lit _)
  have c14 := c14 W0 (hT.on (hr ▸ hb0)) (hO.on (hr ▸ hb0))
  have HB0 : Hid (Below r w W0) := hb0
  have HW0 : Hid _ := hW0
  clear hW0 hT hb0 hO
  unfold sp at c14
  go_enter Tryd.func4, Tryd.ntmps4
  go_wp2_with (go_at_call 9; refine Stop.mk ?_)
  rw [HW0.out]
  refine Stop.out (c14.mono ?_)
  rintro e W2 ⟨v, rfl, hv, hb2⟩
  have HV : Hid (PErr W2 v o) := hv
  have HZ2 := HZ0.out.of_block (hb2.block _ HZ0.out.lt)
  have z0 : W2.cell? ⟨r, 0, none⟩ = some (.int .i64 0) := HZ2.cell (i := 0) (by omega)
  have z1 : W2.cell? ⟨r, 1, none⟩ = some (.int .i64 0) := HZ2.cell (i := 1) (by omega)
  have zf := fun i => HZ2.frozen i
  have HB2 : Hid (Below r w W2) := HB0.out.trans (hb2.mono (by omega))
  clear hb2 HZ2 HZ0 HB0 HW0 c14 hv
  go_wp2
  refine bodyPost_ret (v := .tuple #[sp F L, v]) (by simp [results, Tryd.results4, go_sem, sp, z0, z1]) rfl ⟨_, rfl, HV.out.two z0 _ _, ?_⟩
  rw [hr]
  exact (HB2.out.setCell (p := ⟨r, 0, none⟩) (Nat.le_refl _) _).setCell (p := ⟨r, 1, none⟩) (Nat.le_refl _) _
end Go.Proofs.YtehgeninocbpeaaDoor.Tm
