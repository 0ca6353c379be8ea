import Derived.Test.YtehgeninocbpeaaGreatDoorQT
import Derived.Deep.RegionHeld3
import Derived.Deep.Cut
namespace Go.Proofs.YtehgeninocbpeaaGreatDoor.Tm
open Go Go.Proofs Go.RowKit
theorem cnt_split (s : ByteArray) (n : Nat) : ∀ m a, cnt s a (m + n) = if cnt s a m < m then cnt s a m else m + cnt s (a + m) n
  | 0, a => by simp [cnt]
  | m + 1, a => by
    rw [show m + 1 + n = (m + n) + 1 by omega, cnt, cnt]
    cases isD s a with
    | true =>
      rw [if_pos rfl, if_pos rfl, cnt_split s n m (a + 1), show a + 1 + m = a + (m + 1) by omega]
      split
      · rw [if_pos (by omega)]
      · rw [if_neg (by omega)]; omega
    | false => simp
def pl (u : Int) : Int := if u = 0 then 0 else if u = 1 then 4 else if u = 2 then 6 else -1
set_option maxRecDepth 100000 in
set_option maxHeartbeats 1000000 in
theorem pieces33_any (w : World) (s : ByteArray) (h8 : s.size = 8) (hd : cnt s 0 8 = 8) : Calls Tryz.prog 107 #[.string s] w fun e w' => e = .returned (.tuple #[dv (nv s 0 4 : Nat) (nv s 4 2 : Nat) (nv s 6 2 : Nat), .int .i64 (pl (uf (nv s 0 4 : Nat) (nv s 4 2 : Nat) (nv s 6 2 : Nat)))]) ∧ Below w.heap.size w w' := by
  have h4 : cnt s 0 4 = 4 ∧ cnt s 4 2 = 2 ∧ cnt s 6 2 = 2 := by
    have a1 := cnt_split s 4 4 0
    have a2 := cnt_split s 2 2 4
    have b1 := cnt_le s 4 0
    have b2 := cnt_le s 2 4
    have b3 := cnt_le s 2 6
    have b4 := cnt_le s 4 4
    rw [show 4 + 4 = 8 by omega, hd] at a1
    rw [show 2 + 2 = 4 by omega, show 4 + 2 = 6 by omega] at a2
    rw [show 0 + 4 = 4 by omega] at a1
    split at a1
    · omega
    · split at a2
      · omega
      · omega
  have D1 : Digs (s.extract 0 4) ∧ (s.extract 0 4).size ≤ 8 := ⟨digs_ext s 0 4 4 (by omega), by simp; omega⟩
  have D2 : Digs (s.extract 4 6) ∧ (s.extract 4 6).size ≤ 8 := ⟨digs_ext s 4 2 2 (by omega), by simp; omega⟩
  have D3 : Digs (s.extract 6 8) ∧ (s.extract 6 8).size ≤ 8 := ⟨digs_ext s 6 2 2 (by omega), by simp; omega⟩
  obtain ⟨vf, hvf⟩ : ∃ vf : ByteArray → Nat, vf = fun u => val u.data.toList := ⟨_, rfl⟩
  have e1 : nv s 0 4 = vf (s.extract 0 4) := by rw [hvf]; rfl
  have e2 : nv s 4 2 = vf (s.extract 4 6) := by rw [hvf]; rfl
  have e3 : nv s 6 2 = vf (s.extract 6 8) := by rw [hvf]; rfl
  have nn : ∀ W u, (Digs u ∧ u.size ≤ 8) → Calls Tryz.prog 57 #[.string u] W fun e w' => e = .returned (.int .i64 (vf u : Nat)) ∧ W = w' := fun W u hu => by rw [hvf]; exact number47_any W u hu.1 hu.2
  rw [e1, e2, e3]
  clear e1 e2 e3 hvf
  obtain ⟨y, hy⟩ : ∃ y, vf (s.extract 0 4) = y := ⟨_, rfl⟩
  obtain ⟨m, hm⟩ : ∃ m, vf (s.extract 4 6) = m := ⟨_, rfl⟩
  obtain ⟨d, hdd⟩ : ∃ d, vf (s.extract 6 8) = d := ⟨_, rfl⟩
  rw [hy, hm, hdd]
  have hU := uf_is (y : Int) (m : Int) (d : Int)
  have c35 := fun W => dayNo_any W (y : Int) (m : Int) (d : Int)
  obtain ⟨U, hUU⟩ : ∃ U, uf (y : Int) (m : Int) (d : Int) = U := ⟨_, rfl⟩
  rw [hUU] at hU ⊢
  have c35' : ∀ W, Calls Tryz.prog 112 #[dv y m d] W fun e w' => e = .returned (.int .i64 U) ∧ Below W.heap.size W w' := fun W => hUU ▸ c35 W
  have HU : Hid (U = -1 ∨ U = 0 ∨ U = 1 ∨ U = 2) := by show _ ∨ _; omega
  clear hU hUU c35
  unfold dv at *
  clear h4 hd
  have hsz : (8 : Int) ≤ (s.size : Int) := by omega
  obtain ⟨W1, hW1⟩ : ∃ W1, w.alloc (.cells #[.int .i64 0, .int .i64 0, .int .i64 0] 118) = W1 := ⟨_, rfl⟩
  have hs1 : W1.heap.size = w.heap.size + 1 := by rw [← hW1]; simp
  have HB1 : Hid (Below w.heap.size w W1) := hW1 ▸ (Below.refl _ _).alloc (Nat.le_refl _) _
  have HR1 : Hid (W1.rowIs w.heap.size 118 3 (f3 0 0 0)) := by
    show W1.rowIs _ _ _ _
    rw [← hW1]
    exact World.rowIs_alloc w _ 118 _ (fun i hi => by
      rcases (by simp at hi; omega : i = 0 ∨ i = 1 ∨ i = 2) with rfl | rfl | rfl <;> rfl)
  go_enter Tryz.func107, Tryz.ntmps107
  go_wp2
  go_region_held3 (fun _ => True) (trivial) (first | (go_at_call 57; refine (nn _ _ ?_).mono ?_; (focus (first | exact D1 | exact D2 | exact D3)); rintro e w' ⟨rfl, rfl⟩))
  all_goals
    clear nn D1 D2 D3 hsz hW1 hy hm hdd
    go_upto_region 2 with fail
    obtain ⟨W2, hW2⟩ : ∃ W2, (W1.alloc (.cells #[.int .i64 (y : Int), .int .i64 (m : Int), .int .i64 (d : Int)] 118)).drew = W2 := ⟨_, rfl⟩
    rw [hW2]
    have HB2 : Hid (Below w.heap.size w W2) := hW2 ▸ (HB1.out.alloc (by omega) _).drew
    have HR2 : Hid (W2.rowIs w.heap.size 118 3 (f3 0 0 0)) := hW2 ▸ HR1.out.alloc _
    have HD2 : Hid (W2.rowIs (w.heap.size + 1) 118 3 (f3 y m d)) := by
      show W2.rowIs _ _ _ _
      rw [← hW2, ← hs1]
      exact World.rowIs_alloc W1 _ 118 _ (fun i hi => by
        rcases (by simp at hi; omega : i = 0 ∨ i = 1 ∨ i = 2) with rfl | rfl | rfl <;> rfl)
    have q0 : W2.cell? ⟨w.heap.size + 1, 0, none⟩ = some (.int .i64 (y : Int)) := HD2.out.cell (i := 0) (by omega)
    have q1 : W2.cell? ⟨w.heap.size + 1, 1, none⟩ = some (.int .i64 (m : Int)) := HD2.out.cell (i := 1) (by omega)
    have q2 : W2.cell? ⟨w.heap.size + 1, 2, none⟩ = some (.int .i64 (d : Int)) := HD2.out.cell (i := 2) (by omega)
    clear hW2 HB1 HR1
    go_wp2_with (go_at_call 112; refine Stop.mk ?_)
    refine Stop.out ((c35' _).mono ?_)
    rintro e W3 ⟨rfl, hb3⟩
    have HB3 : Hid (Below w.heap.size w W3) := HB2.out.trans (hb3.mono HB2.out.size)
    have HR3 := row_on HR2.out hb3
    have HD3 := row_on HD2.out hb3
    clear q0 q1 q2 HB2 HR2 HD2 hb3 c35' hs1
    have q0 : W3.cell? ⟨w.heap.size + 1, 0, none⟩ = some (.int .i64 (y : Int)) := HD3.cell (i := 0) (by omega)
    have q1 : W3.cell? ⟨w.heap.size + 1, 1, none⟩ = some (.int .i64 (m : Int)) := HD3.cell (i := 1) (by omega)
    have q2 : W3.cell? ⟨w.heap.size + 1, 2, none⟩ = some (.int .i64 (d : Int)) := HD3.cell (i := 2) (by omega)
    have r0 : W3.cell? ⟨w.heap.size, 0, none⟩ = some (.int .i64 0) := HR3.cell (i := 0) (by omega)
    have r1 : W3.cell? ⟨w.heap.size, 1, none⟩ = some (.int .i64 0) := HR3.cell (i := 1) (by omega)
    have r2 : W3.cell? ⟨w.heap.size, 2, none⟩ = some (.int .i64 0) := HR3.cell (i := 2) (by omega)
    have rf := fun i => HR3.frozen i
    clear HR3 HD3
    rcases HU.out with rfl | rfl | rfl | rfl
    all_goals
      go_wp2
      refine bodyPost_ret (by simp [results, Tryz.results107, go_sem, r0, r1, r2]; rfl) rfl ⟨rfl, ?_⟩
      exact ((HB3.out.setCell (p := ⟨w.heap.size, 0, none⟩) (Nat.le_refl _) _).setCell (p := ⟨w.heap.size, 1, none⟩) (Nat.le_refl _) _).setCell (p := ⟨w.heap.size, 2, none⟩) (Nat.le_refl _) _
end Go.Proofs.YtehgeninocbpeaaGreatDoor.Tm
