import Derived.Test.YtiieikdbhpflgabDoorDc
/-
  DERIVED. What the document's provider does, action by action.
-/
namespace Go.Proofs.YtiieikdbhpflgabDoor
open Go Go.Proofs Go.RowKit

set_option maxRecDepth 100000 in
set_option maxHeartbeats 2000000 in
theorem rdo_25 (w : World) (p : Nat) (EV : Array Value) (S : Prov) (d : EvD) (ha : 1 ≤ S.art) (hP : RvE w p S) (hy : ∀ W', BelBut p w W' → EvY W' EV d) :
    Calls Tryd.prog 29 #[.pointer (some ⟨p, 0, none⟩), .int .i64 25, .agg EV] w (RActP 25 w p S d) := by
  have hE := hy w (.refl _ _)
  have _ha := ha
  obtain ⟨W1, hW1⟩ : ∃ W1, w.alloc (.cells EV 48) = W1 := ⟨_, rfl⟩
  have hb1 : Below w.heap.size w W1 := by rw [← hW1]; exact (Below.refl _ _).alloc (Nat.le_refl _) _
  have hr1 : W1.heap[w.heap.size]? = some (.cells EV 48) := by rw [← hW1]; exact alloc_new w _
  have hs1 : W1.heap.size = w.heap.size + 1 := by rw [← hW1]; simp
  have e0 : W1.cell? ⟨w.heap.size, 0, none⟩ = some (.int .i64 d.kd) := by rw [cell_of_row _ _ _ _ _ _ hr1]; exact hE.ev.kd
  have e40 : W1.cell? ⟨w.heap.size, 40, none⟩ = some (.int .u8 (d.rs : Int)) := by rw [cell_of_row _ _ _ _ _ _ hr1]; exact hE.rs
  obtain ⟨r, hr⟩ : ∃ r : Int, (if d.kd = 19 then (d.rs : Int) else 2) = r := ⟨_, rfl⟩
  have HR : Hid ((if d.kd = 19 then (d.rs : Int) else 2) = r) := hr
  have hgz : (W1.alloc (.cells #[.int .i64 0, .int .u16 0, .string ⟨#[]⟩, .string ⟨#[]⟩, .string ⟨#[]⟩, .slice none 0 0, .bool false, .int .u32 0, .string ⟨#[]⟩, .string ⟨#[]⟩, .bool false, .int .u16 0, .int .u16 0, .slice none 0 0, .slice none 0 0, .int .u8 0, .int .u8 0, .int .u8 0, .slice none 0 0] 46)).heap[W1.heap.size]? = some (.cells #[.int .i64 0, .int .u16 0, .string ⟨#[]⟩, .string ⟨#[]⟩, .string ⟨#[]⟩, .slice none 0 0, .bool false, .int .u32 0, .string ⟨#[]⟩, .string ⟨#[]⟩, .bool false, .int .u16 0, .int .u16 0, .slice none 0 0, .slice none 0 0, .int .u8 0, .int .u8 0, .int .u8 0, .slice none 0 0] 46) := alloc_new W1 _
  have hgs := pd0_z
  have hs0 := size40' 0 zc
  have hzo := pd_one 0 zc zc_one
  have hb0 := pd_zero0
  have hg3 := setRow_heap (W1.alloc (.cells #[.int .i64 0, .int .u16 0, .string ⟨#[]⟩, .string ⟨#[]⟩, .string ⟨#[]⟩, .slice none 0 0, .bool false, .int .u32 0, .string ⟨#[]⟩, .string ⟨#[]⟩, .bool false, .int .u16 0, .int .u16 0, .slice none 0 0, .slice none 0 0, .int .u8 0, .int .u8 0, .int .u8 0, .slice none 0 0] 46)) W1.heap.size _ (Pd 0 zc) 46 _ hgz
  have hb3 : Below W1.heap.size W1 ((W1.alloc (.cells #[.int .i64 0, .int .u16 0, .string ⟨#[]⟩, .string ⟨#[]⟩, .string ⟨#[]⟩, .slice none 0 0, .bool false, .int .u32 0, .string ⟨#[]⟩, .string ⟨#[]⟩, .bool false, .int .u16 0, .int .u16 0, .slice none 0 0, .slice none 0 0, .int .u8 0, .int .u8 0, .int .u8 0, .slice none 0 0] 46)).setRow W1.heap.size (Pd 0 zc)) := below_setRow ((Below.refl _ _).alloc (Nat.le_refl _) _) (Nat.le_refl _) _
  obtain ⟨W3, hW3⟩ : ∃ W3, (W1.alloc (.cells #[.int .i64 0, .int .u16 0, .string ⟨#[]⟩, .string ⟨#[]⟩, .string ⟨#[]⟩, .slice none 0 0, .bool false, .int .u32 0, .string ⟨#[]⟩, .string ⟨#[]⟩, .bool false, .int .u16 0, .int .u16 0, .slice none 0 0, .slice none 0 0, .int .u8 0, .int .u8 0, .int .u8 0, .slice none 0 0] 46)).setRow W1.heap.size (Pd 0 zc) = W3 := ⟨_, rfl⟩
  rw [hW3] at hg3 hb3
  have hb13 : Below w.heap.size w W3 := hb1.trans (hb3.mono hb1.size)
  have F : Hid (Fr w p EV S d W3) := ⟨hP.on hb13, (hb3.block _ (by omega)).trans hr1, by rw [← hs1]; exact hg3, hy _ (.of hb13), .of hb13, hP.lt, hy⟩
  obtain ⟨Z0, hZ0⟩ : ∃ A, Pd 0 zc = A := ⟨_, rfl⟩
  rw [hZ0] at hgs hs0 hzo hb0 hW3
  obtain ⟨fs4, hu4⟩ := hu40
  clear hP hE hy hb3 hb13 hg3 hZ0 hb1
  go_enter Tryd.func29, Tryd.ntmps29
  go_upto_if 12 with fail
  go_cut [7] from 13 (fun s7 wx => s7 = .int .u8 r ∧ wx = W1)
  case first =>
    by_cases h19 : d.kd = 19
    · rw [if_pos h19] at hr
      have hk : (d.kd == 19) = true := by rw [h19]; rfl
      clear h19
      go_wp2
      go_meet
      case rel => exact ⟨by first | rfl | rw [hr], rfl⟩
    · rw [if_neg h19] at hr
      have hk : (d.kd == 19) = false := by simpa using h19
      clear h19
      go_wp2
      go_meet
      case rel => exact ⟨by first | rfl | rw [hr], rfl⟩
  case rest =>
  obtain ⟨rfl, rfl⟩ := hcut
  have HW1 : Hid (wc.heap.size = w.heap.size + 1) := hs1
  clear e0 e40 hr1 hr hW1 hs1
  have h1 := stop_any W3 p _ F.out.rv
  go_wp2_with (first | (refine step_build rfl 46 _ rfl Z0 (by simp [Act.eval]; exact hb0) ?_) | (refine wpList_store_row rfl 46 (.tmp 8) (.tmp 15) rfl wc.heap.size Z0 rfl rfl 46 _ hgz hs0 hgs hzo ?_) | (go_at_call 26; refine h1.mono ?_; refine Stop9.mk ?_))
  rintro x V1 ⟨rfl, hq1, hB1⟩
  have F1 : Hid (Fr w p EV _ d V1) := F.out.tim hq1 hB1
  clear h1 hq1 hB1
  go_wp2_with (first | fail)
  go_ret
  exact ⟨_, rfl, .inl ⟨(show actsN 25 S d = [] from rfl), rfl⟩, F1.out.rv, F1.out.but⟩
set_option maxRecDepth 100000 in
set_option maxHeartbeats 2000000 in
theorem rdo_26 (w : World) (p : Nat) (EV : Array Value) (S : Prov) (d : EvD) (ha : 1 ≤ S.art) (hP : RvE w p S) (hy : ∀ W', BelBut p w W' → EvY W' EV d) :
    Calls Tryd.prog 29 #[.pointer (some ⟨p, 0, none⟩), .int .i64 26, .agg EV] w (RActP 26 w p S d) := by
  have hE := hy w (.refl _ _)
  have _ha := ha
  obtain ⟨W1, hW1⟩ : ∃ W1, w.alloc (.cells EV 48) = W1 := ⟨_, rfl⟩
  have hb1 : Below w.heap.size w W1 := by rw [← hW1]; exact (Below.refl _ _).alloc (Nat.le_refl _) _
  have hr1 : W1.heap[w.heap.size]? = some (.cells EV 48) := by rw [← hW1]; exact alloc_new w _
  have hs1 : W1.heap.size = w.heap.size + 1 := by rw [← hW1]; simp
  have e0 : W1.cell? ⟨w.heap.size, 0, none⟩ = some (.int .i64 d.kd) := by rw [cell_of_row _ _ _ _ _ _ hr1]; exact hE.ev.kd
  have e40 : W1.cell? ⟨w.heap.size, 40, none⟩ = some (.int .u8 (d.rs : Int)) := by rw [cell_of_row _ _ _ _ _ _ hr1]; exact hE.rs
  obtain ⟨r, hr⟩ : ∃ r : Int, (if d.kd = 19 then (d.rs : Int) else 2) = r := ⟨_, rfl⟩
  have HR : Hid ((if d.kd = 19 then (d.rs : Int) else 2) = r) := hr
  have hgz : (W1.alloc (.cells #[.int .i64 0, .int .u16 0, .string ⟨#[]⟩, .string ⟨#[]⟩, .string ⟨#[]⟩, .slice none 0 0, .bool false, .int .u32 0, .string ⟨#[]⟩, .string ⟨#[]⟩, .bool false, .int .u16 0, .int .u16 0, .slice none 0 0, .slice none 0 0, .int .u8 0, .int .u8 0, .int .u8 0, .slice none 0 0] 46)).heap[W1.heap.size]? = some (.cells #[.int .i64 0, .int .u16 0, .string ⟨#[]⟩, .string ⟨#[]⟩, .string ⟨#[]⟩, .slice none 0 0, .bool false, .int .u32 0, .string ⟨#[]⟩, .string ⟨#[]⟩, .bool false, .int .u16 0, .int .u16 0, .slice none 0 0, .slice none 0 0, .int .u8 0, .int .u8 0, .int .u8 0, .slice none 0 0] 46) := alloc_new W1 _
  have hgs := pd0_z
  have hs0 := size40' 0 zc
  have hzo := pd_one 0 zc zc_one
  have hb0 := pd_zero0
  have hg3 := setRow_heap (W1.alloc (.cells #[.int .i64 0, .int .u16 0, .string ⟨#[]⟩, .string ⟨#[]⟩, .string ⟨#[]⟩, .slice none 0 0, .bool false, .int .u32 0, .string ⟨#[]⟩, .string ⟨#[]⟩, .bool false, .int .u16 0, .int .u16 0, .slice none 0 0, .slice none 0 0, .int .u8 0, .int .u8 0, .int .u8 0, .slice none 0 0] 46)) W1.heap.size _ (Pd 0 zc) 46 _ hgz
  have hb3 : Below W1.heap.size W1 ((W1.alloc (.cells #[.int .i64 0, .int .u16 0, .string ⟨#[]⟩, .string ⟨#[]⟩, .string ⟨#[]⟩, .slice none 0 0, .bool false, .int .u32 0, .string ⟨#[]⟩, .string ⟨#[]⟩, .bool false, .int .u16 0, .int .u16 0, .slice none 0 0, .slice none 0 0, .int .u8 0, .int .u8 0, .int .u8 0, .slice none 0 0] 46)).setRow W1.heap.size (Pd 0 zc)) := below_setRow ((Below.refl _ _).alloc (Nat.le_refl _) _) (Nat.le_refl _) _
  obtain ⟨W3, hW3⟩ : ∃ W3, (W1.alloc (.cells #[.int .i64 0, .int .u16 0, .string ⟨#[]⟩, .string ⟨#[]⟩, .string ⟨#[]⟩, .slice none 0 0, .bool false, .int .u32 0, .string ⟨#[]⟩, .string ⟨#[]⟩, .bool false, .int .u16 0, .int .u16 0, .slice none 0 0, .slice none 0 0, .int .u8 0, .int .u8 0, .int .u8 0, .slice none 0 0] 46)).setRow W1.heap.size (Pd 0 zc) = W3 := ⟨_, rfl⟩
  rw [hW3] at hg3 hb3
  have hb13 : Below w.heap.size w W3 := hb1.trans (hb3.mono hb1.size)
  have F : Hid (Fr w p EV S d W3) := ⟨hP.on hb13, (hb3.block _ (by omega)).trans hr1, by rw [← hs1]; exact hg3, hy _ (.of hb13), .of hb13, hP.lt, hy⟩
  obtain ⟨Z0, hZ0⟩ : ∃ A, Pd 0 zc = A := ⟨_, rfl⟩
  rw [hZ0] at hgs hs0 hzo hb0 hW3
  obtain ⟨fs4, hu4⟩ := hu40
  clear hP hE hy hb3 hb13 hg3 hZ0 hb1
  go_enter Tryd.func29, Tryd.ntmps29
  go_upto_if 12 with fail
  go_cut [7] from 13 (fun s7 wx => s7 = .int .u8 r ∧ wx = W1)
  case first =>
    by_cases h19 : d.kd = 19
    · rw [if_pos h19] at hr
      have hk : (d.kd == 19) = true := by rw [h19]; rfl
      clear h19
      go_wp2
      go_meet
      case rel => exact ⟨by first | rfl | rw [hr], rfl⟩
    · rw [if_neg h19] at hr
      have hk : (d.kd == 19) = false := by simpa using h19
      clear h19
      go_wp2
      go_meet
      case rel => exact ⟨by first | rfl | rw [hr], rfl⟩
  case rest =>
  obtain ⟨rfl, rfl⟩ := hcut
  have HW1 : Hid (wc.heap.size = w.heap.size + 1) := hs1
  clear e0 e40 hr1 hr hW1 hs1
  go_wp2_with (first | (refine step_build rfl 46 _ rfl Z0 (by simp [Act.eval]; exact hb0) ?_) | (refine wpList_store_row rfl 46 (.tmp 8) (.tmp 15) rfl wc.heap.size Z0 rfl rfl 46 _ hgz hs0 hgs hzo ?_))
  go_ret
  exact ⟨_, rfl, .inl ⟨(show actsN 26 S d = [] from rfl), rfl⟩, F.out.rv, F.out.but⟩
end Go.Proofs.YtiieikdbhpflgabDoor
