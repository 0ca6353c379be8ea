import Derived.Test.YtiieikdbhpflgabDoorDc
/-
  DERIVED. What the document's provider does: the actions with cases.
-/
namespace Go.Proofs.YtiieikdbhpflgabDoor
open Go Go.Proofs Go.RowKit

set_option maxRecDepth 100000 in
set_option maxHeartbeats 2000000 in
theorem rdo_2 (w : World) (p : Nat) (EV : Array Value) (S : Prov) (d : EvD) (ha : 1 ≤ S.art) (hP : RvE w p S) (hy : ∀ W', BelBut p w W' → EvY W' EV d) :
    Calls Tryd.prog 29 #[.pointer (some ⟨p, 0, none⟩), .int .i64 2, .agg EV] w (RActP 2 w p S d) := by
  have hE := hy w (.refl _ _)
  have _ha := ha
  obtain ⟨W1, hW1⟩ : ∃ W1, w.alloc (.cells EV 48) = W1 := ⟨_, rfl⟩
  have hb1 : Below w.heap.size w W1 := by rw [← hW1]; exact (Below.refl _ _).alloc (Nat.le_refl _) _
  have hr1 : W1.heap[w.heap.size]? = some (.cells EV 48) := by rw [← hW1]; exact alloc_new w _
  have hs1 : W1.heap.size = w.heap.size + 1 := by rw [← hW1]; simp
  have e0 : W1.cell? ⟨w.heap.size, 0, none⟩ = some (.int .i64 d.kd) := by rw [cell_of_row _ _ _ _ _ _ hr1]; exact hE.ev.kd
  have e40 : W1.cell? ⟨w.heap.size, 40, none⟩ = some (.int .u8 (d.rs : Int)) := by rw [cell_of_row _ _ _ _ _ _ hr1]; exact hE.rs
  obtain ⟨r, hr⟩ : ∃ r : Int, (if d.kd = 19 then (d.rs : Int) else 2) = r := ⟨_, rfl⟩
  have HR : Hid ((if d.kd = 19 then (d.rs : Int) else 2) = r) := hr
  have hgz : (W1.alloc (.cells #[.int .i64 0, .int .u16 0, .string ⟨#[]⟩, .string ⟨#[]⟩, .string ⟨#[]⟩, .slice none 0 0, .bool false, .int .u32 0, .string ⟨#[]⟩, .string ⟨#[]⟩, .bool false, .int .u16 0, .int .u16 0, .slice none 0 0, .slice none 0 0, .int .u8 0, .int .u8 0, .int .u8 0, .slice none 0 0] 46)).heap[W1.heap.size]? = some (.cells #[.int .i64 0, .int .u16 0, .string ⟨#[]⟩, .string ⟨#[]⟩, .string ⟨#[]⟩, .slice none 0 0, .bool false, .int .u32 0, .string ⟨#[]⟩, .string ⟨#[]⟩, .bool false, .int .u16 0, .int .u16 0, .slice none 0 0, .slice none 0 0, .int .u8 0, .int .u8 0, .int .u8 0, .slice none 0 0] 46) := alloc_new W1 _
  have hgs := pd0_z
  have hs0 := size40' 0 zc
  have hzo := pd_one 0 zc zc_one
  have hb0 := pd_zero0
  have hg3 := setRow_heap (W1.alloc (.cells #[.int .i64 0, .int .u16 0, .string ⟨#[]⟩, .string ⟨#[]⟩, .string ⟨#[]⟩, .slice none 0 0, .bool false, .int .u32 0, .string ⟨#[]⟩, .string ⟨#[]⟩, .bool false, .int .u16 0, .int .u16 0, .slice none 0 0, .slice none 0 0, .int .u8 0, .int .u8 0, .int .u8 0, .slice none 0 0] 46)) W1.heap.size _ (Pd 0 zc) 46 _ hgz
  have hb3 : Below W1.heap.size W1 ((W1.alloc (.cells #[.int .i64 0, .int .u16 0, .string ⟨#[]⟩, .string ⟨#[]⟩, .string ⟨#[]⟩, .slice none 0 0, .bool false, .int .u32 0, .string ⟨#[]⟩, .string ⟨#[]⟩, .bool false, .int .u16 0, .int .u16 0, .slice none 0 0, .slice none 0 0, .int .u8 0, .int .u8 0, .int .u8 0, .slice none 0 0] 46)).setRow W1.heap.size (Pd 0 zc)) := below_setRow ((Below.refl _ _).alloc (Nat.le_refl _) _) (Nat.le_refl _) _
  obtain ⟨W3, hW3⟩ : ∃ W3, (W1.alloc (.cells #[.int .i64 0, .int .u16 0, .string ⟨#[]⟩, .string ⟨#[]⟩, .string ⟨#[]⟩, .slice none 0 0, .bool false, .int .u32 0, .string ⟨#[]⟩, .string ⟨#[]⟩, .bool false, .int .u16 0, .int .u16 0, .slice none 0 0, .slice none 0 0, .int .u8 0, .int .u8 0, .int .u8 0, .slice none 0 0] 46)).setRow W1.heap.size (Pd 0 zc) = W3 := ⟨_, rfl⟩
  rw [hW3] at hg3 hb3
  have hb13 : Below w.heap.size w W3 := hb1.trans (hb3.mono hb1.size)
  have F : Hid (Fr w p EV S d W3) := ⟨hP.on hb13, (hb3.block _ (by omega)).trans hr1, by rw [← hs1]; exact hg3, hy _ (.of hb13), .of hb13, hP.lt, hy⟩
  obtain ⟨Z0, hZ0⟩ : ∃ A, Pd 0 zc = A := ⟨_, rfl⟩
  rw [hZ0] at hgs hs0 hzo hb0 hW3
  obtain ⟨fs4, hu4⟩ := hu40
  clear hP hE hy hb3 hb13 hg3 hZ0 hb1
  go_enter Tryd.func29, Tryd.ntmps29
  go_upto_if 12 with fail
  go_cut [7] from 13 (fun s7 wx => s7 = .int .u8 r ∧ wx = W1)
  case first =>
    by_cases h19 : d.kd = 19
    · rw [if_pos h19] at hr
      have hk : (d.kd == 19) = true := by rw [h19]; rfl
      clear h19
      go_wp2
      go_meet
      case rel => exact ⟨by first | rfl | rw [hr], rfl⟩
    · rw [if_neg h19] at hr
      have hk : (d.kd == 19) = false := by simpa using h19
      clear h19
      go_wp2
      go_meet
      case rel => exact ⟨by first | rfl | rw [hr], rfl⟩
  case rest =>
  obtain ⟨rfl, rfl⟩ := hcut
  have HW1 : Hid (wc.heap.size = w.heap.size + 1) := hs1
  clear e0 e40 hr1 hr hW1 hs1
  obtain ⟨PVa, ca, hRa⟩ := F.out.rv
  have h1 := rsend_any W3 S.K.k ca S.K.D hRa.ox.toOX.rx
  have hrn : W3.rangeAt p 5 (Pd S.K.k ca).toList := fun j v hv => by rw [cell_of_row _ _ _ _ _ _ hRa.row]; exact hRa.kept j v hv
  have hsl := size40 S.K.k ca
  have HSA : Hid (SameC S.K.c ca) := hRa.same
  generalize hPQ : Pd S.K.k ca = PQ at h1 hrn hsl
  clear hPQ hRa
  go_wp2_with (first | (refine step_build rfl 46 _ rfl Z0 (by simp [Act.eval]; exact hb0) ?_) | (refine wpList_store_row rfl 46 (.tmp 8) (.tmp 15) rfl wc.heap.size Z0 rfl rfl 46 _ hgz hs0 hgs hzo ?_) | (refine wpList_load_mid rfl 46 (.tmp 35) rfl p 5 rfl PQ.toList _ hrn hu4 rfl hsl ?_) | (go_at_call 41; refine h1.mono ?_; refine Stop9.mk ?_))
  rintro x V1 ⟨c1, rfl, ho1, hc1, hB1⟩
  have F1 : Hid (Fr w p EV _ d V1 ∧ OX w.heap.size V1 c1 S.K.D ∧ SameC S.K.c c1 ∧ Below W3.heap.size W3 V1) := ⟨F.out.on hB1, ho1.low F.out.but.size, HSA.out.trans hc1, hB1⟩
  generalize hRQ1 : Ac 3 0 S.K.k c1 = RQ1
  have HRQ1 : Hid (Ac 3 0 S.K.k c1 = RQ1) := hRQ1
  clear hRQ1 h1 ho1 hc1 hB1 hrn hsl
  have F10 : Hid (Fr w p EV _ d V1) := F1.out.1
  go_wp2_with (first | fail | (refine slice1 rfl (.tmp 37) rfl RQ1 3 0 (S.K.k) (c1) HRQ1.out rfl ?_))
  go_ret
  refine ⟨_, rfl, ?_, F10.out.rv.on ((Below.refl _ _).alloc (Nat.le_refl _) _), F10.out.but.trans (.of ((Below.refl _ _).alloc (Nat.le_refl _) _))⟩
  rw [(show actsN 2 S d = [⟨3, 0, S.K.k, S.K.c, S.K.D⟩] from rfl)]
  exact ax_one (B := w.heap.size) HRQ1.out F1.out.2.1 F1.out.2.2.1 F10.out.but.size rfl
set_option maxRecDepth 100000 in
set_option maxHeartbeats 2000000 in
theorem rdo_6t (w : World) (p : Nat) (EV : Array Value) (S : Prov) (d : EvD) (ha : 1 ≤ S.art) (hP : RvE w p S) (hy : ∀ W', BelBut p w W' → EvY W' EV d) (hbd : d.bad = true) :
    Calls Tryd.prog 29 #[.pointer (some ⟨p, 0, none⟩), .int .i64 6, .agg EV] w (RActP 6 w p S d) := by
  have hE := hy w (.refl _ _)
  have _ha := ha
  obtain ⟨W1, hW1⟩ : ∃ W1, w.alloc (.cells EV 48) = W1 := ⟨_, rfl⟩
  have hb1 : Below w.heap.size w W1 := by rw [← hW1]; exact (Below.refl _ _).alloc (Nat.le_refl _) _
  have hr1 : W1.heap[w.heap.size]? = some (.cells EV 48) := by rw [← hW1]; exact alloc_new w _
  have hs1 : W1.heap.size = w.heap.size + 1 := by rw [← hW1]; simp
  have e0 : W1.cell? ⟨w.heap.size, 0, none⟩ = some (.int .i64 d.kd) := by rw [cell_of_row _ _ _ _ _ _ hr1]; exact hE.ev.kd
  have e40 : W1.cell? ⟨w.heap.size, 40, none⟩ = some (.int .u8 (d.rs : Int)) := by rw [cell_of_row _ _ _ _ _ _ hr1]; exact hE.rs
  obtain ⟨r, hr⟩ : ∃ r : Int, (if d.kd = 19 then (d.rs : Int) else 2) = r := ⟨_, rfl⟩
  have HR : Hid ((if d.kd = 19 then (d.rs : Int) else 2) = r) := hr
  have hgz : (W1.alloc (.cells #[.int .i64 0, .int .u16 0, .string ⟨#[]⟩, .string ⟨#[]⟩, .string ⟨#[]⟩, .slice none 0 0, .bool false, .int .u32 0, .string ⟨#[]⟩, .string ⟨#[]⟩, .bool false, .int .u16 0, .int .u16 0, .slice none 0 0, .slice none 0 0, .int .u8 0, .int .u8 0, .int .u8 0, .slice none 0 0] 46)).heap[W1.heap.size]? = some (.cells #[.int .i64 0, .int .u16 0, .string ⟨#[]⟩, .string ⟨#[]⟩, .string ⟨#[]⟩, .slice none 0 0, .bool false, .int .u32 0, .string ⟨#[]⟩, .string ⟨#[]⟩, .bool false, .int .u16 0, .int .u16 0, .slice none 0 0, .slice none 0 0, .int .u8 0, .int .u8 0, .int .u8 0, .slice none 0 0] 46) := alloc_new W1 _
  have hgs := pd0_z
  have hs0 := size40' 0 zc
  have hzo := pd_one 0 zc zc_one
  have hb0 := pd_zero0
  have hg3 := setRow_heap (W1.alloc (.cells #[.int .i64 0, .int .u16 0, .string ⟨#[]⟩, .string ⟨#[]⟩, .string ⟨#[]⟩, .slice none 0 0, .bool false, .int .u32 0, .string ⟨#[]⟩, .string ⟨#[]⟩, .bool false, .int .u16 0, .int .u16 0, .slice none 0 0, .slice none 0 0, .int .u8 0, .int .u8 0, .int .u8 0, .slice none 0 0] 46)) W1.heap.size _ (Pd 0 zc) 46 _ hgz
  have hb3 : Below W1.heap.size W1 ((W1.alloc (.cells #[.int .i64 0, .int .u16 0, .string ⟨#[]⟩, .string ⟨#[]⟩, .string ⟨#[]⟩, .slice none 0 0, .bool false, .int .u32 0, .string ⟨#[]⟩, .string ⟨#[]⟩, .bool false, .int .u16 0, .int .u16 0, .slice none 0 0, .slice none 0 0, .int .u8 0, .int .u8 0, .int .u8 0, .slice none 0 0] 46)).setRow W1.heap.size (Pd 0 zc)) := below_setRow ((Below.refl _ _).alloc (Nat.le_refl _) _) (Nat.le_refl _) _
  obtain ⟨W3, hW3⟩ : ∃ W3, (W1.alloc (.cells #[.int .i64 0, .int .u16 0, .string ⟨#[]⟩, .string ⟨#[]⟩, .string ⟨#[]⟩, .slice none 0 0, .bool false, .int .u32 0, .string ⟨#[]⟩, .string ⟨#[]⟩, .bool false, .int .u16 0, .int .u16 0, .slice none 0 0, .slice none 0 0, .int .u8 0, .int .u8 0, .int .u8 0, .slice none 0 0] 46)).setRow W1.heap.size (Pd 0 zc) = W3 := ⟨_, rfl⟩
  rw [hW3] at hg3 hb3
  have hb13 : Below w.heap.size w W3 := hb1.trans (hb3.mono hb1.size)
  have F : Hid (Fr w p EV S d W3) := ⟨hP.on hb13, (hb3.block _ (by omega)).trans hr1, by rw [← hs1]; exact hg3, hy _ (.of hb13), .of hb13, hP.lt, hy⟩
  obtain ⟨Z0, hZ0⟩ : ∃ A, Pd 0 zc = A := ⟨_, rfl⟩
  rw [hZ0] at hgs hs0 hzo hb0 hW3
  obtain ⟨fs4, hu4⟩ := hu40
  clear hP hE hy hb3 hb13 hg3 hZ0 hb1
  go_enter Tryd.func29, Tryd.ntmps29
  go_upto_if 12 with fail
  go_cut [7] from 13 (fun s7 wx => s7 = .int .u8 r ∧ wx = W1)
  case first =>
    by_cases h19 : d.kd = 19
    · rw [if_pos h19] at hr
      have hk : (d.kd == 19) = true := by rw [h19]; rfl
      clear h19
      go_wp2
      go_meet
      case rel => exact ⟨by first | rfl | rw [hr], rfl⟩
    · rw [if_neg h19] at hr
      have hk : (d.kd == 19) = false := by simpa using h19
      clear h19
      go_wp2
      go_meet
      case rel => exact ⟨by first | rfl | rw [hr], rfl⟩
  case rest =>
  obtain ⟨rfl, rfl⟩ := hcut
  have HW1 : Hid (wc.heap.size = w.heap.size + 1) := hs1
  clear e0 e40 hr1 hr hW1 hs1
  have f20 : W3.cell? ⟨w.heap.size, 20, none⟩ = some (.bool true) := by rw [cell_of_row _ _ _ _ _ _ F.out.ev, ← hbd]; exact F.out.y.bad
  have h1 := start_any W3 p _ (by first | exact ha | exact ha) F.out.rv
  go_wp2_with (first | (refine step_build rfl 46 _ rfl Z0 (by simp [Act.eval]; exact hb0) ?_) | (refine wpList_store_row rfl 46 (.tmp 8) (.tmp 15) rfl wc.heap.size Z0 rfl rfl 46 _ hgz hs0 hgs hzo ?_) | (go_at_call 44; refine h1.mono ?_; refine Stop9.mk ?_))
  rintro x V1 ⟨rfl, hq1, hB1⟩
  have F1 : Hid (Fr w p EV _ d V1) := F.out.tim hq1 hB1
  clear h1 hq1 hB1
  have h2 := rsend_any V1 d.a.k d.a.c d.a.D F1.out.y.ev.r2
  have hrn := F1.out.rana
  have hsl := size40 d.a.k d.a.c
  generalize hPQ : Pd d.a.k d.a.c = PQ at h2 hrn hsl
  clear hPQ
  go_wp2_with (first | fail | (refine wpList_load_mid rfl 46 (.tmp 68) rfl w.heap.size 21 rfl PQ.toList _ hrn hu4 rfl hsl ?_) | (go_at_call 41; refine h2.mono ?_; refine Stop9.mk ?_))
  rintro x V2 ⟨c2, rfl, ho2, hc2, hB2⟩
  have F2 : Hid (Fr w p EV _ d V2 ∧ OX w.heap.size V2 c2 d.a.D ∧ SameC d.a.c c2 ∧ Below V1.heap.size V1 V2) := ⟨F1.out.on hB2, ho2.low F1.out.but.size, hc2, hB2⟩
  generalize hRQ2 : Ac 3 0 d.a.k c2 = RQ2
  have HRQ2 : Hid (Ac 3 0 d.a.k c2 = RQ2) := hRQ2
  clear hRQ2 h2 ho2 hc2 hB2 hrn hsl
  have F20 : Hid (Fr w p EV _ d V2) := F2.out.1
  go_wp2_with (first | fail | (refine slice1 rfl (.tmp 70) rfl RQ2 3 0 (d.a.k) (c2) HRQ2.out rfl ?_))
  go_ret
  refine ⟨_, rfl, ?_, (show RvE _ p (rS _ S d) from by unfold rS; rw [hbd]; exact F20.out.rv.on ((Below.refl _ _).alloc (Nat.le_refl _) _)), F20.out.but.trans (.of ((Below.refl _ _).alloc (Nat.le_refl _) _))⟩
  rw [(show actsN 6 S d = [⟨3, 0, d.a.k, d.a.c, d.a.D⟩] from by unfold actsN; rw [hbd]; rfl)]
  exact ax_one (B := w.heap.size) HRQ2.out F2.out.2.1 F2.out.2.2.1 F20.out.but.size rfl
set_option maxRecDepth 100000 in
set_option maxHeartbeats 2000000 in
theorem rdo_6f (w : World) (p : Nat) (EV : Array Value) (S : Prov) (d : EvD) (ha : 1 ≤ S.art) (hP : RvE w p S) (hy : ∀ W', BelBut p w W' → EvY W' EV d) (hbd : d.bad = false) :
    Calls Tryd.prog 29 #[.pointer (some ⟨p, 0, none⟩), .int .i64 6, .agg EV] w (RActP 6 w p S d) := by
  have hE := hy w (.refl _ _)
  have _ha := ha
  obtain ⟨W1, hW1⟩ : ∃ W1, w.alloc (.cells EV 48) = W1 := ⟨_, rfl⟩
  have hb1 : Below w.heap.size w W1 := by rw [← hW1]; exact (Below.refl _ _).alloc (Nat.le_refl _) _
  have hr1 : W1.heap[w.heap.size]? = some (.cells EV 48) := by rw [← hW1]; exact alloc_new w _
  have hs1 : W1.heap.size = w.heap.size + 1 := by rw [← hW1]; simp
  have e0 : W1.cell? ⟨w.heap.size, 0, none⟩ = some (.int .i64 d.kd) := by rw [cell_of_row _ _ _ _ _ _ hr1]; exact hE.ev.kd
  have e40 : W1.cell? ⟨w.heap.size, 40, none⟩ = some (.int .u8 (d.rs : Int)) := by rw [cell_of_row _ _ _ _ _ _ hr1]; exact hE.rs
  obtain ⟨r, hr⟩ : ∃ r : Int, (if d.kd = 19 then (d.rs : Int) else 2) = r := ⟨_, rfl⟩
  have HR : Hid ((if d.kd = 19 then (d.rs : Int) else 2) = r) := hr
  have hgz : (W1.alloc (.cells #[.int .i64 0, .int .u16 0, .string ⟨#[]⟩, .string ⟨#[]⟩, .string ⟨#[]⟩, .slice none 0 0, .bool false, .int .u32 0, .string ⟨#[]⟩, .string ⟨#[]⟩, .bool false, .int .u16 0, .int .u16 0, .slice none 0 0, .slice none 0 0, .int .u8 0, .int .u8 0, .int .u8 0, .slice none 0 0] 46)).heap[W1.heap.size]? = some (.cells #[.int .i64 0, .int .u16 0, .string ⟨#[]⟩, .string ⟨#[]⟩, .string ⟨#[]⟩, .slice none 0 0, .bool false, .int .u32 0, .string ⟨#[]⟩, .string ⟨#[]⟩, .bool false, .int .u16 0, .int .u16 0, .slice none 0 0, .slice none 0 0, .int .u8 0, .int .u8 0, .int .u8 0, .slice none 0 0] 46) := alloc_new W1 _
  have hgs := pd0_z
  have hs0 := size40' 0 zc
  have hzo := pd_one 0 zc zc_one
  have hb0 := pd_zero0
  have hg3 := setRow_heap (W1.alloc (.cells #[.int .i64 0, .int .u16 0, .string ⟨#[]⟩, .string ⟨#[]⟩, .string ⟨#[]⟩, .slice none 0 0, .bool false, .int .u32 0, .string ⟨#[]⟩, .string ⟨#[]⟩, .bool false, .int .u16 0, .int .u16 0, .slice none 0 0, .slice none 0 0, .int .u8 0, .int .u8 0, .int .u8 0, .slice none 0 0] 46)) W1.heap.size _ (Pd 0 zc) 46 _ hgz
  have hb3 : Below W1.heap.size W1 ((W1.alloc (.cells #[.int .i64 0, .int .u16 0, .string ⟨#[]⟩, .string ⟨#[]⟩, .string ⟨#[]⟩, .slice none 0 0, .bool false, .int .u32 0, .string ⟨#[]⟩, .string ⟨#[]⟩, .bool false, .int .u16 0, .int .u16 0, .slice none 0 0, .slice none 0 0, .int .u8 0, .int .u8 0, .int .u8 0, .slice none 0 0] 46)).setRow W1.heap.size (Pd 0 zc)) := below_setRow ((Below.refl _ _).alloc (Nat.le_refl _) _) (Nat.le_refl _) _
  obtain ⟨W3, hW3⟩ : ∃ W3, (W1.alloc (.cells #[.int .i64 0, .int .u16 0, .string ⟨#[]⟩, .string ⟨#[]⟩, .string ⟨#[]⟩, .slice none 0 0, .bool false, .int .u32 0, .string ⟨#[]⟩, .string ⟨#[]⟩, .bool false, .int .u16 0, .int .u16 0, .slice none 0 0, .slice none 0 0, .int .u8 0, .int .u8 0, .int .u8 0, .slice none 0 0] 46)).setRow W1.heap.size (Pd 0 zc) = W3 := ⟨_, rfl⟩
  rw [hW3] at hg3 hb3
  have hb13 : Below w.heap.size w W3 := hb1.trans (hb3.mono hb1.size)
  have F : Hid (Fr w p EV S d W3) := ⟨hP.on hb13, (hb3.block _ (by omega)).trans hr1, by rw [← hs1]; exact hg3, hy _ (.of hb13), .of hb13, hP.lt, hy⟩
  obtain ⟨Z0, hZ0⟩ : ∃ A, Pd 0 zc = A := ⟨_, rfl⟩
  rw [hZ0] at hgs hs0 hzo hb0 hW3
  obtain ⟨fs4, hu4⟩ := hu40
  clear hP hE hy hb3 hb13 hg3 hZ0 hb1
  go_enter Tryd.func29, Tryd.ntmps29
  go_upto_if 12 with fail
  go_cut [7] from 13 (fun s7 wx => s7 = .int .u8 r ∧ wx = W1)
  case first =>
    by_cases h19 : d.kd = 19
    · rw [if_pos h19] at hr
      have hk : (d.kd == 19) = true := by rw [h19]; rfl
      clear h19
      go_wp2
      go_meet
      case rel => exact ⟨by first | rfl | rw [hr], rfl⟩
    · rw [if_neg h19] at hr
      have hk : (d.kd == 19) = false := by simpa using h19
      clear h19
      go_wp2
      go_meet
      case rel => exact ⟨by first | rfl | rw [hr], rfl⟩
  case rest =>
  obtain ⟨rfl, rfl⟩ := hcut
  have HW1 : Hid (wc.heap.size = w.heap.size + 1) := hs1
  clear e0 e40 hr1 hr hW1 hs1
  have f20 : W3.cell? ⟨w.heap.size, 20, none⟩ = some (.bool false) := by rw [cell_of_row _ _ _ _ _ _ F.out.ev, ← hbd]; exact F.out.y.bad
  have h1 := stop_any W3 p _ F.out.rv
  go_wp2_with (first | (refine step_build rfl 46 _ rfl Z0 (by simp [Act.eval]; exact hb0) ?_) | (refine wpList_store_row rfl 46 (.tmp 8) (.tmp 15) rfl wc.heap.size Z0 rfl rfl 46 _ hgz hs0 hgs hzo ?_) | (go_at_call 26; refine h1.mono ?_; refine Stop9.mk ?_))
  rintro x V1 ⟨rfl, hq1, hB1⟩
  have F1 : Hid (Fr w p EV _ d V1) := F.out.tim hq1 hB1
  clear h1 hq1 hB1
  have h2 := rtell_any V1 1 d.p.k d.p.c d.p.D F1.out.y.ev.r1
  have hrn := F1.out.ranp
  have hsl := size40 d.p.k d.p.c
  generalize hPQ : Pd d.p.k d.p.c = PQ at h2 hrn hsl
  clear hPQ
  go_wp2_with (first | fail | (refine wpList_load_mid rfl 46 (.tmp 74) rfl w.heap.size 1 rfl PQ.toList _ hrn hu4 rfl hsl ?_) | (go_at_call 42; refine h2.mono ?_; refine Stop9.mk ?_))
  rintro x V2 ⟨c2, rfl, ho2, hc2, hB2⟩
  have F2 : Hid (Fr w p EV _ d V2 ∧ OX w.heap.size V2 c2 d.p.D ∧ SameC d.p.c c2 ∧ Below V1.heap.size V1 V2) := ⟨F1.out.on hB2, ho2.low F1.out.but.size, hc2, hB2⟩
  generalize hRQ2 : Ac 5 1 d.p.k c2 = RQ2
  have HRQ2 : Hid (Ac 5 1 d.p.k c2 = RQ2) := hRQ2
  clear hRQ2 h2 ho2 hc2 hB2 hrn hsl
  have F20 : Hid (Fr w p EV _ d V2) := F2.out.1
  go_wp2_with (first | fail | (refine slice1 rfl (.tmp 76) rfl RQ2 5 1 (d.p.k) (c2) HRQ2.out rfl ?_))
  go_ret
  refine ⟨_, rfl, ?_, (show RvE _ p (rS _ S d) from by unfold rS; rw [hbd]; exact F20.out.rv.on ((Below.refl _ _).alloc (Nat.le_refl _) _)), F20.out.but.trans (.of ((Below.refl _ _).alloc (Nat.le_refl _) _))⟩
  rw [(show actsN 6 S d = [⟨5, 1, d.p.k, d.p.c, d.p.D⟩] from by unfold actsN; rw [hbd]; rfl)]
  exact ax_one (B := w.heap.size) HRQ2.out F2.out.2.1 F2.out.2.2.1 F20.out.but.size rfl
set_option maxRecDepth 100000 in
set_option maxHeartbeats 2000000 in
theorem rdo_18 (w : World) (p : Nat) (EV : Array Value) (S : Prov) (d : EvD) (ha : 1 ≤ S.art) (hP : RvE w p S) (hy : ∀ W', BelBut p w W' → EvY W' EV d) :
    Calls Tryd.prog 29 #[.pointer (some ⟨p, 0, none⟩), .int .i64 18, .agg EV] w (RActP 18 w p S d) := by
  have hE := hy w (.refl _ _)
  have _ha := ha
  obtain ⟨W1, hW1⟩ : ∃ W1, w.alloc (.cells EV 48) = W1 := ⟨_, rfl⟩
  have hb1 : Below w.heap.size w W1 := by rw [← hW1]; exact (Below.refl _ _).alloc (Nat.le_refl _) _
  have hr1 : W1.heap[w.heap.size]? = some (.cells EV 48) := by rw [← hW1]; exact alloc_new w _
  have hs1 : W1.heap.size = w.heap.size + 1 := by rw [← hW1]; simp
  have e0 : W1.cell? ⟨w.heap.size, 0, none⟩ = some (.int .i64 d.kd) := by rw [cell_of_row _ _ _ _ _ _ hr1]; exact hE.ev.kd
  have e40 : W1.cell? ⟨w.heap.size, 40, none⟩ = some (.int .u8 (d.rs : Int)) := by rw [cell_of_row _ _ _ _ _ _ hr1]; exact hE.rs
  obtain ⟨r, hr⟩ : ∃ r : Int, (if d.kd = 19 then (d.rs : Int) else 2) = r := ⟨_, rfl⟩
  have HR : Hid ((if d.kd = 19 then (d.rs : Int) else 2) = r) := hr
  have hgz : (W1.alloc (.cells #[.int .i64 0, .int .u16 0, .string ⟨#[]⟩, .string ⟨#[]⟩, .string ⟨#[]⟩, .slice none 0 0, .bool false, .int .u32 0, .string ⟨#[]⟩, .string ⟨#[]⟩, .bool false, .int .u16 0, .int .u16 0, .slice none 0 0, .slice none 0 0, .int .u8 0, .int .u8 0, .int .u8 0, .slice none 0 0] 46)).heap[W1.heap.size]? = some (.cells #[.int .i64 0, .int .u16 0, .string ⟨#[]⟩, .string ⟨#[]⟩, .string ⟨#[]⟩, .slice none 0 0, .bool false, .int .u32 0, .string ⟨#[]⟩, .string ⟨#[]⟩, .bool false, .int .u16 0, .int .u16 0, .slice none 0 0, .slice none 0 0, .int .u8 0, .int .u8 0, .int .u8 0, .slice none 0 0] 46) := alloc_new W1 _
  have hgs := pd0_z
  have hs0 := size40' 0 zc
  have hzo := pd_one 0 zc zc_one
  have hb0 := pd_zero0
  have hg3 := setRow_heap (W1.alloc (.cells #[.int .i64 0, .int .u16 0, .string ⟨#[]⟩, .string ⟨#[]⟩, .string ⟨#[]⟩, .slice none 0 0, .bool false, .int .u32 0, .string ⟨#[]⟩, .string ⟨#[]⟩, .bool false, .int .u16 0, .int .u16 0, .slice none 0 0, .slice none 0 0, .int .u8 0, .int .u8 0, .int .u8 0, .slice none 0 0] 46)) W1.heap.size _ (Pd 0 zc) 46 _ hgz
  have hb3 : Below W1.heap.size W1 ((W1.alloc (.cells #[.int .i64 0, .int .u16 0, .string ⟨#[]⟩, .string ⟨#[]⟩, .string ⟨#[]⟩, .slice none 0 0, .bool false, .int .u32 0, .string ⟨#[]⟩, .string ⟨#[]⟩, .bool false, .int .u16 0, .int .u16 0, .slice none 0 0, .slice none 0 0, .int .u8 0, .int .u8 0, .int .u8 0, .slice none 0 0] 46)).setRow W1.heap.size (Pd 0 zc)) := below_setRow ((Below.refl _ _).alloc (Nat.le_refl _) _) (Nat.le_refl _) _
  obtain ⟨W3, hW3⟩ : ∃ W3, (W1.alloc (.cells #[.int .i64 0, .int .u16 0, .string ⟨#[]⟩, .string ⟨#[]⟩, .string ⟨#[]⟩, .slice none 0 0, .bool false, .int .u32 0, .string ⟨#[]⟩, .string ⟨#[]⟩, .bool false, .int .u16 0, .int .u16 0, .slice none 0 0, .slice none 0 0, .int .u8 0, .int .u8 0, .int .u8 0, .slice none 0 0] 46)).setRow W1.heap.size (Pd 0 zc) = W3 := ⟨_, rfl⟩
  rw [hW3] at hg3 hb3
  have hb13 : Below w.heap.size w W3 := hb1.trans (hb3.mono hb1.size)
  have F : Hid (Fr w p EV S d W3) := ⟨hP.on hb13, (hb3.block _ (by omega)).trans hr1, by rw [← hs1]; exact hg3, hy _ (.of hb13), .of hb13, hP.lt, hy⟩
  obtain ⟨Z0, hZ0⟩ : ∃ A, Pd 0 zc = A := ⟨_, rfl⟩
  rw [hZ0] at hgs hs0 hzo hb0 hW3
  obtain ⟨fs4, hu4⟩ := hu40
  clear hP hE hy hb3 hb13 hg3 hZ0 hb1
  go_enter Tryd.func29, Tryd.ntmps29
  go_upto_if 12 with fail
  go_cut [7] from 13 (fun s7 wx => s7 = .int .u8 r ∧ wx = W1)
  case first =>
    by_cases h19 : d.kd = 19
    · rw [if_pos h19] at hr
      have hk : (d.kd == 19) = true := by rw [h19]; rfl
      clear h19
      go_wp2
      go_meet
      case rel => exact ⟨by first | rfl | rw [hr], rfl⟩
    · rw [if_neg h19] at hr
      have hk : (d.kd == 19) = false := by simpa using h19
      clear h19
      go_wp2
      go_meet
      case rel => exact ⟨by first | rfl | rw [hr], rfl⟩
  case rest =>
  obtain ⟨rfl, rfl⟩ := hcut
  have HW1 : Hid (wc.heap.size = w.heap.size + 1) := hs1
  clear e0 e40 hr1 hr hW1 hs1
  have h1 := rtell_any W3 5 0 zc D0 (rx_zero W3)
  have hrn := F.out.no
  rw [← HW1.out] at hrn
  have hsl := size40' 0 zc
  generalize Pd 0 zc = PQ at h1 hrn hsl
  go_wp2_with (first | (refine step_build rfl 46 _ rfl Z0 (by simp [Act.eval]; exact hb0) ?_) | (refine wpList_store_row rfl 46 (.tmp 8) (.tmp 15) rfl wc.heap.size Z0 rfl rfl 46 _ hgz hs0 hgs hzo ?_) | (refine wpList_load_row rfl 46 (.tmp 8) rfl wc.heap.size rfl 46 PQ (0, 0) _ hrn hu4 rfl hsl ?_) | (go_at_call 42; refine h1.mono ?_; refine Stop9.mk ?_))
  rintro x V1 ⟨c1, rfl, ho1, hc1, hB1⟩
  have F1 : Hid (Fr w p EV _ d V1 ∧ OX w.heap.size V1 c1 D0 ∧ SameC (zc) c1 ∧ Below W3.heap.size W3 V1) := ⟨F.out.on hB1, ho1.low F.out.but.size, hc1, hB1⟩
  generalize hRQ1 : Ac 5 5 0 c1 = RQ1
  have HRQ1 : Hid (Ac 5 5 0 c1 = RQ1) := hRQ1
  clear hRQ1 h1 ho1 hc1 hB1 hrn hsl
  have F10 : Hid (Fr w p EV _ d V1) := F1.out.1
  go_wp2_with (first | fail | (refine slice1 rfl (.tmp 110) rfl RQ1 5 5 (0) (c1) HRQ1.out rfl ?_))
  go_ret
  refine ⟨_, rfl, ?_, (show RvE _ p (rS 18 S d) from by unfold rS; rw [show timerA (whichA 18 S.asked d.bad) = 0 from by cases S.asked <;> cases d.bad <;> rfl]; exact F10.out.rv.on ((Below.refl _ _).alloc (Nat.le_refl _) _)), F10.out.but.trans (.of ((Below.refl _ _).alloc (Nat.le_refl _) _))⟩
  rw [(show actsN 18 S d = [⟨5, 5, 0, zc, D0⟩] from by unfold actsN; cases S.asked <;> cases d.bad <;> rfl)]
  exact ax_one (B := w.heap.size) HRQ1.out F1.out.2.1 F1.out.2.2.1 F10.out.but.size rfl
end Go.Proofs.YtiieikdbhpflgabDoor
