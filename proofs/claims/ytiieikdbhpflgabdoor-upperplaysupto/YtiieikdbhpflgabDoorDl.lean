import Derived.Test.YtiieikdbhpflgabDoorDc
/-
  DERIVED. What the document's provider does: the actions with cases, on.
-/
namespace Go.Proofs.YtiieikdbhpflgabDoor
open Go Go.Proofs Go.RowKit

set_option maxRecDepth 100000 in
set_option maxHeartbeats 2000000 in
theorem rdo_23z (w : World) (p : Nat) (EV : Array Value) (S : Prov) (d : EvD) (ha : 1 ≤ S.art) (hP : RvE w p S) (hy : ∀ W', BelBut p w W' → EvY W' EV d) (hq0 : d.s = 0) :
    Calls Tryd.prog 29 #[.pointer (some ⟨p, 0, none⟩), .int .i64 23, .agg EV] w (RActP 23 w p S d) := by
  have hE := hy w (.refl _ _)
  have _ha := ha
  obtain ⟨W1, hW1⟩ : ∃ W1, w.alloc (.cells EV 48) = W1 := ⟨_, rfl⟩
  have hb1 : Below w.heap.size w W1 := by rw [← hW1]; exact (Below.refl _ _).alloc (Nat.le_refl _) _
  have hr1 : W1.heap[w.heap.size]? = some (.cells EV 48) := by rw [← hW1]; exact alloc_new w _
  have hs1 : W1.heap.size = w.heap.size + 1 := by rw [← hW1]; simp
  have e0 : W1.cell? ⟨w.heap.size, 0, none⟩ = some (.int .i64 d.kd) := by rw [cell_of_row _ _ _ _ _ _ hr1]; exact hE.ev.kd
  have e40 : W1.cell? ⟨w.heap.size, 40, none⟩ = some (.int .u8 (d.rs : Int)) := by rw [cell_of_row _ _ _ _ _ _ hr1]; exact hE.rs
  obtain ⟨r, hr⟩ : ∃ r : Int, (if d.kd = 19 then (d.rs : Int) else 2) = r := ⟨_, rfl⟩
  have HR : Hid ((if d.kd = 19 then (d.rs : Int) else 2) = r) := hr
  have hgz : (W1.alloc (.cells #[.int .i64 0, .int .u16 0, .string ⟨#[]⟩, .string ⟨#[]⟩, .string ⟨#[]⟩, .slice none 0 0, .bool false, .int .u32 0, .string ⟨#[]⟩, .string ⟨#[]⟩, .bool false, .int .u16 0, .int .u16 0, .slice none 0 0, .slice none 0 0, .int .u8 0, .int .u8 0, .int .u8 0, .slice none 0 0] 46)).heap[W1.heap.size]? = some (.cells #[.int .i64 0, .int .u16 0, .string ⟨#[]⟩, .string ⟨#[]⟩, .string ⟨#[]⟩, .slice none 0 0, .bool false, .int .u32 0, .string ⟨#[]⟩, .string ⟨#[]⟩, .bool false, .int .u16 0, .int .u16 0, .slice none 0 0, .slice none 0 0, .int .u8 0, .int .u8 0, .int .u8 0, .slice none 0 0] 46) := alloc_new W1 _
  have hgs := pd0_z
  have hs0 := size40' 0 zc
  have hzo := pd_one 0 zc zc_one
  have hb0 := pd_zero0
  have hg3 := setRow_heap (W1.alloc (.cells #[.int .i64 0, .int .u16 0, .string ⟨#[]⟩, .string ⟨#[]⟩, .string ⟨#[]⟩, .slice none 0 0, .bool false, .int .u32 0, .string ⟨#[]⟩, .string ⟨#[]⟩, .bool false, .int .u16 0, .int .u16 0, .slice none 0 0, .slice none 0 0, .int .u8 0, .int .u8 0, .int .u8 0, .slice none 0 0] 46)) W1.heap.size _ (Pd 0 zc) 46 _ hgz
  have hb3 : Below W1.heap.size W1 ((W1.alloc (.cells #[.int .i64 0, .int .u16 0, .string ⟨#[]⟩, .string ⟨#[]⟩, .string ⟨#[]⟩, .slice none 0 0, .bool false, .int .u32 0, .string ⟨#[]⟩, .string ⟨#[]⟩, .bool false, .int .u16 0, .int .u16 0, .slice none 0 0, .slice none 0 0, .int .u8 0, .int .u8 0, .int .u8 0, .slice none 0 0] 46)).setRow W1.heap.size (Pd 0 zc)) := below_setRow ((Below.refl _ _).alloc (Nat.le_refl _) _) (Nat.le_refl _) _
  obtain ⟨W3, hW3⟩ : ∃ W3, (W1.alloc (.cells #[.int .i64 0, .int .u16 0, .string ⟨#[]⟩, .string ⟨#[]⟩, .string ⟨#[]⟩, .slice none 0 0, .bool false, .int .u32 0, .string ⟨#[]⟩, .string ⟨#[]⟩, .bool false, .int .u16 0, .int .u16 0, .slice none 0 0, .slice none 0 0, .int .u8 0, .int .u8 0, .int .u8 0, .slice none 0 0] 46)).setRow W1.heap.size (Pd 0 zc) = W3 := ⟨_, rfl⟩
  rw [hW3] at hg3 hb3
  have hb13 : Below w.heap.size w W3 := hb1.trans (hb3.mono hb1.size)
  have F : Hid (Fr w p EV S d W3) := ⟨hP.on hb13, (hb3.block _ (by omega)).trans hr1, by rw [← hs1]; exact hg3, hy _ (.of hb13), .of hb13, hP.lt, hy⟩
  obtain ⟨Z0, hZ0⟩ : ∃ A, Pd 0 zc = A := ⟨_, rfl⟩
  rw [hZ0] at hgs hs0 hzo hb0 hW3
  obtain ⟨fs4, hu4⟩ := hu40
  clear hP hE hy hb3 hb13 hg3 hZ0 hb1
  go_enter Tryd.func29, Tryd.ntmps29
  go_upto_if 12 with fail
  go_cut [7] from 13 (fun s7 wx => s7 = .int .u8 r ∧ wx = W1)
  case first =>
    by_cases h19 : d.kd = 19
    · rw [if_pos h19] at hr
      have hk : (d.kd == 19) = true := by rw [h19]; rfl
      clear h19
      go_wp2
      go_meet
      case rel => exact ⟨by first | rfl | rw [hr], rfl⟩
    · rw [if_neg h19] at hr
      have hk : (d.kd == 19) = false := by simpa using h19
      clear h19
      go_wp2
      go_meet
      case rel => exact ⟨by first | rfl | rw [hr], rfl⟩
  case rest =>
  obtain ⟨rfl, rfl⟩ := hcut
  have HW1 : Hid (wc.heap.size = w.heap.size + 1) := hs1
  clear e0 e40 hr1 hr hW1 hs1
  have f17 : W3.cell? ⟨w.heap.size, 17, none⟩ = some (.int .u8 0) := by rw [cell_of_row _ _ _ _ _ _ F.out.ev]; have : EV[1 + 16]? = some (d.p.c 15) := F.out.y.ev.pdu 16 _ rfl; rw [F.out.y.s] at this; rw [hq0] at this; exact this
  have h1 := rtell_any W3 7 d.p.k d.p.c d.p.D F.out.y.ev.r1
  have hrn := F.out.ranp
  have hsl := size40 d.p.k d.p.c
  generalize hPQ : Pd d.p.k d.p.c = PQ at h1 hrn hsl
  clear hPQ
  go_wp2_with (first | (refine step_build rfl 46 _ rfl Z0 (by simp [Act.eval]; exact hb0) ?_) | (refine wpList_store_row rfl 46 (.tmp 8) (.tmp 15) rfl wc.heap.size Z0 rfl rfl 46 _ hgz hs0 hgs hzo ?_) | (refine wpList_load_mid rfl 46 (.tmp 160) rfl w.heap.size 1 rfl PQ.toList _ hrn hu4 rfl hsl ?_) | (go_at_call 42; refine h1.mono ?_; refine Stop9.mk ?_))
  rintro x V1 ⟨c1, rfl, ho1, hc1, hB1⟩
  have F1 : Hid (Fr w p EV _ d V1 ∧ OX w.heap.size V1 c1 d.p.D ∧ SameC d.p.c c1 ∧ Below W3.heap.size W3 V1) := ⟨F.out.on hB1, ho1.low F.out.but.size, hc1, hB1⟩
  generalize hRQ1 : Ac 5 7 d.p.k c1 = RQ1
  have HRQ1 : Hid (Ac 5 7 d.p.k c1 = RQ1) := hRQ1
  clear hRQ1 h1 ho1 hc1 hB1 hrn hsl
  have F10 : Hid (Fr w p EV _ d V1) := F1.out.1
  have h2 := rshut_any V1
  generalize hRQ2 : Ac 4 0 0 zc = RQ2 at h2
  have HRQ2 : Hid (Ac 4 0 0 zc = RQ2) := hRQ2
  clear hRQ2
  go_wp2_with (first | fail | (go_at_call 43; refine h2.mono ?_; refine Stop9.mk ?_))
  rintro x V2 ⟨rfl, hB2⟩
  have F2 : Hid (Fr w p EV _ d V2 ∧ OX w.heap.size V2 zc D0 ∧ SameC zc zc ∧ Below V1.heap.size V1 V2) := ⟨F10.out.on hB2, ox_zero _ _ _ zc_one rfl rfl rfl rfl, .refl _, hB2⟩
  clear h2 hB2
  have F20 : Hid (Fr w p EV _ d V2) := F2.out.1
  go_wp2_with (first | fail | (refine slice2 rfl (.tmp 162) (.tmp 163) rfl RQ1 RQ2 5 7 (d.p.k) (c1) HRQ1.out 4 0 (0) (zc) HRQ2.out rfl rfl ?_))
  go_ret
  refine ⟨_, rfl, ?_, F20.out.rv.on ((Below.refl _ _).alloc (Nat.le_refl _) _), F20.out.but.trans (.of ((Below.refl _ _).alloc (Nat.le_refl _) _))⟩
  rw [(show actsN 23 S d = [⟨5, 7, d.p.k, d.p.c, d.p.D⟩, shA] from by show [(⟨5, if d.s = 0 then 7 else 8, d.p.k, d.p.c, d.p.D⟩ : AcD), shA] = _; rw [if_pos hq0])]
  exact ax_two (B := w.heap.size) HRQ1.out HRQ2.out (F1.out.2.1.keep fun b _ hb => F2.out.2.2.2.block b hb) F1.out.2.2.1 F2.out.2.1 F2.out.2.2.1 F20.out.but.size rfl
set_option maxRecDepth 100000 in
set_option maxHeartbeats 2000000 in
theorem rdo_23n (w : World) (p : Nat) (EV : Array Value) (S : Prov) (d : EvD) (ha : 1 ≤ S.art) (hP : RvE w p S) (hy : ∀ W', BelBut p w W' → EvY W' EV d) (hq0 : ¬ d.s = 0) :
    Calls Tryd.prog 29 #[.pointer (some ⟨p, 0, none⟩), .int .i64 23, .agg EV] w (RActP 23 w p S d) := by
  have hE := hy w (.refl _ _)
  have _ha := ha
  obtain ⟨W1, hW1⟩ : ∃ W1, w.alloc (.cells EV 48) = W1 := ⟨_, rfl⟩
  have hb1 : Below w.heap.size w W1 := by rw [← hW1]; exact (Below.refl _ _).alloc (Nat.le_refl _) _
  have hr1 : W1.heap[w.heap.size]? = some (.cells EV 48) := by rw [← hW1]; exact alloc_new w _
  have hs1 : W1.heap.size = w.heap.size + 1 := by rw [← hW1]; simp
  have e0 : W1.cell? ⟨w.heap.size, 0, none⟩ = some (.int .i64 d.kd) := by rw [cell_of_row _ _ _ _ _ _ hr1]; exact hE.ev.kd
  have e40 : W1.cell? ⟨w.heap.size, 40, none⟩ = some (.int .u8 (d.rs : Int)) := by rw [cell_of_row _ _ _ _ _ _ hr1]; exact hE.rs
  obtain ⟨r, hr⟩ : ∃ r : Int, (if d.kd = 19 then (d.rs : Int) else 2) = r := ⟨_, rfl⟩
  have HR : Hid ((if d.kd = 19 then (d.rs : Int) else 2) = r) := hr
  have hgz : (W1.alloc (.cells #[.int .i64 0, .int .u16 0, .string ⟨#[]⟩, .string ⟨#[]⟩, .string ⟨#[]⟩, .slice none 0 0, .bool false, .int .u32 0, .string ⟨#[]⟩, .string ⟨#[]⟩, .bool false, .int .u16 0, .int .u16 0, .slice none 0 0, .slice none 0 0, .int .u8 0, .int .u8 0, .int .u8 0, .slice none 0 0] 46)).heap[W1.heap.size]? = some (.cells #[.int .i64 0, .int .u16 0, .string ⟨#[]⟩, .string ⟨#[]⟩, .string ⟨#[]⟩, .slice none 0 0, .bool false, .int .u32 0, .string ⟨#[]⟩, .string ⟨#[]⟩, .bool false, .int .u16 0, .int .u16 0, .slice none 0 0, .slice none 0 0, .int .u8 0, .int .u8 0, .int .u8 0, .slice none 0 0] 46) := alloc_new W1 _
  have hgs := pd0_z
  have hs0 := size40' 0 zc
  have hzo := pd_one 0 zc zc_one
  have hb0 := pd_zero0
  have hg3 := setRow_heap (W1.alloc (.cells #[.int .i64 0, .int .u16 0, .string ⟨#[]⟩, .string ⟨#[]⟩, .string ⟨#[]⟩, .slice none 0 0, .bool false, .int .u32 0, .string ⟨#[]⟩, .string ⟨#[]⟩, .bool false, .int .u16 0, .int .u16 0, .slice none 0 0, .slice none 0 0, .int .u8 0, .int .u8 0, .int .u8 0, .slice none 0 0] 46)) W1.heap.size _ (Pd 0 zc) 46 _ hgz
  have hb3 : Below W1.heap.size W1 ((W1.alloc (.cells #[.int .i64 0, .int .u16 0, .string ⟨#[]⟩, .string ⟨#[]⟩, .string ⟨#[]⟩, .slice none 0 0, .bool false, .int .u32 0, .string ⟨#[]⟩, .string ⟨#[]⟩, .bool false, .int .u16 0, .int .u16 0, .slice none 0 0, .slice none 0 0, .int .u8 0, .int .u8 0, .int .u8 0, .slice none 0 0] 46)).setRow W1.heap.size (Pd 0 zc)) := below_setRow ((Below.refl _ _).alloc (Nat.le_refl _) _) (Nat.le_refl _) _
  obtain ⟨W3, hW3⟩ : ∃ W3, (W1.alloc (.cells #[.int .i64 0, .int .u16 0, .string ⟨#[]⟩, .string ⟨#[]⟩, .string ⟨#[]⟩, .slice none 0 0, .bool false, .int .u32 0, .string ⟨#[]⟩, .string ⟨#[]⟩, .bool false, .int .u16 0, .int .u16 0, .slice none 0 0, .slice none 0 0, .int .u8 0, .int .u8 0, .int .u8 0, .slice none 0 0] 46)).setRow W1.heap.size (Pd 0 zc) = W3 := ⟨_, rfl⟩
  rw [hW3] at hg3 hb3
  have hb13 : Below w.heap.size w W3 := hb1.trans (hb3.mono hb1.size)
  have F : Hid (Fr w p EV S d W3) := ⟨hP.on hb13, (hb3.block _ (by omega)).trans hr1, by rw [← hs1]; exact hg3, hy _ (.of hb13), .of hb13, hP.lt, hy⟩
  obtain ⟨Z0, hZ0⟩ : ∃ A, Pd 0 zc = A := ⟨_, rfl⟩
  rw [hZ0] at hgs hs0 hzo hb0 hW3
  obtain ⟨fs4, hu4⟩ := hu40
  clear hP hE hy hb3 hb13 hg3 hZ0 hb1
  go_enter Tryd.func29, Tryd.ntmps29
  go_upto_if 12 with fail
  go_cut [7] from 13 (fun s7 wx => s7 = .int .u8 r ∧ wx = W1)
  case first =>
    by_cases h19 : d.kd = 19
    · rw [if_pos h19] at hr
      have hk : (d.kd == 19) = true := by rw [h19]; rfl
      clear h19
      go_wp2
      go_meet
      case rel => exact ⟨by first | rfl | rw [hr], rfl⟩
    · rw [if_neg h19] at hr
      have hk : (d.kd == 19) = false := by simpa using h19
      clear h19
      go_wp2
      go_meet
      case rel => exact ⟨by first | rfl | rw [hr], rfl⟩
  case rest =>
  obtain ⟨rfl, rfl⟩ := hcut
  have HW1 : Hid (wc.heap.size = w.heap.size + 1) := hs1
  clear e0 e40 hr1 hr hW1 hs1
  obtain ⟨sz, hsz⟩ : ∃ z : Int, (d.s : Int) = z := ⟨_, rfl⟩
  have f17 : W3.cell? ⟨w.heap.size, 17, none⟩ = some (.int .u8 sz) := by rw [cell_of_row _ _ _ _ _ _ F.out.ev]; have : EV[1 + 16]? = some (d.p.c 15) := F.out.y.ev.pdu 16 _ rfl; rw [F.out.y.s] at this; rw [hsz] at this; exact this
  have hsn : (sz == 0) = false := by simp; omega
  have HS : Hid (¬ d.s = 0) := hq0
  clear hq0 hsz
  have h1 := rtell_any W3 8 d.p.k d.p.c d.p.D F.out.y.ev.r1
  have hrn := F.out.ranp
  have hsl := size40 d.p.k d.p.c
  generalize hPQ : Pd d.p.k d.p.c = PQ at h1 hrn hsl
  clear hPQ
  go_wp2_with (first | (refine step_build rfl 46 _ rfl Z0 (by simp [Act.eval]; exact hb0) ?_) | (refine wpList_store_row rfl 46 (.tmp 8) (.tmp 15) rfl wc.heap.size Z0 rfl rfl 46 _ hgz hs0 hgs hzo ?_) | (refine wpList_load_mid rfl 46 (.tmp 160) rfl w.heap.size 1 rfl PQ.toList _ hrn hu4 rfl hsl ?_) | (go_at_call 42; refine h1.mono ?_; refine Stop9.mk ?_))
  rintro x V1 ⟨c1, rfl, ho1, hc1, hB1⟩
  have F1 : Hid (Fr w p EV _ d V1 ∧ OX w.heap.size V1 c1 d.p.D ∧ SameC d.p.c c1 ∧ Below W3.heap.size W3 V1) := ⟨F.out.on hB1, ho1.low F.out.but.size, hc1, hB1⟩
  generalize hRQ1 : Ac 5 8 d.p.k c1 = RQ1
  have HRQ1 : Hid (Ac 5 8 d.p.k c1 = RQ1) := hRQ1
  clear hRQ1 h1 ho1 hc1 hB1 hrn hsl
  have F10 : Hid (Fr w p EV _ d V1) := F1.out.1
  have h2 := rshut_any V1
  generalize hRQ2 : Ac 4 0 0 zc = RQ2 at h2
  have HRQ2 : Hid (Ac 4 0 0 zc = RQ2) := hRQ2
  clear hRQ2
  go_wp2_with (first | fail | (go_at_call 43; refine h2.mono ?_; refine Stop9.mk ?_))
  rintro x V2 ⟨rfl, hB2⟩
  have F2 : Hid (Fr w p EV _ d V2 ∧ OX w.heap.size V2 zc D0 ∧ SameC zc zc ∧ Below V1.heap.size V1 V2) := ⟨F10.out.on hB2, ox_zero _ _ _ zc_one rfl rfl rfl rfl, .refl _, hB2⟩
  clear h2 hB2
  have F20 : Hid (Fr w p EV _ d V2) := F2.out.1
  go_wp2_with (first | fail | (refine slice2 rfl (.tmp 162) (.tmp 163) rfl RQ1 RQ2 5 8 (d.p.k) (c1) HRQ1.out 4 0 (0) (zc) HRQ2.out rfl rfl ?_))
  go_ret
  refine ⟨_, rfl, ?_, F20.out.rv.on ((Below.refl _ _).alloc (Nat.le_refl _) _), F20.out.but.trans (.of ((Below.refl _ _).alloc (Nat.le_refl _) _))⟩
  rw [(show actsN 23 S d = [⟨5, 8, d.p.k, d.p.c, d.p.D⟩, shA] from by show [(⟨5, if d.s = 0 then 7 else 8, d.p.k, d.p.c, d.p.D⟩ : AcD), shA] = _; rw [if_neg HS.out])]
  exact ax_two (B := w.heap.size) HRQ1.out HRQ2.out (F1.out.2.1.keep fun b _ hb => F2.out.2.2.2.block b hb) F1.out.2.2.1 F2.out.2.1 F2.out.2.2.1 F20.out.but.size rfl
set_option maxRecDepth 100000 in
set_option maxHeartbeats 2000000 in
theorem rdo_27 (w : World) (p : Nat) (EV : Array Value) (S : Prov) (d : EvD) (ha : 1 ≤ S.art) (hP : RvE w p S) (hy : ∀ W', BelBut p w W' → EvY W' EV d) :
    Calls Tryd.prog 29 #[.pointer (some ⟨p, 0, none⟩), .int .i64 27, .agg EV] w (RActP 27 w p S d) := by
  have hE := hy w (.refl _ _)
  have _ha := ha
  obtain ⟨W1, hW1⟩ : ∃ W1, w.alloc (.cells EV 48) = W1 := ⟨_, rfl⟩
  have hb1 : Below w.heap.size w W1 := by rw [← hW1]; exact (Below.refl _ _).alloc (Nat.le_refl _) _
  have hr1 : W1.heap[w.heap.size]? = some (.cells EV 48) := by rw [← hW1]; exact alloc_new w _
  have hs1 : W1.heap.size = w.heap.size + 1 := by rw [← hW1]; simp
  have e0 : W1.cell? ⟨w.heap.size, 0, none⟩ = some (.int .i64 d.kd) := by rw [cell_of_row _ _ _ _ _ _ hr1]; exact hE.ev.kd
  have e40 : W1.cell? ⟨w.heap.size, 40, none⟩ = some (.int .u8 (d.rs : Int)) := by rw [cell_of_row _ _ _ _ _ _ hr1]; exact hE.rs
  obtain ⟨r, hr⟩ : ∃ r : Int, (if d.kd = 19 then (d.rs : Int) else 2) = r := ⟨_, rfl⟩
  have HR : Hid ((if d.kd = 19 then (d.rs : Int) else 2) = r) := hr
  have hgz : (W1.alloc (.cells #[.int .i64 0, .int .u16 0, .string ⟨#[]⟩, .string ⟨#[]⟩, .string ⟨#[]⟩, .slice none 0 0, .bool false, .int .u32 0, .string ⟨#[]⟩, .string ⟨#[]⟩, .bool false, .int .u16 0, .int .u16 0, .slice none 0 0, .slice none 0 0, .int .u8 0, .int .u8 0, .int .u8 0, .slice none 0 0] 46)).heap[W1.heap.size]? = some (.cells #[.int .i64 0, .int .u16 0, .string ⟨#[]⟩, .string ⟨#[]⟩, .string ⟨#[]⟩, .slice none 0 0, .bool false, .int .u32 0, .string ⟨#[]⟩, .string ⟨#[]⟩, .bool false, .int .u16 0, .int .u16 0, .slice none 0 0, .slice none 0 0, .int .u8 0, .int .u8 0, .int .u8 0, .slice none 0 0] 46) := alloc_new W1 _
  have hgs := pd0_z
  have hs0 := size40' 0 zc
  have hzo := pd_one 0 zc zc_one
  have hb0 := pd_zero0
  have hg3 := setRow_heap (W1.alloc (.cells #[.int .i64 0, .int .u16 0, .string ⟨#[]⟩, .string ⟨#[]⟩, .string ⟨#[]⟩, .slice none 0 0, .bool false, .int .u32 0, .string ⟨#[]⟩, .string ⟨#[]⟩, .bool false, .int .u16 0, .int .u16 0, .slice none 0 0, .slice none 0 0, .int .u8 0, .int .u8 0, .int .u8 0, .slice none 0 0] 46)) W1.heap.size _ (Pd 0 zc) 46 _ hgz
  have hb3 : Below W1.heap.size W1 ((W1.alloc (.cells #[.int .i64 0, .int .u16 0, .string ⟨#[]⟩, .string ⟨#[]⟩, .string ⟨#[]⟩, .slice none 0 0, .bool false, .int .u32 0, .string ⟨#[]⟩, .string ⟨#[]⟩, .bool false, .int .u16 0, .int .u16 0, .slice none 0 0, .slice none 0 0, .int .u8 0, .int .u8 0, .int .u8 0, .slice none 0 0] 46)).setRow W1.heap.size (Pd 0 zc)) := below_setRow ((Below.refl _ _).alloc (Nat.le_refl _) _) (Nat.le_refl _) _
  obtain ⟨W3, hW3⟩ : ∃ W3, (W1.alloc (.cells #[.int .i64 0, .int .u16 0, .string ⟨#[]⟩, .string ⟨#[]⟩, .string ⟨#[]⟩, .slice none 0 0, .bool false, .int .u32 0, .string ⟨#[]⟩, .string ⟨#[]⟩, .bool false, .int .u16 0, .int .u16 0, .slice none 0 0, .slice none 0 0, .int .u8 0, .int .u8 0, .int .u8 0, .slice none 0 0] 46)).setRow W1.heap.size (Pd 0 zc) = W3 := ⟨_, rfl⟩
  rw [hW3] at hg3 hb3
  have hb13 : Below w.heap.size w W3 := hb1.trans (hb3.mono hb1.size)
  have F : Hid (Fr w p EV S d W3) := ⟨hP.on hb13, (hb3.block _ (by omega)).trans hr1, by rw [← hs1]; exact hg3, hy _ (.of hb13), .of hb13, hP.lt, hy⟩
  obtain ⟨Z0, hZ0⟩ : ∃ A, Pd 0 zc = A := ⟨_, rfl⟩
  rw [hZ0] at hgs hs0 hzo hb0 hW3
  obtain ⟨fs4, hu4⟩ := hu40
  clear hP hE hy hb3 hb13 hg3 hZ0 hb1
  go_enter Tryd.func29, Tryd.ntmps29
  go_upto_if 12 with fail
  go_cut [7] from 13 (fun s7 wx => s7 = .int .u8 r ∧ wx = W1)
  case first =>
    by_cases h19 : d.kd = 19
    · rw [if_pos h19] at hr
      have hk : (d.kd == 19) = true := by rw [h19]; rfl
      clear h19
      go_wp2
      go_meet
      case rel => exact ⟨by first | rfl | rw [hr], rfl⟩
    · rw [if_neg h19] at hr
      have hk : (d.kd == 19) = false := by simpa using h19
      clear h19
      go_wp2
      go_meet
      case rel => exact ⟨by first | rfl | rw [hr], rfl⟩
  case rest =>
  obtain ⟨rfl, rfl⟩ := hcut
  have HW1 : Hid (wc.heap.size = w.heap.size + 1) := hs1
  clear e0 e40 hr1 hr hW1 hs1
  have hbb := pd_ab r
  have h1 := rsend_any W3 7 (abC r) D0 (ox_zero 0 W3 (abC r) (abC_one r) rfl rfl rfl rfl).rx
  generalize Pd 7 ((abC r)) = PQ at hbb h1
  go_wp2_with (first | (refine step_build rfl 46 _ rfl Z0 (by simp [Act.eval]; exact hb0) ?_) | (refine wpList_store_row rfl 46 (.tmp 8) (.tmp 15) rfl wc.heap.size Z0 rfl rfl 46 _ hgz hs0 hgs hzo ?_) | (refine step_build rfl 46 _ rfl PQ (by simp [Act.eval]; exact hbb) ?_) | (go_at_call 41; refine h1.mono ?_; refine Stop9.mk ?_))
  rintro x V1 ⟨c1, rfl, ho1, hc1, hB1⟩
  have F1 : Hid (Fr w p EV _ d V1 ∧ OX w.heap.size V1 c1 D0 ∧ SameC ((abC r)) c1 ∧ Below W3.heap.size W3 V1) := ⟨F.out.on hB1, ho1.low F.out.but.size, hc1, hB1⟩
  generalize hRQ1 : Ac 3 0 7 c1 = RQ1
  have HRQ1 : Hid (Ac 3 0 7 c1 = RQ1) := hRQ1
  clear hRQ1 h1 ho1 hc1 hB1 hbb
  have F10 : Hid (Fr w p EV _ d V1) := F1.out.1
  go_wp2_with (first | fail | (refine slice1 rfl (.tmp 174) rfl RQ1 3 0 (7) (c1) HRQ1.out rfl ?_))
  go_ret
  refine ⟨_, rfl, ?_, F10.out.rv.on ((Below.refl _ _).alloc (Nat.le_refl _) _), F10.out.but.trans (.of ((Below.refl _ _).alloc (Nat.le_refl _) _))⟩
  rw [(show actsN 27 S d = [⟨3, 0, 7, abC r, D0⟩] from by rw [← HR.out]; rfl)]
  exact ax_one (B := w.heap.size) HRQ1.out F1.out.2.1 F1.out.2.2.1 F10.out.but.size rfl
end Go.Proofs.YtiieikdbhpflgabDoor

/-
  DERIVED. What the document's provider does: a request is kept.
-/
namespace Go.Proofs.YtiieikdbhpflgabDoor
open Go Go.Proofs Go.RowKit

theorem rv_kept {W : World} {p : Nat} {S : Prov} (h : RvE W p S) (k : Int) (cc c2 : Fin 18 → Value) (D : PdD) (F : Nat → Prop) (ho : OXF F (p + 1) W c2 D) (hs : SameC cc c2) :
    W.there p 5 (Pd k c2).size ∧ RvE (W.setCells p 5 (Pd k c2).toList) p { S with K := ⟨k, cc, D, F⟩ } ∧ ButOne p W (W.setCells p 5 (Pd k c2).toList) := by
  obtain ⟨PV, c0, h⟩ := h
  have hpo := pd_one k c2 ho.one
  have hth := there_row h.row 5 19 (by rw [h.sz]; omega)
  obtain ⟨Q6, q1, q2, q3, q4, q5, q6, q7⟩ := setCells_row (Pd k c2).toList 5 _ PV h.row (fun v hv => Array.all_eq_true_iff_forall_mem.1 hpo v (by simpa using hv)) h.one (by omega)
  have hq6 := setCells_rowx (Pd k c2).toList 5 _ PV h.row (by rw [h.sz]; show 5 + 19 ≤ 24; omega) Q6 q1
  have h6 := q6 p (Nat.le_refl _)
  refine ⟨hth, ⟨Q6, c2, q1, q2.trans h.sz, q4, hq6.2, ho.keep fun b hb _ => q5 b (by omega), hs, ?_, ?_, ?_, ?_, ?_⟩, ⟨h6.os, h6.tape, h6.output, h6.size, fun b _ hb => q5 b hb⟩, q5, q7⟩
  · exact (hq6.1 0 (.inl (by omega))).trans h.v0
  · exact (hq6.1 1 (.inl (by omega))).trans h.v1
  · exact (hq6.1 2 (.inl (by omega))).trans h.v2
  · exact (hq6.1 3 (.inl (by omega))).trans h.v3
  · exact (hq6.1 4 (.inl (by omega))).trans h.v4
set_option maxRecDepth 100000 in
set_option maxHeartbeats 2000000 in
theorem rdo_1 (w : World) (p : Nat) (EV : Array Value) (S : Prov) (d : EvD) (ha : 1 ≤ S.art) (hP : RvE w p S) (hy : ∀ W', BelBut p w W' → EvY W' EV d) :
    Calls Tryd.prog 29 #[.pointer (some ⟨p, 0, none⟩), .int .i64 1, .agg EV] w (RActP 1 w p S d) := by
  have hE := hy w (.refl _ _)
  have _ha := ha
  obtain ⟨W1, hW1⟩ : ∃ W1, w.alloc (.cells EV 48) = W1 := ⟨_, rfl⟩
  have hb1 : Below w.heap.size w W1 := by rw [← hW1]; exact (Below.refl _ _).alloc (Nat.le_refl _) _
  have hr1 : W1.heap[w.heap.size]? = some (.cells EV 48) := by rw [← hW1]; exact alloc_new w _
  have hs1 : W1.heap.size = w.heap.size + 1 := by rw [← hW1]; simp
  have e0 : W1.cell? ⟨w.heap.size, 0, none⟩ = some (.int .i64 d.kd) := by rw [cell_of_row _ _ _ _ _ _ hr1]; exact hE.ev.kd
  have e40 : W1.cell? ⟨w.heap.size, 40, none⟩ = some (.int .u8 (d.rs : Int)) := by rw [cell_of_row _ _ _ _ _ _ hr1]; exact hE.rs
  obtain ⟨r, hr⟩ : ∃ r : Int, (if d.kd = 19 then (d.rs : Int) else 2) = r := ⟨_, rfl⟩
  have HR : Hid ((if d.kd = 19 then (d.rs : Int) else 2) = r) := hr
  have hgz : (W1.alloc (.cells #[.int .i64 0, .int .u16 0, .string ⟨#[]⟩, .string ⟨#[]⟩, .string ⟨#[]⟩, .slice none 0 0, .bool false, .int .u32 0, .string ⟨#[]⟩, .string ⟨#[]⟩, .bool false, .int .u16 0, .int .u16 0, .slice none 0 0, .slice none 0 0, .int .u8 0, .int .u8 0, .int .u8 0, .slice none 0 0] 46)).heap[W1.heap.size]? = some (.cells #[.int .i64 0, .int .u16 0, .string ⟨#[]⟩, .string ⟨#[]⟩, .string ⟨#[]⟩, .slice none 0 0, .bool false, .int .u32 0, .string ⟨#[]⟩, .string ⟨#[]⟩, .bool false, .int .u16 0, .int .u16 0, .slice none 0 0, .slice none 0 0, .int .u8 0, .int .u8 0, .int .u8 0, .slice none 0 0] 46) := alloc_new W1 _
  have hgs := pd0_z
  have hs0 := size40' 0 zc
  have hzo := pd_one 0 zc zc_one
  have hb0 := pd_zero0
  have hg3 := setRow_heap (W1.alloc (.cells #[.int .i64 0, .int .u16 0, .string ⟨#[]⟩, .string ⟨#[]⟩, .string ⟨#[]⟩, .slice none 0 0, .bool false, .int .u32 0, .string ⟨#[]⟩, .string ⟨#[]⟩, .bool false, .int .u16 0, .int .u16 0, .slice none 0 0, .slice none 0 0, .int .u8 0, .int .u8 0, .int .u8 0, .slice none 0 0] 46)) W1.heap.size _ (Pd 0 zc) 46 _ hgz
  have hb3 : Below W1.heap.size W1 ((W1.alloc (.cells #[.int .i64 0, .int .u16 0, .string ⟨#[]⟩, .string ⟨#[]⟩, .string ⟨#[]⟩, .slice none 0 0, .bool false, .int .u32 0, .string ⟨#[]⟩, .string ⟨#[]⟩, .bool false, .int .u16 0, .int .u16 0, .slice none 0 0, .slice none 0 0, .int .u8 0, .int .u8 0, .int .u8 0, .slice none 0 0] 46)).setRow W1.heap.size (Pd 0 zc)) := below_setRow ((Below.refl _ _).alloc (Nat.le_refl _) _) (Nat.le_refl _) _
  obtain ⟨W3, hW3⟩ : ∃ W3, (W1.alloc (.cells #[.int .i64 0, .int .u16 0, .string ⟨#[]⟩, .string ⟨#[]⟩, .string ⟨#[]⟩, .slice none 0 0, .bool false, .int .u32 0, .string ⟨#[]⟩, .string ⟨#[]⟩, .bool false, .int .u16 0, .int .u16 0, .slice none 0 0, .slice none 0 0, .int .u8 0, .int .u8 0, .int .u8 0, .slice none 0 0] 46)).setRow W1.heap.size (Pd 0 zc) = W3 := ⟨_, rfl⟩
  rw [hW3] at hg3 hb3
  have hb13 : Below w.heap.size w W3 := hb1.trans (hb3.mono hb1.size)
  have F : Hid (Fr w p EV S d W3) := ⟨hP.on hb13, (hb3.block _ (by omega)).trans hr1, by rw [← hs1]; exact hg3, hy _ (.of hb13), .of hb13, hP.lt, hy⟩
  obtain ⟨Z0, hZ0⟩ : ∃ A, Pd 0 zc = A := ⟨_, rfl⟩
  rw [hZ0] at hgs hs0 hzo hb0 hW3
  obtain ⟨fs4, hu4⟩ := hu40
  clear hP hE hy hb3 hb13 hg3 hZ0 hb1
  go_enter Tryd.func29, Tryd.ntmps29
  go_upto_if 12 with fail
  go_cut [7] from 13 (fun s7 wx => s7 = .int .u8 r ∧ wx = W1)
  case first =>
    by_cases h19 : d.kd = 19
    · rw [if_pos h19] at hr
      have hk : (d.kd == 19) = true := by rw [h19]; rfl
      clear h19
      go_wp2
      go_meet
      case rel => exact ⟨by first | rfl | rw [hr], rfl⟩
    · rw [if_neg h19] at hr
      have hk : (d.kd == 19) = false := by simpa using h19
      clear h19
      go_wp2
      go_meet
      case rel => exact ⟨by first | rfl | rw [hr], rfl⟩
  case rest =>
  obtain ⟨rfl, rfl⟩ := hcut
  have HW1 : Hid (wc.heap.size = w.heap.size + 1) := hs1
  clear e0 e40 hr1 hr hW1 hs1
  obtain ⟨PVa, ca, hRa⟩ := F.out.rv
  obtain ⟨u1, u2, u3, u4, u5, u6, u7⟩ := rv_set hRa.row hRa.sz hRa.one 2 (by omega) (.bool true) rfl
  have ya : W3.cell? ⟨p, 2, none⟩ = some (.bool S.asked) := by rw [cell_of_row _ _ _ _ _ _ hRa.row]; exact hRa.v2
  have yaf : W3.frozen? ⟨p, 2, none⟩ = false := by simp [World.frozen?, hRa.row]
  have hRb : RvE (W3.setCell ⟨p, 2, none⟩ (.bool true)) p ⟨S.art, S.left, S.sta, true, S.K⟩ := ⟨_, ca, u1, u2, u3, fun j v hv => (u5 _ (by omega)).trans (hRa.kept j v hv), hRa.ox.keep fun b hb _ => u6 b (by omega), hRa.same, (u5 0 (by omega)).trans hRa.v0, (u5 1 (by omega)).trans hRa.v1, u4, (u5 3 (by omega)).trans hRa.v3, (u5 4 (by omega)).trans hRa.v4⟩
  have F1 : Hid (Fr w p EV ⟨S.art, S.left, S.sta, true, S.K⟩ d (W3.setCell ⟨p, 2, none⟩ (.bool true))) := F.out.tim hRb ⟨u7, u6, by simp⟩
  obtain ⟨AS, hAS⟩ : ∃ b, S.asked = b := ⟨_, rfl⟩
  rw [hAS] at ya
  obtain ⟨V1, hV1⟩ : ∃ V, W3.setCell ⟨p, 2, none⟩ (.bool true) = V := ⟨_, rfl⟩
  rw [hV1] at F1
  clear hRa u1 u2 u3 u4 u5 u6 u7 hRb hAS
  have h2 := copyx_any V1 d.p.k d.p.c d.p.D F1.out.y.ev.r1
  have hrn := F1.out.ranp
  have hsl := size40 d.p.k d.p.c
  generalize hPQ : Pd d.p.k d.p.c = PQ at h2 hrn hsl
  clear hPQ
  go_wp2_with (first | (refine step_build rfl 46 _ rfl Z0 (by simp [Act.eval]; exact hb0) ?_) | (refine wpList_store_row rfl 46 (.tmp 8) (.tmp 15) rfl wc.heap.size Z0 rfl rfl 46 _ hgz hs0 hgs hzo ?_) | (refine wpList_load_mid rfl 46 (.tmp 24) rfl w.heap.size 1 rfl PQ.toList _ hrn hu4 rfl hsl ?_) | (go_at_call 20; refine h2.mono ?_; refine Stop9.mk ?_))
  rintro x V2 ⟨c2, rfl, ho2, hc2, hB2⟩
  have F2 : Hid (Fr w p EV _ d V2) := F1.out.on hB2
  obtain ⟨hth, hrk, hbo⟩ := rv_kept F2.out.rv d.p.k d.p.c c2 d.p.D d.p.F ⟨ho2.low (by have := F1.out.but.size; have := F1.out.lo; omega), PF.of ho2 (fun b hb _ _ => F1.out.y.fr b hb)⟩ hc2
  have F3 : Hid (Fr w p EV _ d (V2.setCells p 5 (Pd d.p.k c2).toList)) := F2.out.tim hrk hbo
  have hs40 := size40' d.p.k c2
  have hpo := pd_one d.p.k c2 ho2.one
  have hba := ac_zero 1
  generalize hRQ3 : Ac 1 0 0 zc = RQ3 at hba
  have HRQ3 : Hid (Ac 1 0 0 zc = RQ3) := hRQ3
  clear hRQ3 h2 ho2 hc2 hB2 hrn hsl hrk hbo
  generalize Pd d.p.k c2 = P3 at hth hs40 hpo F3 ⊢
  obtain ⟨V3, hV3⟩ : ∃ V, V2.setCells p 5 P3.toList = V := ⟨_, rfl⟩
  rw [hV3] at F3
  go_wp2_with (first | (refine wpList_store_mid rfl 46 (.tmp 28) (.tmp 26) rfl p 5 P3 rfl rfl hth hs40 hpo ?_) | (refine step_build rfl 61 _ rfl RQ3 (by simp [Act.eval]; exact hba) ?_) | (refine slice1 rfl (.tmp 29) rfl RQ3 1 0 0 zc HRQ3.out rfl ?_))
  go_ret
  refine ⟨_, rfl, ?_, F3.out.rv.on ((Below.refl _ _).alloc (Nat.le_refl _) _), F3.out.but.trans (.of ((Below.refl _ _).alloc (Nat.le_refl _) _))⟩
  rw [(show actsN 1 S d = [⟨1, 0, 0, zc, D0⟩] from rfl)]
  exact ax_one (B := w.heap.size) HRQ3.out (ox_zero _ _ _ zc_one rfl rfl rfl rfl) (.refl _) F3.out.but.size rfl
end Go.Proofs.YtiieikdbhpflgabDoor
