import Derived.Test.YtiieikdbhpflgabDoorDc
import Derived.Deep.RegionWith
/-
  DERIVED. What the document's provider does: it aborts and tells.
-/
namespace Go.Proofs.YtiieikdbhpflgabDoor
open Go Go.Proofs Go.RowKit

theorem op_build {o : Oper} {a : Act} {w : World} {K : Act → World → Prop} {Q : Exit → Act → World → Prop} (t : TypeId) (parts : Array (Nat × Operand)) (ho : o.op = .build t parts) (cells : Array Value)
    (hb : Tryd.prog.built t (parts.map fun (i, x) => (i, a.eval x)).toList = some cells) (h : K (a.put o.dst (.agg cells)) w) : o.wp Tryd.prog a w K Q :=
  wp_build t parts ho (by rw [hb]; rfl) (by rw [hb]; exact h)
theorem op_slice2 {o : Oper} {a : Act} {w : World} {K : Act → World → Prop} {Q : Exit → Act → World → Prop} (x x2 : Operand) (ho : o.op = .buildSlice 50 2 #[(0, x), (1, x2)]) (RQ R2 : Array Value) (p q k : Int) (c : Fin 18 → Value) (hR : Ac p q k c = RQ) (p2 q2 k2 : Int) (c2 : Fin 18 → Value) (hR2 : Ac p2 q2 k2 c2 = R2) (hx : a.eval x = .agg RQ) (hx2 : a.eval x2 = .agg R2)
    (h : K (a.put o.dst (.slice (some ⟨w.heap.size, 0, none⟩) 2 2)) (w.alloc (.cells (RQ ++ R2) 61))) : o.wp Tryd.prog a w K Q := by
  obtain ⟨i, hi, hz, hs⟩ := info57'
  subst hR hR2
  refine wp_buildSlice 50 61 2 #[(0, x), (1, x2)] ho (Ac p q k c ++ Ac p2 q2 k2 c2) i (.agg Z57) Tryd.underlying50 hi hz (by rw [hs]; decide) (by rw [hs]; decide) ?_ h
  rw [hs]
  simp only [List.map_toArray, List.map_cons, List.map_nil, hx, hx2]
  exact fill2 p q k c p2 q2 k2 c2
set_option maxRecDepth 100000 in
set_option maxHeartbeats 2000000 in
theorem rdo_28 (w : World) (p : Nat) (EV : Array Value) (S : Prov) (d : EvD) (ha : 1 ≤ S.art) (hP : RvE w p S) (hy : ∀ W', BelBut p w W' → EvY W' EV d) :
    Calls Tryd.prog 29 #[.pointer (some ⟨p, 0, none⟩), .int .i64 28, .agg EV] w (RActP 28 w p S d) := by
  have hE := hy w (.refl _ _)
  have _ha := ha
  obtain ⟨W1, hW1⟩ : ∃ W1, w.alloc (.cells EV 48) = W1 := ⟨_, rfl⟩
  have hb1 : Below w.heap.size w W1 := by rw [← hW1]; exact (Below.refl _ _).alloc (Nat.le_refl _) _
  have hr1 : W1.heap[w.heap.size]? = some (.cells EV 48) := by rw [← hW1]; exact alloc_new w _
  have hs1 : W1.heap.size = w.heap.size + 1 := by rw [← hW1]; simp
  have e0 : W1.cell? ⟨w.heap.size, 0, none⟩ = some (.int .i64 d.kd) := by rw [cell_of_row _ _ _ _ _ _ hr1]; exact hE.ev.kd
  have e40 : W1.cell? ⟨w.heap.size, 40, none⟩ = some (.int .u8 (d.rs : Int)) := by rw [cell_of_row _ _ _ _ _ _ hr1]; exact hE.rs
  obtain ⟨r, hr⟩ : ∃ r : Int, (if d.kd = 19 then (d.rs : Int) else 2) = r := ⟨_, rfl⟩
  have HR : Hid ((if d.kd = 19 then (d.rs : Int) else 2) = r) := hr
  have hgz : (W1.alloc (.cells #[.int .i64 0, .int .u16 0, .string ⟨#[]⟩, .string ⟨#[]⟩, .string ⟨#[]⟩, .slice none 0 0, .bool false, .int .u32 0, .string ⟨#[]⟩, .string ⟨#[]⟩, .bool false, .int .u16 0, .int .u16 0, .slice none 0 0, .slice none 0 0, .int .u8 0, .int .u8 0, .int .u8 0, .slice none 0 0] 46)).heap[W1.heap.size]? = some (.cells #[.int .i64 0, .int .u16 0, .string ⟨#[]⟩, .string ⟨#[]⟩, .string ⟨#[]⟩, .slice none 0 0, .bool false, .int .u32 0, .string ⟨#[]⟩, .string ⟨#[]⟩, .bool false, .int .u16 0, .int .u16 0, .slice none 0 0, .slice none 0 0, .int .u8 0, .int .u8 0, .int .u8 0, .slice none 0 0] 46) := alloc_new W1 _
  have hgs := pd0_z
  have hs0 := size40' 0 zc
  have hzo := pd_one 0 zc zc_one
  have hb0 := pd_zero0
  have hg3 := setRow_heap (W1.alloc (.cells #[.int .i64 0, .int .u16 0, .string ⟨#[]⟩, .string ⟨#[]⟩, .string ⟨#[]⟩, .slice none 0 0, .bool false, .int .u32 0, .string ⟨#[]⟩, .string ⟨#[]⟩, .bool false, .int .u16 0, .int .u16 0, .slice none 0 0, .slice none 0 0, .int .u8 0, .int .u8 0, .int .u8 0, .slice none 0 0] 46)) W1.heap.size _ (Pd 0 zc) 46 _ hgz
  have hb3 : Below W1.heap.size W1 ((W1.alloc (.cells #[.int .i64 0, .int .u16 0, .string ⟨#[]⟩, .string ⟨#[]⟩, .string ⟨#[]⟩, .slice none 0 0, .bool false, .int .u32 0, .string ⟨#[]⟩, .string ⟨#[]⟩, .bool false, .int .u16 0, .int .u16 0, .slice none 0 0, .slice none 0 0, .int .u8 0, .int .u8 0, .int .u8 0, .slice none 0 0] 46)).setRow W1.heap.size (Pd 0 zc)) := below_setRow ((Below.refl _ _).alloc (Nat.le_refl _) _) (Nat.le_refl _) _
  obtain ⟨W3, hW3⟩ : ∃ W3, (W1.alloc (.cells #[.int .i64 0, .int .u16 0, .string ⟨#[]⟩, .string ⟨#[]⟩, .string ⟨#[]⟩, .slice none 0 0, .bool false, .int .u32 0, .string ⟨#[]⟩, .string ⟨#[]⟩, .bool false, .int .u16 0, .int .u16 0, .slice none 0 0, .slice none 0 0, .int .u8 0, .int .u8 0, .int .u8 0, .slice none 0 0] 46)).setRow W1.heap.size (Pd 0 zc) = W3 := ⟨_, rfl⟩
  rw [hW3] at hg3 hb3
  have hb13 : Below w.heap.size w W3 := hb1.trans (hb3.mono hb1.size)
  have F : Hid (Fr w p EV S d W3) := ⟨hP.on hb13, (hb3.block _ (by omega)).trans hr1, by rw [← hs1]; exact hg3, hy _ (.of hb13), .of hb13, hP.lt, hy⟩
  obtain ⟨Z0, hZ0⟩ : ∃ A, Pd 0 zc = A := ⟨_, rfl⟩
  rw [hZ0] at hgs hs0 hzo hb0 hW3
  obtain ⟨fs4, hu4⟩ := hu40
  clear hP hE hy hb3 hb13 hg3 hZ0 hb1
  go_enter Tryd.func29, Tryd.ntmps29
  go_upto_if 12 with fail
  go_cut [7] from 13 (fun s7 wx => s7 = .int .u8 r ∧ wx = W1)
  case first =>
    by_cases h19 : d.kd = 19
    · rw [if_pos h19] at hr
      have hk : (d.kd == 19) = true := by rw [h19]; rfl
      clear h19
      go_wp2
      go_meet
      case rel => exact ⟨by first | rfl | rw [hr], rfl⟩
    · rw [if_neg h19] at hr
      have hk : (d.kd == 19) = false := by simpa using h19
      clear h19
      go_wp2
      go_meet
      case rel => exact ⟨by first | rfl | rw [hr], rfl⟩
  case rest =>
  obtain ⟨rfl, rfl⟩ := hcut
  have HW1 : Hid (wc.heap.size = w.heap.size + 1) := hs1
  clear e0 e40 hr1 hr hW1 hs1
  have h1 := start_any W3 p _ (by first | exact ha | exact ha) F.out.rv
  go_wp2_with (first | (refine step_build rfl 46 _ rfl Z0 (by simp [Act.eval]; exact hb0) ?_) | (refine wpList_store_row rfl 46 (.tmp 8) (.tmp 15) rfl wc.heap.size Z0 rfl rfl 46 _ hgz hs0 hgs hzo ?_) | (go_at_call 44; refine h1.mono ?_; refine Stop9.mk ?_))
  rintro x V1 ⟨rfl, hq1, hB1⟩
  have F1 : Hid (Fr w p EV _ d V1) := F.out.tim hq1 hB1
  clear h1 hq1 hB1
  have hbb := pd_ab r
  have hsend := fun W => rsend_any W 7 (abC r) D0 (ox_zero 0 W (abC r) (abC_one r) rfl rfl rfl rfl).rx
  have htell := fun W => rtell_any W 8 0 zc D0 (rx_zero W)
  have hrn := F1.out.no
  rw [← HW1.out] at hrn
  have hsl := size40' 0 zc
  generalize Pd 7 (abC r) = PQ at hbb hsend
  generalize Pd 0 zc = PN at htell hrn hsl
  go_wp2_with fail
  refine wp_region_any (by kernel_rfl) ?_
  change wpAny _ _ _ _ _ _ _ (World.drew _)
  have F2 : Hid (Fr w p EV _ d V1.drew) := F1.out.on (Below.refl _ _).drew
  have hrn2 : V1.drew.heap[wc.heap.size]? = some (.cells PN 46) := hrn
  clear hrn
  generalize V1.drew = V2 at F2 hrn2 ⊢
  refine wpAny_ready (rs := [0, 3]) (by kernel_rfl) (by simp) ?_
  refine AllReady.cons rfl (fun K hK => ?_) ?_
  · rw [if_pos (by kernel_rfl)]
    go_simp
    refine hK _ _ ?_
    clear hK K
    refine wpAny_ready (rs := [1, 3]) (by kernel_rfl) (by simp) ?_
    refine AllReady.cons rfl (fun K hK => ?_) ?_
    · rw [if_pos (by kernel_rfl)]
      refine op_build 46 _ rfl PQ (by simp [Act.eval]; exact hbb) ?_
      refine hK _ _ ?_
      clear hK K
      refine wpAny_ready (rs := [2, 3]) (by kernel_rfl) (by simp) ?_
      refine AllReady.cons rfl (fun K hK => ?_) ?_
      · rw [if_pos (by kernel_rfl)]
        go_simp
        go_wp2_with (go_at_call 41; refine (hsend _).mono ?_; refine Stop9.mk ?_)
        rintro x V5 ⟨c5, rfl, ho5, hc5, hB5⟩
        have F5 : Hid (Fr w p EV _ d V5 ∧ OX w.heap.size V5 c5 D0 ∧ SameC (abC r) c5 ∧ Below V2.heap.size V2 V5) := ⟨F2.out.on hB5, ho5.low F2.out.but.size, hc5, hB5⟩
        have hrn5 := (hB5.block _ (Array.getElem?_eq_some_iff.1 hrn2).1).trans hrn2
        generalize hRQ5 : Ac 3 0 7 c5 = RQ5
        have HRQ5 : Hid (Ac 3 0 7 c5 = RQ5) := hRQ5
        clear hRQ5 ho5 hc5 hB5
        go_wp2
        refine wpAny_ready (rs := [3]) (by kernel_rfl) (by simp) ?_
        refine AllReady.cons rfl (fun K hK => ?_) ?_
        · rw [if_pos (by kernel_rfl)]
          refine wp_load_row 46 (.tmp 8) rfl wc.heap.size rfl 46 PN (0, 0) _ hrn5 hu4 rfl hsl ?_
          refine hK _ _ ?_
          clear hK K
          refine wpAny_ready (rs := [4]) (by kernel_rfl) (by simp) ?_
          refine AllReady.cons rfl (fun K hK => ?_) ?_
          · rw [if_pos (by kernel_rfl)]
            go_simp
            go_wp2_with (go_at_call 42; refine (htell _).mono ?_; refine Stop9.mk ?_)
            rintro x V6 ⟨c6, rfl, ho6, hc6, hB6⟩
            have F6 : Hid (Fr w p EV _ d V6 ∧ OX w.heap.size V6 c6 D0 ∧ SameC zc c6 ∧ Below V5.heap.size V5 V6) := ⟨F5.out.1.on hB6, ho6.low F5.out.1.but.size, hc6, hB6⟩
            generalize hRQ6 : Ac 5 8 0 c6 = RQ6
            have HRQ6 : Hid (Ac 5 8 0 c6 = RQ6) := hRQ6
            clear hRQ6 ho6 hc6 hB6
            go_wp2
            refine wpAny_ready (rs := [5]) (by kernel_rfl) (by simp) ?_
            refine AllReady.cons rfl (fun K hK => ?_) ?_
            · rw [if_pos (by kernel_rfl)]
              refine op_slice2 (.tmp 182) (.tmp 184) rfl RQ5 RQ6 3 0 7 c5 HRQ5.out 5 8 0 c6 HRQ6.out rfl rfl ?_
              refine hK _ _ ?_
              clear hK K
              refine wpAny_ready (rs := [6]) (by kernel_rfl) (by simp) ?_
              refine AllReady.cons rfl (fun K hK => ?_) ?_
              · rw [if_pos (by kernel_rfl)]
                go_simp
                refine hK _ _ ?_
                clear hK K
                refine wpAny_done (by kernel_rfl) ?_ _
                go_wp2
                go_ret
                refine ⟨_, rfl, ?_, F6.out.1.rv.on ((Below.refl _ _).alloc (Nat.le_refl _) _), F6.out.1.but.trans (.of ((Below.refl _ _).alloc (Nat.le_refl _) _))⟩
                rw [(show actsN 28 S d = [⟨3, 0, 7, abC r, D0⟩, ⟨5, 8, 0, zc, D0⟩] from by rw [← HR.out]; rfl)]
                exact ax_two (B := w.heap.size) HRQ5.out HRQ6.out (F5.out.2.1.keep fun b _ hb => F6.out.2.2.2.block b hb) F5.out.2.2.1 F6.out.2.1 F6.out.2.2.1 F6.out.1.but.size rfl
              exact AllReady.nil
            exact AllReady.nil
          exact AllReady.nil
        exact AllReady.nil
      refine AllReady.cons rfl (fun K hK => ?_) ?_
      · rw [if_pos (by kernel_rfl)]
        refine wp_load_row 46 (.tmp 8) rfl wc.heap.size rfl 46 PN (0, 0) _ hrn2 hu4 rfl hsl ?_
        refine hK _ _ ?_
        clear hK K
        refine wpAny_ready (rs := [2]) (by kernel_rfl) (by simp) ?_
        refine AllReady.cons rfl (fun K hK => ?_) ?_
        · rw [if_pos (by kernel_rfl)]
          go_simp
          go_wp2_with (go_at_call 41; refine (hsend _).mono ?_; refine Stop9.mk ?_)
          rintro x V5 ⟨c5, rfl, ho5, hc5, hB5⟩
          have F5 : Hid (Fr w p EV _ d V5 ∧ OX w.heap.size V5 c5 D0 ∧ SameC (abC r) c5 ∧ Below V2.heap.size V2 V5) := ⟨F2.out.on hB5, ho5.low F2.out.but.size, hc5, hB5⟩
          have hrn5 := (hB5.block _ (Array.getElem?_eq_some_iff.1 hrn2).1).trans hrn2
          generalize hRQ5 : Ac 3 0 7 c5 = RQ5
          have HRQ5 : Hid (Ac 3 0 7 c5 = RQ5) := hRQ5
          clear hRQ5 ho5 hc5 hB5
          go_wp2
          refine wpAny_ready (rs := [4]) (by kernel_rfl) (by simp) ?_
          refine AllReady.cons rfl (fun K hK => ?_) ?_
          · rw [if_pos (by kernel_rfl)]
            go_simp
            go_wp2_with (go_at_call 42; refine (htell _).mono ?_; refine Stop9.mk ?_)
            rintro x V6 ⟨c6, rfl, ho6, hc6, hB6⟩
            have F6 : Hid (Fr w p EV _ d V6 ∧ OX w.heap.size V6 c6 D0 ∧ SameC zc c6 ∧ Below V5.heap.size V5 V6) := ⟨F5.out.1.on hB6, ho6.low F5.out.1.but.size, hc6, hB6⟩
            generalize hRQ6 : Ac 5 8 0 c6 = RQ6
            have HRQ6 : Hid (Ac 5 8 0 c6 = RQ6) := hRQ6
            clear hRQ6 ho6 hc6 hB6
            go_wp2
            refine wpAny_ready (rs := [5]) (by kernel_rfl) (by simp) ?_
            refine AllReady.cons rfl (fun K hK => ?_) ?_
            · rw [if_pos (by kernel_rfl)]
              refine op_slice2 (.tmp 182) (.tmp 184) rfl RQ5 RQ6 3 0 7 c5 HRQ5.out 5 8 0 c6 HRQ6.out rfl rfl ?_
              refine hK _ _ ?_
              clear hK K
              refine wpAny_ready (rs := [6]) (by kernel_rfl) (by simp) ?_
              refine AllReady.cons rfl (fun K hK => ?_) ?_
              · rw [if_pos (by kernel_rfl)]
                go_simp
                refine hK _ _ ?_
                clear hK K
                refine wpAny_done (by kernel_rfl) ?_ _
                go_wp2
                go_ret
                refine ⟨_, rfl, ?_, F6.out.1.rv.on ((Below.refl _ _).alloc (Nat.le_refl _) _), F6.out.1.but.trans (.of ((Below.refl _ _).alloc (Nat.le_refl _) _))⟩
                rw [(show actsN 28 S d = [⟨3, 0, 7, abC r, D0⟩, ⟨5, 8, 0, zc, D0⟩] from by rw [← HR.out]; rfl)]
                exact ax_two (B := w.heap.size) HRQ5.out HRQ6.out (F5.out.2.1.keep fun b _ hb => F6.out.2.2.2.block b hb) F5.out.2.2.1 F6.out.2.1 F6.out.2.2.1 F6.out.1.but.size rfl
              exact AllReady.nil
            exact AllReady.nil
          exact AllReady.nil
        exact AllReady.nil
      exact AllReady.nil
    refine AllReady.cons rfl (fun K hK => ?_) ?_
    · rw [if_pos (by kernel_rfl)]
      refine wp_load_row 46 (.tmp 8) rfl wc.heap.size rfl 46 PN (0, 0) _ hrn2 hu4 rfl hsl ?_
      refine hK _ _ ?_
      clear hK K
      refine wpAny_ready (rs := [1]) (by kernel_rfl) (by simp) ?_
      refine AllReady.cons rfl (fun K hK => ?_) ?_
      · rw [if_pos (by kernel_rfl)]
        refine op_build 46 _ rfl PQ (by simp [Act.eval]; exact hbb) ?_
        refine hK _ _ ?_
        clear hK K
        refine wpAny_ready (rs := [2]) (by kernel_rfl) (by simp) ?_
        refine AllReady.cons rfl (fun K hK => ?_) ?_
        · rw [if_pos (by kernel_rfl)]
          go_simp
          go_wp2_with (go_at_call 41; refine (hsend _).mono ?_; refine Stop9.mk ?_)
          rintro x V5 ⟨c5, rfl, ho5, hc5, hB5⟩
          have F5 : Hid (Fr w p EV _ d V5 ∧ OX w.heap.size V5 c5 D0 ∧ SameC (abC r) c5 ∧ Below V2.heap.size V2 V5) := ⟨F2.out.on hB5, ho5.low F2.out.but.size, hc5, hB5⟩
          have hrn5 := (hB5.block _ (Array.getElem?_eq_some_iff.1 hrn2).1).trans hrn2
          generalize hRQ5 : Ac 3 0 7 c5 = RQ5
          have HRQ5 : Hid (Ac 3 0 7 c5 = RQ5) := hRQ5
          clear hRQ5 ho5 hc5 hB5
          go_wp2
          refine wpAny_ready (rs := [4]) (by kernel_rfl) (by simp) ?_
          refine AllReady.cons rfl (fun K hK => ?_) ?_
          · rw [if_pos (by kernel_rfl)]
            go_simp
            go_wp2_with (go_at_call 42; refine (htell _).mono ?_; refine Stop9.mk ?_)
            rintro x V6 ⟨c6, rfl, ho6, hc6, hB6⟩
            have F6 : Hid (Fr w p EV _ d V6 ∧ OX w.heap.size V6 c6 D0 ∧ SameC zc c6 ∧ Below V5.heap.size V5 V6) := ⟨F5.out.1.on hB6, ho6.low F5.out.1.but.size, hc6, hB6⟩
            generalize hRQ6 : Ac 5 8 0 c6 = RQ6
            have HRQ6 : Hid (Ac 5 8 0 c6 = RQ6) := hRQ6
            clear hRQ6 ho6 hc6 hB6
            go_wp2
            refine wpAny_ready (rs := [5]) (by kernel_rfl) (by simp) ?_
            refine AllReady.cons rfl (fun K hK => ?_) ?_
            · rw [if_pos (by kernel_rfl)]
              refine op_slice2 (.tmp 182) (.tmp 184) rfl RQ5 RQ6 3 0 7 c5 HRQ5.out 5 8 0 c6 HRQ6.out rfl rfl ?_
              refine hK _ _ ?_
              clear hK K
              refine wpAny_ready (rs := [6]) (by kernel_rfl) (by simp) ?_
              refine AllReady.cons rfl (fun K hK => ?_) ?_
              · rw [if_pos (by kernel_rfl)]
                go_simp
                refine hK _ _ ?_
                clear hK K
                refine wpAny_done (by kernel_rfl) ?_ _
                go_wp2
                go_ret
                refine ⟨_, rfl, ?_, F6.out.1.rv.on ((Below.refl _ _).alloc (Nat.le_refl _) _), F6.out.1.but.trans (.of ((Below.refl _ _).alloc (Nat.le_refl _) _))⟩
                rw [(show actsN 28 S d = [⟨3, 0, 7, abC r, D0⟩, ⟨5, 8, 0, zc, D0⟩] from by rw [← HR.out]; rfl)]
                exact ax_two (B := w.heap.size) HRQ5.out HRQ6.out (F5.out.2.1.keep fun b _ hb => F6.out.2.2.2.block b hb) F5.out.2.2.1 F6.out.2.1 F6.out.2.2.1 F6.out.1.but.size rfl
              exact AllReady.nil
            exact AllReady.nil
          exact AllReady.nil
        exact AllReady.nil
      exact AllReady.nil
    exact AllReady.nil
  refine AllReady.cons rfl (fun K hK => ?_) ?_
  · rw [if_pos (by kernel_rfl)]
    refine wp_load_row 46 (.tmp 8) rfl wc.heap.size rfl 46 PN (0, 0) _ hrn2 hu4 rfl hsl ?_
    refine hK _ _ ?_
    clear hK K
    refine wpAny_ready (rs := [0]) (by kernel_rfl) (by simp) ?_
    refine AllReady.cons rfl (fun K hK => ?_) ?_
    · rw [if_pos (by kernel_rfl)]
      go_simp
      refine hK _ _ ?_
      clear hK K
      refine wpAny_ready (rs := [1]) (by kernel_rfl) (by simp) ?_
      refine AllReady.cons rfl (fun K hK => ?_) ?_
      · rw [if_pos (by kernel_rfl)]
        refine op_build 46 _ rfl PQ (by simp [Act.eval]; exact hbb) ?_
        refine hK _ _ ?_
        clear hK K
        refine wpAny_ready (rs := [2]) (by kernel_rfl) (by simp) ?_
        refine AllReady.cons rfl (fun K hK => ?_) ?_
        · rw [if_pos (by kernel_rfl)]
          go_simp
          go_wp2_with (go_at_call 41; refine (hsend _).mono ?_; refine Stop9.mk ?_)
          rintro x V5 ⟨c5, rfl, ho5, hc5, hB5⟩
          have F5 : Hid (Fr w p EV _ d V5 ∧ OX w.heap.size V5 c5 D0 ∧ SameC (abC r) c5 ∧ Below V2.heap.size V2 V5) := ⟨F2.out.on hB5, ho5.low F2.out.but.size, hc5, hB5⟩
          have hrn5 := (hB5.block _ (Array.getElem?_eq_some_iff.1 hrn2).1).trans hrn2
          generalize hRQ5 : Ac 3 0 7 c5 = RQ5
          have HRQ5 : Hid (Ac 3 0 7 c5 = RQ5) := hRQ5
          clear hRQ5 ho5 hc5 hB5
          go_wp2
          refine wpAny_ready (rs := [4]) (by kernel_rfl) (by simp) ?_
          refine AllReady.cons rfl (fun K hK => ?_) ?_
          · rw [if_pos (by kernel_rfl)]
            go_simp
            go_wp2_with (go_at_call 42; refine (htell _).mono ?_; refine Stop9.mk ?_)
            rintro x V6 ⟨c6, rfl, ho6, hc6, hB6⟩
            have F6 : Hid (Fr w p EV _ d V6 ∧ OX w.heap.size V6 c6 D0 ∧ SameC zc c6 ∧ Below V5.heap.size V5 V6) := ⟨F5.out.1.on hB6, ho6.low F5.out.1.but.size, hc6, hB6⟩
            generalize hRQ6 : Ac 5 8 0 c6 = RQ6
            have HRQ6 : Hid (Ac 5 8 0 c6 = RQ6) := hRQ6
            clear hRQ6 ho6 hc6 hB6
            go_wp2
            refine wpAny_ready (rs := [5]) (by kernel_rfl) (by simp) ?_
            refine AllReady.cons rfl (fun K hK => ?_) ?_
            · rw [if_pos (by kernel_rfl)]
              refine op_slice2 (.tmp 182) (.tmp 184) rfl RQ5 RQ6 3 0 7 c5 HRQ5.out 5 8 0 c6 HRQ6.out rfl rfl ?_
              refine hK _ _ ?_
              clear hK K
              refine wpAny_ready (rs := [6]) (by kernel_rfl) (by simp) ?_
              refine AllReady.cons rfl (fun K hK => ?_) ?_
              · rw [if_pos (by kernel_rfl)]
                go_simp
                refine hK _ _ ?_
                clear hK K
                refine wpAny_done (by kernel_rfl) ?_ _
                go_wp2
                go_ret
                refine ⟨_, rfl, ?_, F6.out.1.rv.on ((Below.refl _ _).alloc (Nat.le_refl _) _), F6.out.1.but.trans (.of ((Below.refl _ _).alloc (Nat.le_refl _) _))⟩
                rw [(show actsN 28 S d = [⟨3, 0, 7, abC r, D0⟩, ⟨5, 8, 0, zc, D0⟩] from by rw [← HR.out]; rfl)]
                exact ax_two (B := w.heap.size) HRQ5.out HRQ6.out (F5.out.2.1.keep fun b _ hb => F6.out.2.2.2.block b hb) F5.out.2.2.1 F6.out.2.1 F6.out.2.2.1 F6.out.1.but.size rfl
              exact AllReady.nil
            exact AllReady.nil
          exact AllReady.nil
        exact AllReady.nil
      exact AllReady.nil
    exact AllReady.nil
  exact AllReady.nil
end Go.Proofs.YtiieikdbhpflgabDoor
