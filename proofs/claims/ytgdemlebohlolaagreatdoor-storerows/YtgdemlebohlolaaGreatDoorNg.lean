import Derived.Test.YtgdemlebohlolaaGreatDoorNf
import Derived.Great.Ranges
/-
  DERIVED. Row of both; the law.
-/
namespace Go.Proofs.YtgdemlebohlolaaGreatDoor.Ck
open Go Go.Proofs Go.RowKit

def stB : ByteArray := { data := #[115, 116, 111, 114, 101] }
set_option maxRecDepth 100000 in
theorem srefusal_new (w : World) (a c : Int) : Calls Tryz.prog 11 #[.int .i64 a, .iface 40 (.int .i64 c)] w fun e w' => ∃ q, e = .returned (.iface 44 (.pointer (some ⟨q, 0, none⟩))) ∧ Chain w' [(stB, a)] c (.iface 44 (.pointer (some ⟨q, 0, none⟩))) ∧ Below w.heap.size w w' := by
  go_enter Tryz.func11, Tryz.ntmps11
  go_wp2
  go_ret
  exact ⟨_, rfl, ⟨_, _, rfl, by simp [stB], by simp, by simp, rfl⟩, (Below.refl _ _).alloc (Nat.le_refl _) _⟩
theorem snew_any (w : World) (a c : Int) : Calls Tryz.prog 28 #[.string { data := #[115, 116, 111, 114, 101] }, .int .i64 a, .int .i64 c] w fun e w' => e = .returned (.agg #[.slice (some ⟨w.heap.size + 1, 0, none⟩) 1 1, .int .i64 c]) ∧ Below w.heap.size w w' ∧ LkAt w' (w.heap.size + 1) [(stB, a)] := by
  go_enter Tryz.func28, Tryz.ntmps28
  go_wp2
  refine bodyPost_ret (v := .agg #[.slice (some ⟨w.heap.size + 1, 0, none⟩) 1 1, .int .i64 c]) (by simp [results, Tryz.results28, go_sem]) rfl ⟨rfl, ((Below.refl _ _).alloc (Nat.le_refl _) _).alloc (by simp) _, fun i hi => ?_⟩
  obtain rfl : i = 0 := by simp at hi; omega
  exact ⟨by simp [stB], by simp⟩
set_option maxRecDepth 100000 in
theorem no_any (w : World) (a c : Int) : Calls Tryz.prog 15 #[.int .i64 c, .int .i64 a] w fun e w' => ∃ g, e = .returned (.agg #[.slice (some ⟨g, 0, none⟩) 1 1, .int .i64 c]) ∧ w.heap.size < g ∧ LkAt w' g [(stB, a)] ∧ Below w.heap.size w w' := by
  have HR0 : Hid (Rz w.heap.size (w.alloc (.cells #[.slice none 0 0, .int .i64 0] 30))) := Rz.new w
  have HB0 : Hid (Below w.heap.size w (w.alloc (.cells #[.slice none 0 0, .int .i64 0] 30))) := (Below.refl _ _).alloc (Nat.le_refl _) _
  go_enter Tryz.func15, Tryz.ntmps15
  go_wp2_with (go_at_call 28; refine Stop.mk ?_)
  refine Stop.out ((snew_any _ a c).mono ?_)
  rintro e W1 ⟨rfl, hb1, hl1⟩
  obtain ⟨r0, r1, rf⟩ := HR0.out.on hb1
  have HB1 : Hid (Below w.heap.size w W1) := HB0.out.trans (hb1.mono HB0.out.size)
  rw [Wk.size_alloc] at hl1 ⊢
  have HL1 : Hid (LkAt W1 (w.heap.size + 1 + 1) [(stB, a)]) := hl1
  clear hb1 hl1
  go_wp2
  exact bodyPost_ret (v := .agg #[.slice (some ⟨w.heap.size + 1 + 1, 0, none⟩) 1 1, .int .i64 c]) (by simp [results, Tryz.results15, go_sem, r0, r1]) rfl ⟨_, rfl, by omega, lk_put HL1.out (by omega) _ _, below_put HB1.out _ _⟩
def wiB (n : Int) : Bool := decide (1 ≤ n) && decide (n ≤ 4)
set_option maxRecDepth 100000 in
theorem within_any (w : World) (n : Int) : Calls Tryz.prog 12 #[.int .i64 n, .int .i64 1, .int .i64 4] w fun e w' => e = .returned (.bool (wiB n)) ∧ w = w' := by
  unfold wiB
  go_enter Tryz.func12, Tryz.ntmps12
  go_wp2
  go_ret
  refine ⟨?_, rfl⟩
  by_cases h1 : 1 ≤ n
  · by_cases h2 : n ≤ 4
    · simp [h1, h2]; omega
    · simp [h1, h2]; omega
  · simp [h1]; omega
/-- What Row says. -/
def rwG (T : Nat → ByteArray) (st : Int) : Nat → Nat → Option (List Lk × Int)
  | 0, _ => if wiB st = true then none else some ([(stB, 19)], 241)
  | f + 1, i => if tfB i (T i) = true then rwG T st f (i + 1) else some ([(stB, (i : Int))], 241)
theorem cell_blk {W : World} {g i : Nat} {c : Array Value} {t : TypeId} {u : Value} (h : W.heap[g]? = some (.cells c t (0, 0))) (hu : c[i]? = some u) : W.cell? ⟨g, i, none⟩ = some u := by
  simp [World.cell?, h, hu]
theorem info23 : (Tryz.prog.info? 23).map (·.size) = some 20 := by kernel_rfl
theorem info36 : (Tryz.prog.info? 36).map (·.size) = some 19 := by kernel_rfl
set_option maxRecDepth 100000 in
set_option maxHeartbeats 8000000 in
theorem row_core (w : World) (C A : Array Value) (T : Nat → ByteArray) (st : Int) (hsz : C.size = 20) (h19 : C[19]? = some (.int .i64 st)) (c9 : ∀ W, Calls Tryz.prog 9 #[.agg C] W fun e w' => e = .returned (.agg A) ∧ Below W.heap.size W w')
    (hix : ∀ k : Nat, k < 19 → ∀ W : World, (Instr.index 36 (.agg A) (.int .i64 (k : Int))).run Tryz.prog W = .ok (.string (T k)) W) (hz : ∀ k, k < 19 → (T k).size ≤ 140737488351232) (hG : Gs w) : Calls Tryz.prog 5 #[.agg C] w (CkP w (rwG T st 19 0)) := by
  have HIX : Hid (∀ k : Nat, k < 19 → ∀ W : World, (Instr.index 36 (.agg A) (.int .i64 (k : Int))).run Tryz.prog W = .ok (.string (T k)) W) := hix
  obtain ⟨R, hR⟩ : ∃ R, rwG T st 19 0 = R := ⟨_, rfl⟩
  have HR : Hid (rwG T st 19 0 = R) := hR
  rw [hR]
  have hH0 : (w.alloc (.cells C 23)).heap[w.heap.size]? = some (.cells C 23 (0, 0)) := heap_alloc_last w _
  have hi23 : (Tryz.prog.info? 23).map (·.size) = some C.size := by rw [hsz]; exact info23
  have HB0 : Hid (Below w.heap.size w (w.alloc (.cells C 23))) := (Below.refl _ _).alloc (Nat.le_refl _) _
  have HY : Hid ((w.alloc (.cells C 23)).cell? ⟨w.heap.size, 19, none⟩ = some (.int .i64 st)) := cell_blk hH0 h19
  have HG : Hid (Gs w) := hG
  have HZ : Hid (∀ k, k < 19 → (T k).size ≤ 140737488351232) := hz
  clear hR hG hz hix hsz h19
  go_enter Tryz.func5, Tryz.ntmps5
  go_wp2_with (first | refine Go.Great.wpList_boxTo rfl 23 (.tmp 0) rfl _ rfl w.heap.size rfl C rfl ?_ | refine wpList_load_row rfl 23 (.tmp 1) rfl w.heap.size rfl 23 C (0, 0) _ hH0 Tryz.underlying23 rfl hi23 ?_ | (go_at_call 9; refine Stop.mk ?_))
  refine Stop.out ((c9 _).mono ?_)
  rintro e W1 ⟨rfl, hb1⟩
  have HB1 : Hid (Below w.heap.size w W1) := HB0.out.trans (hb1.mono HB0.out.size)
  have HS1 : Hid (W1.cell? ⟨w.heap.size, 19, none⟩ = some (.int .i64 st)) := (hb1.cell (clt HY.out)).trans HY.out
  clear hb1 c9 HB0 hH0 hi23 HY
  go_wp2
  go_loopg [7] 19 (fun k s7 wx => ∃ i : Nat, s7 = .int .i64 (i : Int) ∧ i ≤ 19 ∧ k + i = 19 ∧ Hid (rwG T st (19 - i) i = R) ∧ Hid (Below w.heap.size w wx) ∧ Hid (wx.cell? ⟨w.heap.size, 19, none⟩ = some (.int .i64 st)))
  case atStart => exact ⟨0, rfl, by omega, by omega, HR, HB1, HS1⟩
  case round =>
    clear HR HB1 HS1
    obtain ⟨i, rfl, hi, hg, HI, HB, HS⟩ := hrel
    by_cases hlt : i < 19
    · have iI : (i : Int) < 19 := by omega
      have hix := HIX.out i hlt
      have HI2 : Hid ((if tfB i (T i) = true then rwG T st (19 - (i + 1)) (i + 1) else some ([(stB, (i : Int))], 241)) = R) := by
        have := HI.out
        rw [show 19 - i = (19 - (i + 1)) + 1 by omega, rwG] at this
        exact this
      have HC : Hid (Calls Tryz.prog 10 #[.int .i64 (i : Int), .string (T i)] wr fun e w' => e = .returned (.bool (tfB i (T i))) ∧ Below wr.heap.size wr w') := textFits_any wr i hlt (T i) (HZ.out i hlt) (HG.out.on HB.out)
      clear HI HIX
      generalize hF : tfB i (T i) = F at *
      generalize T i = t at *
      clear hF
      go_wp2_with (go_at_call 10; refine Stop.mk ?_)
      refine Stop.out (HC.out.mono ?_)
      rintro e2 W2 ⟨rfl, hb2⟩
      have HB2 : Hid (Below w.heap.size w W2) := HB.out.trans (hb2.mono HB.out.size)
      have HS2 : Hid (W2.cell? ⟨w.heap.size, 19, none⟩ = some (.int .i64 st)) := (hb2.cell (clt HS.out)).trans HS.out
      clear hb2 HC HB HS hix
      cases F with
      | true =>
        have HI3 : Hid (rwG T st (19 - (i + 1)) (i + 1) = R) := by have := HI2.out; rw [if_pos rfl] at this; exact this
        clear HI2
        go_wp2
        go_roundg (19 - (i + 1))
        case measure => omega
        case rel => exact ⟨i + 1, by simp, by omega, by omega, HI3, HB2, HS2⟩
      | false =>
        have HI3 : Hid (some ([(stB, (i : Int))], 241) = R) := by have := HI2.out; rw [if_neg (by decide)] at this; exact this
        clear HI2
        go_wp2_with (go_at_call 11; refine Stop.mk ?_)
        refine Stop.out ((srefusal_new _ (i : Int) 241).mono ?_)
        rintro e3 W3 ⟨q, rfl, hq, hb3⟩
        have HB3 : Hid (Below w.heap.size w W3) := HB2.out.trans (hb3.mono HB2.out.size)
        have HQ : Hid _ := hq
        clear hb3 hq
        go_wp2
        go_ret
        exact ⟨_, rfl, by rw [← HI3.out]; exact HQ.out, HB3.out⟩
    · have iI : ¬ ((i : Int) < 19) := by omega
      have HI2 : Hid ((if wiB st = true then none else some ([(stB, 19)], 241)) = R) := by
        have := HI.out
        rw [show 19 - i = 0 by omega] at this
        exact this
      have hs19 := HS.out
      have c12 := within_any wr st
      clear HI HIX
      generalize wiB st = F at *
      go_wp2_with (go_at_call 12; refine Stop.mk ?_)
      refine Stop.out (c12.mono ?_)
      rintro e2 W2 ⟨rfl, rfl⟩
      clear c12
      cases F with
      | true =>
        have HI3 : Hid (none = R) := by have := HI2.out; rw [if_pos rfl] at this; exact this
        clear HI2
        go_wp2
        go_ret
        exact ⟨_, rfl, by rw [← HI3.out]; rfl, HB.out⟩
      | false =>
        have HI3 : Hid (some ([(stB, 19)], 241) = R) := by have := HI2.out; rw [if_neg (by decide)] at this; exact this
        clear HI2
        go_wp2_with (go_at_call 11; refine Stop.mk ?_)
        refine Stop.out ((srefusal_new _ 19 241).mono ?_)
        rintro e3 W3 ⟨q, rfl, hq, hb3⟩
        have HB3 : Hid (Below w.heap.size w W3) := HB.out.trans (hb3.mono HB.out.size)
        have HQ : Hid _ := hq
        clear hb3 hq
        go_wp2
        go_ret
        exact ⟨_, rfl, by rw [← HI3.out]; exact HQ.out, HB3.out⟩
/-- What the document's Row keeps. -/
structure RI (w X : World) (B : Nat) (T : Nat → ByteArray) (st : Int) : Prop where
  r : Rz (w.heap.size + 1) X
  t : ∀ k, k < 19 → X.cell? ⟨B, k, none⟩ = some (.string (T k))
  s : X.cell? ⟨w.heap.size, 19, none⟩ = some (.int .i64 st)
  b : Below w.heap.size w X
theorem RI.on {w X Y : World} {B : Nat} {T : Nat → ByteArray} {st : Int} (h : RI w X B T st) (hb : Below X.heap.size X Y) : RI w Y B T st :=
  ⟨h.r.on hb, fun k hk => (hb.cell (clt (h.t k hk))).trans (h.t k hk), (hb.cell (clt h.s)).trans h.s, h.b.trans (hb.mono h.b.size)⟩
theorem put_up {W w : World} {b : Nat} (h : Below w.heap.size w W) (hb : w.heap.size ≤ b) (v0 v1 : Value) : Below w.heap.size w ((W.setCell ⟨b, 0, none⟩ v0).setCell ⟨b, 1, none⟩ v1) :=
  (h.setCell (p := ⟨b, 0, none⟩) hb _).setCell (p := ⟨b, 1, none⟩) hb _
theorem lk_ne {X : World} {b g : Nat} {x : Lk} {ls : List Lk} (h : Rz b X) (hl : LkAt X g (x :: ls)) : b ≠ g := fun e => by
  have := (hl 0 (by simp)).1
  rw [← e] at this
  rw [Nat.zero_mul, h.r0] at this
  cases this
set_option maxRecDepth 100000 in
set_option maxHeartbeats 8000000 in
theorem rrow_core (w : World) (C A : Array Value) (T : Nat → ByteArray) (st : Int) (hsz : C.size = 20) (h19 : C[19]? = some (.int .i64 st)) (c13 : ∀ W, Calls Tryz.prog 13 #[.agg C] W fun e w' => e = .returned (.agg A) ∧ Below W.heap.size W w')
    (hA : A.size = 19) (hA1 : A.all (·.oneCell') = true) (hAt : ∀ k, k < 19 → A[k]? = some (.string (T k))) (hz : ∀ k, k < 19 → (T k).size ≤ 140737488351232) (hF : ∀ i, i < 19 → gtB (ndB i) (vv i) (swB i (T i)) (T i) = tfB i (T i)) (hG : Gs w) : Calls Tryz.prog 6 #[.agg C] w (CkD w (rwG T st 19 0)) := by
  obtain ⟨R, hR⟩ : ∃ R, rwG T st 19 0 = R := ⟨_, rfl⟩
  have HR : Hid (rwG T st 19 0 = R) := hR
  rw [hR]
  obtain ⟨W0, hW0⟩ : ∃ W0, (w.alloc (.cells C 23)).alloc (.cells #[.slice none 0 0, .int .i64 0] 30) = W0 := ⟨_, rfl⟩
  have hS0 : (w.alloc (.cells C 23)).heap.size = w.heap.size + 1 := Wk.size_alloc _ _
  have HB0 : Hid (Below w.heap.size w W0) := hW0 ▸ ((Below.refl _ _).alloc (Nat.le_refl _) _).alloc (by rw [hS0]; omega) _
  have hb00 : Below (w.heap.size + 1) (w.alloc (.cells C 23)) W0 := hW0 ▸ (Below.refl _ _).alloc (by rw [hS0]; omega) _
  have hH0 : W0.heap[w.heap.size]? = some (.cells C 23 (0, 0)) := (hb00.block _ (by omega)).trans (heap_alloc_last w _)
  have hi23 : (Tryz.prog.info? 23).map (·.size) = some C.size := by rw [hsz]; exact info23
  have hi36 : (Tryz.prog.info? 36).map (·.size) = some A.size := by rw [hA]; exact info36
  have HY : Hid (W0.cell? ⟨w.heap.size, 19, none⟩ = some (.int .i64 st)) := cell_blk hH0 h19
  have HZ0 : Hid (Rz (w.heap.size + 1) W0) := by
    show Rz (w.heap.size + 1) W0
    rw [← hW0, ← hS0]
    exact Rz.new _
  have HG : Hid (Gs w) := hG
  have HZ : Hid (∀ k, k < 19 → (T k).size ≤ 140737488351232) := hz
  have HF : Hid (∀ i, i < 19 → gtB (ndB i) (vv i) (swB i (T i)) (T i) = tfB i (T i)) := hF
  have HA : Hid (∀ k, k < 19 → A[k]? = some (.string (T k))) := hAt
  have HA2 : Hid (A.size = 19) := hA
  clear hR hG hz hsz h19 hF hAt hb00 hA
  go_enter Tryz.func6, Tryz.ntmps6
  go_wp2_with (first | refine Go.Great.wpList_boxTo rfl 23 (.tmp 0) rfl _ rfl w.heap.size rfl C rfl ?_ | refine wpList_load_row rfl 23 (.tmp 1) rfl w.heap.size rfl 23 C (0, 0) _ hH0 Tryz.underlying23 rfl hi23 ?_ | (go_at_call 13; refine Stop.mk ?_))
  refine Stop.out ((c13 _).mono ?_)
  rintro e W1 ⟨rfl, hb1⟩
  have hH1 : ∀ Z : Array Value, (W1.alloc (.cells Z 36)).heap[W1.heap.size]? = some (.cells Z 36 (0, 0)) := fun Z => heap_alloc_last W1 _
  have hbA : Below W1.heap.size W1 (W1.alloc (.cells A 36)) := (Below.refl _ _).alloc (Nat.le_refl _) _
  have HI0 : Hid (RI w (W1.alloc (.cells A 36)) W1.heap.size T st) := ⟨(HZ0.out.on hb1).on hbA, fun k hk => cell_blk (hH1 A) (HA.out k hk), (hbA.cell (Nat.lt_of_lt_of_le (clt HY.out) hb1.size)).trans ((hb1.cell (clt HY.out)).trans HY.out), (HB0.out.trans (hb1.mono HB0.out.size)).trans (hbA.mono (HB0.out.trans (hb1.mono HB0.out.size)).size)⟩
  clear hb1 c13 HB0 hH0 hi23 HY hbA hW0 HZ0 hS0
  go_wp2_with (refine wpList_store_rowTo rfl 36 (.tmp 3) (.tmp 6) rfl rfl W1.heap.size A ?_ ?_ 36 _ (hH1 _) hi36 (by have := HA2.out; simp [this]) hA1 ?_; rfl; rfl; rw [World.setRow_alloc_new])
  generalize W1.alloc (.cells A 36) = W2 at *
  generalize W1.heap.size = B at *
  clear hH1 hi36 hA1 HA HA2
  go_loopg [4] 19 (fun k s4 wx => ∃ i : Nat, s4 = .int .i64 (i : Int) ∧ i ≤ 19 ∧ k + i = 19 ∧ Hid (rwG T st (19 - i) i = R) ∧ Hid (RI w wx B T st))
  case atStart => exact ⟨0, rfl, by omega, by omega, HR, HI0⟩
  case round =>
    clear HR HI0
    obtain ⟨i, rfl, hi, hg, HI, HV⟩ := hrel
    by_cases hlt : i < 19
    · have iI : (i : Int) < 19 := by omega
      have cl := HV.out.t i hlt
      have HI2 : Hid ((if tfB i (T i) = true then rwG T st (19 - (i + 1)) (i + 1) else some ([(stB, (i : Int))], 241)) = R) := by
        have := HI.out
        rw [show 19 - i = (19 - (i + 1)) + 1 by omega, rwG] at this
        exact this
      have hc := good_any wr i hlt (T i) (HZ.out i hlt) (HG.out.on HV.out.b)
      rw [HF.out i hlt] at hc
      have HC : Hid (Calls Tryz.prog 14 #[.int .i64 (i : Int), .string (T i)] wr fun e w' => e = .returned (.bool (tfB i (T i))) ∧ Below wr.heap.size wr w') := hc
      clear HI hc
      generalize hF : tfB i (T i) = F at *
      generalize T i = t at cl HC
      clear hF
      go_wp2_with (go_at_call 14; refine Stop.mk ?_)
      refine Stop.out (HC.out.mono ?_)
      rintro e2 W3 ⟨rfl, hb2⟩
      have HV2 : Hid (RI w W3 B T st) := HV.out.on hb2
      clear hb2 HC HV cl
      cases F with
      | true =>
        have HI3 : Hid (rwG T st (19 - (i + 1)) (i + 1) = R) := by have := HI2.out; rw [if_pos rfl] at this; exact this
        clear HI2
        go_wp2
        go_roundg (19 - (i + 1))
        case measure => omega
        case rel => exact ⟨i + 1, by simp, by omega, by omega, HI3, HV2⟩
      | false =>
        have HI3 : Hid (some ([(stB, (i : Int))], 241) = R) := by have := HI2.out; rw [if_neg (by decide)] at this; exact this
        clear HI2
        go_wp2_with (go_at_call 15; refine Stop.mk ?_)
        refine Stop.out ((no_any _ (i : Int) 241).mono ?_)
        rintro e3 W4 ⟨g, rfl, hg4, hl, hb3⟩
        have HV3 : Hid (RI w W4 B T st) := HV2.out.on hb3
        obtain ⟨r0, r1, rf⟩ := HV3.out.r
        have HL : Hid (LkAt W4 g [(stB, (i : Int))]) := hl
        clear hb3 hl hg4 HV2
        go_wp2
        refine bodyPost_ret (v := .agg #[.slice (some ⟨g, 0, none⟩) 1 1, .int .i64 241]) (by simp [results, Tryz.results6, go_sem, r0, r1]) rfl ⟨_, rfl, by rw [← HI3.out]; exact ⟨g, 1, rfl, lk_put HL.out (lk_ne HV3.out.r HL.out) _ _⟩, put_up HV3.out.b (by omega) _ _⟩
    · have iI : ¬ ((i : Int) < 19) := by omega
      have HI2 : Hid ((if wiB st = true then none else some ([(stB, 19)], 241)) = R) := by
        have := HI.out
        rw [show 19 - i = 0 by omega] at this
        exact this
      have hs19 := HV.out.s
      clear HI
      by_cases h1 : st < 1
      · have HI3 : Hid (some ([(stB, 19)], 241) = R) := by
          have := HI2.out
          have e : wiB st = false := by unfold wiB; rw [decide_eq_false (by omega)]; rfl
          rw [e, if_neg (by decide)] at this
          exact this
        clear HI2
        go_wp2_with (go_at_call 15; refine Stop.mk ?_)
        refine Stop.out ((no_any _ 19 241).mono ?_)
        rintro e3 W4 ⟨g, rfl, hg4, hl, hb3⟩
        have HV3 : Hid (RI w W4 B T st) := HV.out.on hb3
        obtain ⟨r0, r1, rf⟩ := HV3.out.r
        have HL : Hid (LkAt W4 g [(stB, 19)]) := hl
        clear hb3 hl hg4 HV hs19
        go_wp2
        refine bodyPost_ret (v := .agg #[.slice (some ⟨g, 0, none⟩) 1 1, .int .i64 241]) (by simp [results, Tryz.results6, go_sem, r0, r1]) rfl ⟨_, rfl, by rw [← HI3.out]; exact ⟨g, 1, rfl, lk_put HL.out (lk_ne HV3.out.r HL.out) _ _⟩, put_up HV3.out.b (by omega) _ _⟩
      · by_cases h2 : 4 < st
        · have i2 : st > 4 := h2
          have HI3 : Hid (some ([(stB, 19)], 241) = R) := by
            have := HI2.out
            have e : wiB st = false := by unfold wiB; rw [decide_eq_false (show ¬ st ≤ 4 by omega), Bool.and_false]
            rw [e, if_neg (by decide)] at this
            exact this
          clear HI2
          go_wp2_with (go_at_call 15; refine Stop.mk ?_)
          refine Stop.out ((no_any _ 19 241).mono ?_)
          rintro e3 W4 ⟨g, rfl, hg4, hl, hb3⟩
          have HV3 : Hid (RI w W4 B T st) := HV.out.on hb3
          obtain ⟨r0, r1, rf⟩ := HV3.out.r
          have HL : Hid (LkAt W4 g [(stB, 19)]) := hl
          clear hb3 hl hg4 HV hs19
          go_wp2
          refine bodyPost_ret (v := .agg #[.slice (some ⟨g, 0, none⟩) 1 1, .int .i64 241]) (by simp [results, Tryz.results6, go_sem, r0, r1]) rfl ⟨_, rfl, by rw [← HI3.out]; exact ⟨g, 1, rfl, lk_put HL.out (lk_ne HV3.out.r HL.out) _ _⟩, put_up HV3.out.b (by omega) _ _⟩
        · have i2 : ¬ (st > 4) := h2
          have HI3 : Hid (none = R) := by
            have := HI2.out
            have e : wiB st = true := by unfold wiB; rw [decide_eq_true (by omega), decide_eq_true (by omega)]; rfl
            rw [e, if_pos rfl] at this
            exact this
          clear HI2
          go_wp2_with (go_at_call 16; refine Stop.mk ?_)
          refine Stop.out ((rnone_any _).mono ?_)
          rintro e3 W4 ⟨rfl, hb3⟩
          have HV3 : Hid (RI w W4 B T st) := HV.out.on hb3
          obtain ⟨r0, r1, rf⟩ := HV3.out.r
          clear hb3 HV hs19
          go_wp2
          refine bodyPost_ret (v := .agg #[.slice none 0 0, .int .i64 0]) (by simp [results, Tryz.results6, go_sem, r0, r1]) rfl ⟨_, rfl, by rw [← HI3.out]; rfl, put_up HV3.out.b (by omega) _ _⟩
end Go.Proofs.YtgdemlebohlolaaGreatDoor.Ck
