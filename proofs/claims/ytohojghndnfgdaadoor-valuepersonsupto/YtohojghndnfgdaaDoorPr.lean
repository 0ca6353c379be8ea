import Derived.Test.YtohojghndnfgdaaDoorPq
import Derived.Test.YtohojghndnfgdaaDoorEi
import Derived.ChangeKeysEq
/-
  DERIVED. The law of names.
-/
namespace Go.Proofs.YtohojghndnfgdaaDoor
open Go Go.Proofs Go.RowKit

structure Kst (w wx : World) (R : List (Nat × TypeId × Nat × (Nat → Value))) (P Q : List (Value × Option (Int × Int))) : Prop where
  r : ∀ x ∈ R, wx.rowIs x.1 x.2.1 x.2.2.1 x.2.2.2
  p : ∀ x ∈ P, PErr wx x.1 x.2
  q : ∀ x ∈ Q, RErr wx x.1 x.2
  b : Below w.heap.size w wx
variable {w wx wy : World} {R : List (Nat × TypeId × Nat × (Nat → Value))} {P Q : List (Value × Option (Int × Int))}
theorem Kst.on (h : Kst w wx R P Q) (hb : Below wx.heap.size wx wy) : Kst w wy R P Q :=
  ⟨fun x hx => (h.r x hx).of_block (hb.block _ (h.r x hx).lt), fun x hx => (h.p x hx).next hb, fun x hx => (h.q x hx).next hb, h.b.trans (hb.mono h.b.size)⟩
theorem Kst.addP {v : Value} {o : Option (Int × Int)} (h : Kst w wx R P Q) (hv : PErr wx v o) : Kst w wx R ((v, o) :: P) Q :=
  ⟨h.r, fun x hx => by rcases List.mem_cons.1 hx with rfl | hx; exact hv; exact h.p x hx, h.q, h.b⟩
theorem Kst.addQ {v : Value} {o : Option (Int × Int)} (h : Kst w wx R P Q) (hv : RErr wx v o) : Kst w wx R P ((v, o) :: Q) :=
  ⟨h.r, h.p, fun x hx => by rcases List.mem_cons.1 hx with rfl | hx; exact hv; exact h.q x hx, h.b⟩
theorem Kst.name (h : Kst w wx R P Q) (X : List (List ByteArray)) : Kst w ((wx.alloc (.cells z15 25)).setRow wx.heap.size (a15 X)) ((wx.heap.size, 25, 15, f15 X) :: R) P Q := by
  have hb : Below wx.heap.size wx ((wx.alloc (.cells z15 25)).setRow wx.heap.size (a15 X)) := below_setRow ((Below.refl _ wx).alloc (Nat.le_refl _) _) _
  have k := h.on hb
  refine ⟨fun x hx => ?_, k.p, k.q, k.b⟩
  rcases List.mem_cons.1 hx with rfl | hx
  · exact block_row (setRow_heap _ _ z15 (a15 X) 25 (0, 0) (heap_alloc_new wx _))
  · exact k.r x hx
theorem Kst.box (h : Kst w wx R P Q) (X : List (List ByteArray)) : Kst w (wx.alloc (.cells (a15 X) 25)) ((wx.heap.size, 25, 15, f15 X) :: R) P Q := by
  have k := h.on ((Below.refl _ wx).alloc (Nat.le_refl _) (.cells (a15 X) 25))
  refine ⟨fun x hx => ?_, k.p, k.q, k.b⟩
  rcases List.mem_cons.1 hx with rfl | hx
  · exact block_row (heap_alloc_new wx _)
  · exact k.r x hx
def f2 (a b : Value) : Nat → Value := fun k => if k = 0 then a else b
theorem Kst.fault (h : Kst w wx R P Q) (a b : Value) : Kst w (wx.alloc (.cells #[a, b] 32)) ((wx.heap.size, 32, 2, f2 a b) :: R) P Q := by
  have k := h.on ((Below.refl _ wx).alloc (Nat.le_refl _) (.cells #[a, b] 32))
  refine ⟨fun x hx => ?_, k.p, k.q, k.b⟩
  rcases List.mem_cons.1 hx with rfl | hx
  · exact World.rowIs_alloc wx _ 32 _ (fun i hi => by
      rcases (by simp at hi; omega : i = 0 ∨ i = 1) with rfl | rfl <;> rfl)
  · exact k.r x hx
theorem Kst.nm {q : Nat} {X : List (List ByteArray)} (h : Kst w wx R P Q) (hx : (q, 25, 15, f15 X) ∈ R) : wx.heap[q]? = some (.cells (a15 X) 25 (0, 0)) := row_block (h.r _ hx)
theorem Kst.f2c {q : Nat} {a b : Value} (h : Kst w wx R P Q) (hx : (q, 32, 2, f2 a b) ∈ R) : wx.cell? ⟨q, 0, none⟩ = some a ∧ wx.cell? ⟨q, 1, none⟩ = some b :=
  ⟨(h.r _ hx).cell (i := 0) (by simp), (h.r _ hx).cell (i := 1) (by simp)⟩
theorem RErr.shape {v : Value} {o : Option (Int × Int)} (h : RErr wx v o) : ∃ (p : Option Addr) (l k : Nat) (c : Int), v = .agg #[.slice p l k, .int .i64 c] := by
  cases o with
  | none => exact ⟨_, _, _, _, h⟩
  | some x => obtain ⟨g, k, rfl, _⟩ := h; exact ⟨_, _, _, _, rfl⟩

theorem pair_q2 (W : World) : ((W.alloc (.cells z15 25)).alloc (.cells #[.slice none 0 0, .int .i64 0] 32)).heap[W.heap.size]? = some (.cells z15 25 (0, 0)) := by
  show ((W.heap.push _).push _)[W.heap.size]? = _
  rw [Array.getElem?_push_lt (by simp)]
  simp
theorem pair_q3 (W : World) (D : Array Value) : (((W.alloc (.cells z15 25)).alloc (.cells #[.slice none 0 0, .int .i64 0] 32)).setRow W.heap.size D).heap[W.heap.size + 1]? = some (.cells #[.slice none 0 0, .int .i64 0] 32 (0, 0)) := by
  rw [setRow_other _ _ _ _ (by omega)]
  have := heap_alloc_new (W.alloc (.cells z15 25)) (.cells #[.slice none 0 0, .int .i64 0] 32)
  rw [World.size_alloc] at this
  exact this
theorem fault_row {w : World} {q : Nat} {a b : Value} (h : w.heap[q]? = some (.cells #[a, b] 32 (0, 0))) : w.rowIs q 32 2 (f2 a b) :=
  ⟨#[a, b], h, rfl, fun i hi => by
    rcases (by omega : i = 0 ∨ i = 1) with rfl | rfl <;> rfl⟩
theorem Kst.pair (h : Kst w wx R P Q) (X : List (List ByteArray)) (a b : Value) : Kst w ((((wx.alloc (.cells z15 25)).alloc (.cells #[.slice none 0 0, .int .i64 0] 32)).setRow wx.heap.size (a15 X)).setRow (wx.heap.size + 1) #[a, b]) ((wx.heap.size + 1, 32, 2, f2 a b) :: (wx.heap.size, 25, 15, f15 X) :: R) P Q := by
  have b1 : Below wx.heap.size wx (((wx.alloc (.cells z15 25)).alloc (.cells #[.slice none 0 0, .int .i64 0] 32)).setRow wx.heap.size (a15 X)) := below_setRow (((Below.refl _ wx).alloc (Nat.le_refl _) _).alloc (by simp) _) _
  have hb : Below wx.heap.size wx ((((wx.alloc (.cells z15 25)).alloc (.cells #[.slice none 0 0, .int .i64 0] 32)).setRow wx.heap.size (a15 X)).setRow (wx.heap.size + 1) #[a, b]) :=
    ⟨b1.os, b1.tape, b1.output, by show _ ≤ (World.setRow _ (wx.heap.size + 1) #[a, b]).heap.size; simp [World.setRow]; omega, fun k hk => (setRow_other _ (wx.heap.size + 1) k _ (by omega)).trans (b1.block k hk)⟩
  have k := h.on hb
  refine ⟨fun x hx => ?_, k.p, k.q, k.b⟩
  rcases List.mem_cons.1 hx with rfl | hx
  · refine fault_row (setRow_heap _ _ _ #[a, b] 32 (0, 0) (pair_q3 wx _))
  rcases List.mem_cons.1 hx with rfl | hx
  · refine block_row ((setRow_other _ (wx.heap.size + 1) wx.heap.size _ (by omega)).trans (setRow_heap _ _ z15 (a15 X) 25 (0, 0) (pair_q2 wx)))
  · exact k.r x hx

theorem Kst.start (w : World) : Kst w w [] [] [] := ⟨(fun _ h => by cases h), (fun _ h => by cases h), (fun _ h => by cases h), Below.refl _ _⟩
def nz (o : Option (Int × Int)) : Prop := ∀ a c, o = some (a, c) → (c != 0) = true
theorem nz_none : nz none := fun _ _ e => by cases e
theorem nz_some (a c : Int) (h : (c != 0) = true) : nz (some (a, c)) := fun _ _ e => by cases e; exact h
theorem scE_code (G : ByteArray) : ∀ f p c x, scE G f p c = some x → (x.2 != 0) = true
  | 0, _, _, x, h => by cases h
  | f + 1, p, c, x, h => by
    rw [scE] at h
    split at h
    · obtain rfl := Option.some.inj h; rfl
    · split at h
      · split at h
        · obtain rfl := Option.some.inj h; rfl
        · exact scE_code G f _ _ x h
      · exact scE_code G f _ _ x h
theorem gR_code (G : ByteArray) (x : Nat × Int) (h : (gR G).1 = some x) : (x.2 != 0) = true := by
  rcases gR_doc G with ⟨_, h2⟩ | ⟨_, _, h2⟩ | ⟨_, _, h2, _⟩
  · exact scE_code G _ _ _ x (h2.symm.trans h)
  · rw [h2] at h; obtain rfl := Option.some.inj h; rfl
  · rw [h2] at h; cases h
theorem nz_pn : ∀ (Gs : List ByteArray) (g fr : Nat) (acc : List (List ByteArray)), nz (pn g fr Gs acc).1
  | [], g, fr, acc => by rw [pn]; exact nz_none
  | G :: Gs, g, fr, acc => by
    rw [pn]
    split
    · exact nz_some _ _ rfl
    · cases hG : (gR G).1 with
      | some x => exact nz_some _ _ (gR_code G x hG)
      | none => exact nz_pn Gs _ _ _
theorem nz_prn : ∀ (Ls : List (List ByteArray)) (g : Nat) (ts : List ByteArray), nz (prn g Ls ts).1
  | [], g, ts => by rw [prn]; exact nz_none
  | L :: Ls, g, ts => by
    rw [prn]
    cases hL : (GT L).1 with
    | some x =>
      refine nz_some _ _ ?_
      unfold GT at hL
      cases he : gE L with
      | some c => rw [he] at hL; obtain rfl := Option.some.inj hL; rfl
      | none =>
        rw [he] at hL
        dsimp only at hL
        split at hL
        · obtain rfl := Option.some.inj hL; rfl
        · cases hL
    | none => exact nz_prn Ls _ _
theorem nz_PRN (P : List (List ByteArray)) : nz (PRN P).1 := by
  have := nz_prn P 0 []
  unfold PRN
  cases h : prn 0 P [] with
  | mk e ts =>
    rw [h] at this
    cases e with
    | some x => exact this
    | none => exact nz_none
theorem eq9 (W : World) (y : ByteArray) : (Go.Op.equalIn 9997 9 (.string y) (.string y)).run Tryd.prog W = .ok true W := by
  rw [run_equalIn_string (w := W) 9996 9 y y Tryd.underlying9]; simp
theorem inf9 : ∃ i, Tryd.prog.info? 9 = some i := Option.isSome_iff_exists.1 (by kernel_rfl)
theorem inf22 : ∃ i, Tryd.prog.info? 22 = some i := Option.isSome_iff_exists.1 (by kernel_rfl)
theorem cel9 : Tryd.prog.cellsOf 9 = 1 := by kernel_rfl
theorem cel22 : Tryd.prog.cellsOf 22 = 5 := by kernel_rfl
theorem eq22 (W : World) (x0 x1 x2 x3 x4 : ByteArray) : (Go.Op.equalIn 9998 22 (.agg #[.string x0, .string x1, .string x2, .string x3, .string x4]) (.agg #[.string x0, .string x1, .string x2, .string x3, .string x4])).run Tryd.prog W = .ok true W := by
  obtain ⟨i, hi⟩ := inf9
  rw [run_equalIn_array (P := Tryd.prog) W 9997 _ _ Tryd.underlying22 hi, cel9]
  have p : ∀ (k : Nat) (v : Value), (#[.string x0, .string x1, .string x2, .string x3, .string x4] : Array Value)[k]? = some v → (part 9 #[.string x0, .string x1, .string x2, .string x3, .string x4] k).run Tryd.prog W = .ok v W := fun k v h => run_part_plain W (by kernel_rfl) h
  have p0 := p 0 (.string x0) rfl
  have p1 := p 1 (.string x1) rfl
  have p2 := p 2 (.string x2) rfl
  have p3 := p 3 (.string x3) rfl
  have p4 := p 4 (.string x4) rfl
  show (Op.eqItems 9997 9 1 _ _ [0, 1, 2, 3, 4]).run Tryd.prog W = _
  simp only [Op.eqItems, Sem.run_bind, Nat.mul_one, p0, p1, p2, p3, p4, Result.andThen_ok, eq9, Bool.not_true, Bool.false_eq_true, if_false, Sem.run_pure]
theorem eq23 (W : World) (x0 x1 x2 x3 x4 x5 x6 x7 x8 x9 x10 x11 x12 x13 x14 : ByteArray) : (Go.Op.equalIn 9999 23 (.agg #[.string x0, .string x1, .string x2, .string x3, .string x4, .string x5, .string x6, .string x7, .string x8, .string x9, .string x10, .string x11, .string x12, .string x13, .string x14]) (.agg #[.string x0, .string x1, .string x2, .string x3, .string x4, .string x5, .string x6, .string x7, .string x8, .string x9, .string x10, .string x11, .string x12, .string x13, .string x14])).run Tryd.prog W = .ok true W := by
  obtain ⟨i, hi⟩ := inf22
  rw [run_equalIn_array (P := Tryd.prog) W 9998 _ _ Tryd.underlying23 hi, cel22]
  have p0 : (part 22 #[.string x0, .string x1, .string x2, .string x3, .string x4, .string x5, .string x6, .string x7, .string x8, .string x9, .string x10, .string x11, .string x12, .string x13, .string x14] 0).run Tryd.prog W = .ok (.agg #[.string x0, .string x1, .string x2, .string x3, .string x4]) W := by kernel_rfl
  have p1 : (part 22 #[.string x0, .string x1, .string x2, .string x3, .string x4, .string x5, .string x6, .string x7, .string x8, .string x9, .string x10, .string x11, .string x12, .string x13, .string x14] 5).run Tryd.prog W = .ok (.agg #[.string x5, .string x6, .string x7, .string x8, .string x9]) W := by kernel_rfl
  have p2 : (part 22 #[.string x0, .string x1, .string x2, .string x3, .string x4, .string x5, .string x6, .string x7, .string x8, .string x9, .string x10, .string x11, .string x12, .string x13, .string x14] 10).run Tryd.prog W = .ok (.agg #[.string x10, .string x11, .string x12, .string x13, .string x14]) W := by kernel_rfl
  show (Op.eqItems 9998 22 5 _ _ [0, 1, 2]).run Tryd.prog W = _
  simp only [Op.eqItems, Sem.run_bind, show 0 * 5 = 0 from rfl, show 1 * 5 = 5 from rfl, show 2 * 5 = 10 from rfl, p0, p1, p2, Result.andThen_ok, eq22, Bool.not_true, Bool.false_eq_true, if_false, Sem.run_pure]

theorem a15_lit (X : List (List ByteArray)) : a15 X = #[.string (t15 X 0), .string (t15 X 1), .string (t15 X 2), .string (t15 X 3), .string (t15 X 4), .string (t15 X 5), .string (t15 X 6), .string (t15 X 7), .string (t15 X 8), .string (t15 X 9), .string (t15 X 10), .string (t15 X 11), .string (t15 X 12), .string (t15 X 13), .string (t15 X 14)] := rfl

set_option maxRecDepth 100000 in
set_option maxHeartbeats 4000000 in
theorem persons_any (w : World) (s : ByteArray) (hs : s.size ≤ 1048576) (P : List (List ByteArray)) (hP3 : P.length = 3) (hP : ∀ g j, j < 5 → (t5 (P.getD g []) j).size ≤ 1048576) :
    Calls Tryd.prog 3 #[.string s, .agg (a15 P)] w fun e w' => e = .returned (.bool true) ∧ Below w.heap.size w w' := by
  have c4 := fun W => parse4_any W s hs
  have c5 := fun W => rparse5_any W s hs
  have c6 := fun W => print6_any W P hP3 hP
  have c7 := fun W => rprint7_any W P hP3 hP
  have Z1 : Hid (nz (PNs s).1) := nz_pn _ _ _ _
  have Z2 : Hid (nz (PRN P).1) := nz_PRN P
  generalize (PNs s).1 = o1 at *
  generalize (PNs s).2 = X at *
  generalize (PRN P).1 = o2 at *
  generalize (PRN P).2 = T at *
  obtain ⟨B0, hB0⟩ : ∃ B0, w.heap.size = B0 := ⟨_, rfl⟩
  have K0 : Hid (Kst w (w.alloc (.cells (a15 P) 25)) [(B0, 25, 15, f15 P)] [] []) := by
    have h := (Kst.start w).box P
    rw [hB0] at h
    exact h
  have hiP : (Tryd.prog.info? 25).map (·.size) = some (a15 P).size := by rw [a15_size]; exact info25
  have hiX : (Tryd.prog.info? 25).map (·.size) = some (a15 X).size := by rw [a15_size]; exact info25
  have hzX : z15.size = (a15 X).size := by rw [a15_size]; rfl
  have hoX := a15_one X
  obtain ⟨A, hA⟩ : ∃ A, a15 P = A := ⟨_, rfl⟩
  obtain ⟨D, hD⟩ : ∃ D, a15 X = D := ⟨_, rfl⟩
  have HA : Hid (a15 P = A) := hA
  have HD : Hid (a15 X = D) := hD
  rw [hA] at K0 hiP c6 c7 ⊢
  rw [hD] at hiX hzX hoX c4 c5
  clear hA hD hP hP3 hs
  go_enter Tryd.func3, Tryd.ntmps3
  go_wp2_with (go_at_call 4; refine Stop.mk ?_)
  refine Stop.out ((c4 _).mono ?_)
  rintro e W1 ⟨v1, rfl, hv1, hb1⟩
  have K1 := (K0.out.on hb1).addP hv1
  have K1' : Hid _ := K1
  clear c4 hv1 hb1 K0 K1
  have q1 : (W1.alloc (.cells z15 25)).heap[W1.heap.size]? = some (.cells z15 25 (0, 0)) := heap_alloc_new W1 _
  go_upto_region 2 with (refine wpList_store_rowTo rfl 25 (.tmp 5) (.tmp 16) rfl rfl W1.heap.size D rfl rfl 25 z15 q1 hiX hzX hoX ?_)
  obtain ⟨B1, hB1⟩ : ∃ B1, W1.heap.size = B1 := ⟨_, rfl⟩
  have Ka := K1'.out.name X
  rw [HD.out, hB1] at Ka
  have Ka' : Hid _ := Ka
  clear q1 K1' Ka
  go_wp2_with (go_at_call 5; refine Stop.mk ?_)
  refine Stop.out ((c5 _).mono ?_)
  rintro e W2 ⟨v2, rfl, hv2, hb2⟩
  have K2 := (Ka'.out.on hb2).addQ hv2
  obtain ⟨p2, l2, k2, d2, rfl⟩ := RErr.shape hv2
  have K2' : Hid _ := K2
  clear c5 hv2 hb2 Ka' K2
  have q2 := pair_q2 W2
  have q3 := pair_q3 W2 D
  have fo : (#[Value.slice p2 l2 k2, Value.int .i64 d2]).all (·.oneCell') = true := by simp [Value.oneCell']
  go_upto_region 3 with (first | refine wpList_store_rowTo rfl 25 (.tmp 7) (.tmp 21) rfl rfl W2.heap.size D rfl rfl 25 z15 q2 hiX hzX hoX ?_ | refine wpList_store_rowTo rfl 32 (.tmp 8) (.tmp 22) rfl rfl (W2.heap.size + 1) #[.slice p2 l2 k2, .int .i64 d2] rfl rfl 32 _ q3 info32 rfl fo ?_)
  have Kb := K2'.out.pair X (.slice p2 l2 k2) (.int .i64 d2)
  rw [HD.out] at Kb
  obtain ⟨B2, hB2⟩ : ∃ B2, W2.heap.size = B2 := ⟨_, rfl⟩
  rw [hB2] at Kb
  have k3 := Kb.nm (X := P) (q := B0) (by simp)
  rw [HA.out] at k3
  have Kb' : Hid _ := Kb
  clear q2 q3 fo K2' Kb
  rw [hB2]
  go_wp2_with (first | refine wpList_load_row rfl 25 (.tmp 3) rfl B0 rfl 25 A (0, 0) _ k3 Tryd.underlying25 rfl hiP ?_ | (go_at_call 6; refine Stop.mk ?_))
  refine Stop.out ((c6 _).mono ?_)
  rintro e W3 ⟨v3, rfl, hv3, hb3⟩
  have K3 := (Kb'.out.on hb3).addP hv3
  have k4 := K3.nm (X := P) (q := B0) (by simp)
  rw [HA.out] at k4
  have K3' : Hid _ := K3
  clear c6 hv3 hb3 Kb' K3 k3
  go_upto_region 4 with fail
  go_wp2_with (first | refine wpList_load_row rfl 25 (.tmp 3) rfl B0 rfl 25 A (0, 0) _ k4 Tryd.underlying25 rfl hiP ?_ | (go_at_call 7; refine Stop.mk ?_))
  refine Stop.out ((c7 _).mono ?_)
  rintro e W4 ⟨v4, rfl, hv4, hb4⟩
  have K4 := (K3'.out.on hb4).addQ hv4
  obtain ⟨p4, l4, k4', d4, rfl⟩ := RErr.shape hv4
  have K4' : Hid _ := K4
  clear c7 hv4 hb4 K3' K4 k4
  go_upto_region 5 with fail
  have Kc := K4'.out.fault (.slice p4 l4 k4') (.int .i64 d4)
  obtain ⟨B4, hB4⟩ : ∃ B4, W4.heap.size = B4 := ⟨_, rfl⟩
  obtain ⟨Wc, hWc⟩ : ∃ Wc, W4.alloc (.cells #[.slice p4 l4 k4', .int .i64 d4] 32) = Wc := ⟨_, rfl⟩
  rw [hWc, hB4] at Kc
  rw [hWc, hB4]
  have Kc' : Hid _ := Kc
  clear hWc hB4 K4'
  have n1 := Kc.nm (X := X) (q := B1) (by simp)
  have n2 := Kc.nm (X := X) (q := B2) (by simp)
  rw [HD.out] at n1 n2
  obtain ⟨g0, g1⟩ := Kc.f2c (q := B2 + 1) (a := .slice p2 l2 k2) (b := .int .i64 d2) (by simp)
  have i1 := is_yes (Kc.p (v1, o1) (by simp)) (Kc.q (.agg #[.slice p2 l2 k2, .int .i64 d2], o1) (by simp)) Z1.out
  clear Kc
  obtain ⟨x0, x1, x2, x3, x4, x5, x6, x7, x8, x9, x10, x11, x12, x13, x14, rfl⟩ : ∃ x0 x1 x2 x3 x4 x5 x6 x7 x8 x9 x10 x11 x12 x13 x14 : ByteArray, D = #[.string x0, .string x1, .string x2, .string x3, .string x4, .string x5, .string x6, .string x7, .string x8, .string x9, .string x10, .string x11, .string x12, .string x13, .string x14] := ⟨_, _, _, _, _, _, _, _, _, _, _, _, _, _, _, HD.out.symm.trans (a15_lit X)⟩
  clear HD hzX hoX
  have e23 := eq23 Wc x0 x1 x2 x3 x4 x5 x6 x7 x8 x9 x10 x11 x12 x13 x14
  go_wp2_with (first | refine wpList_load_row rfl 25 (.tmp 5) rfl B1 rfl 25 _ (0, 0) _ n1 Tryd.underlying25 rfl hiX ?_ | refine wpList_load_row rfl 25 (.tmp 7) rfl B2 rfl 25 _ (0, 0) _ n2 Tryd.underlying25 rfl hiX ?_ | (go_at_call 8; refine Stop.mk ?_))
  refine Stop.out (i1.mono ?_)
  rintro e W9 ⟨rfl, hb9⟩
  have K9 := Kc'.out.on hb9
  have K9' : Hid _ := K9
  clear i1 hb9 Kc' g0 g1 n1 n2
  obtain ⟨g0, g1⟩ := K9.f2c (q := B4) (a := .slice p4 l4 k4') (b := .int .i64 d4) (by simp)
  have i2 := is_yes (K9.p (v3, o2) (by simp)) (K9.q (.agg #[.slice p4 l4 k4', .int .i64 d4], o2) (by simp)) Z2.out
  clear K9
  go_wp2_with (go_at_call 8; refine Stop.mk ?_)
  refine Stop.out (i2.mono ?_)
  rintro e W10 ⟨rfl, hb10⟩
  have K10 := (K9'.out.on hb10).b
  clear i2 hb10 K9' g0 g1
  go_wp2
  go_ret
  exact ⟨rfl, K10⟩
end Go.Proofs.YtohojghndnfgdaaDoor
