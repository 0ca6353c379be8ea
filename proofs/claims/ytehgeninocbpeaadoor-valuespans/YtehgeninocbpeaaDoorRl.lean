import Derived.Test.YtehgeninocbpeaaDoorOp
import Derived.Test.YtehgeninocbpeaaDoorOi
import Derived.Test.YtehgeninocbpeaaDoorOj
import Derived.Lib.LaidU8
import Derived.OpenShut
/-
  DERIVED. The law of spans: what is refused has a code; what is kept beside the calls.
-/
namespace Go.Proofs.YtehgeninocbpeaaDoor.Tm
open Go Go.Proofs Go.RowKit

def nz (o : Option (Int × Int)) : Prop := ∀ a c, o = some (a, c) → (c != 0) = true
theorem nz_none : nz none := fun _ _ e => by cases e
theorem nz_some (a c : Int) (h : (c != 0) = true) : nz (some (a, c)) := fun _ _ e => by cases e; exact h
theorem nz_next {o : Option (Int × Int)} (h : nz o) (bad : Bool) (pl : Nat) : nz (nextD o bad pl) := by
  unfold nextD
  split
  · split
    · exact nz_some _ _ rfl
    · exact h
  · exact h
theorem nz_more {s : ByteArray} : ∀ (l : List (Mst → Mst)), (∀ t ∈ l, ∀ S, nz S.o → nz (t S).o) → ∀ S, nz S.o → nz (moreS s l S).o
  | [], _, S, h => h
  | t :: l, ht, S, h => by
    rw [moreS]
    split
    · exact nz_more l (fun t' h' => ht t' (List.mem_cons_of_mem _ h')) _ (ht t (by simp) S h)
    · exact h
theorem nz_frac {s : ByteArray} {S : Mst} (h : nz S.o) : nz (fracS s S).o := by
  unfold fracS
  split
  · exact h
  · split
    · exact h
    · exact h
theorem nz_zone {s : ByteArray} {S : Mst} (h : nz S.o) : nz (zoneS s S).o := by
  unfold zoneS
  split
  · rw [zo_o]; exact nz_next h _ _
  · exact h
theorem nz_year {s : ByteArray} {S : Mst} (h : nz S.o) : nz (yearS s S).o := nz_next h _ _
theorem nz_month {s : ByteArray} {S : Mst} (h : nz S.o) : nz (monthS s S).o := nz_next h _ _
theorem nz_day {s : ByteArray} {S : Mst} (h : nz S.o) : nz (dayS s S).o := nz_next h _ _
theorem nz_hour {s : ByteArray} {S : Mst} (h : nz S.o) : nz (hourS s S).o := nz_next h _ _
theorem nz_minute {s : ByteArray} {S : Mst} (h : nz S.o) : nz (minuteS s S).o := nz_next h _ _
theorem nz_second {s : ByteArray} {S : Mst} (h : nz S.o) : nz (secondS s S).o := nz_next h _ _
theorem nz_oR (vr : Int) (s : ByteArray) (a : Nat) : nz (oR vr s a) := by
  have h0 : nz (stA a).o := fun p c e => by cases e
  have h1 : nz (rdS vr s a).o := by
    unfold rdS
    split
    · exact nz_day (nz_month (nz_year h0))
    · split
      · refine nz_frac (nz_more _ ?_ _ (nz_hour h0))
        intro t ht S hS
        simp at ht
        rcases ht with rfl | rfl
        · exact nz_minute hS
        · exact nz_second hS
      · refine nz_zone (nz_frac (nz_more _ ?_ _ (nz_year h0)))
        intro t ht S hS
        simp at ht
        rcases ht with rfl | rfl | rfl | rfl | rfl
        · exact nz_month hS
        · exact nz_day hS
        · exact nz_hour hS
        · exact nz_minute hS
        · exact nz_second hS
  unfold oR rdO fmO
  split
  · exact nz_some _ _ rfl
  · exact h1
theorem nz_ask (vr : Int) (s : ByteArray) : nz (ask vr s).2 := by
  unfold ask
  split
  · exact nz_oR vr s 0
  · split
    · exact nz_some _ _ rfl
    · unfold bt
      split
      · unfold btO
        split
        · exact nz_none
        · exact nz_oR _ _ _
      · split
        · exact nz_none
        · split
          · exact nz_oR _ _ _
          · split
            · exact nz_some _ _ rfl
            · exact nz_none

/-- What both say: a value's own span, and the span of a key. -/
theorem four (vr : Int) (s : ByteArray) (hs : s.size ≤ 140737488351232) : ∃ (A B C D : Int) (o1 o2 : Option (Int × Int)), nz o1 ∧ nz o2 ∧
    (∀ W, Mt W → Ot W → Calls Tryd.prog 4 #[.int .i64 vr, .string s] W (PostR W (sp A B) o1)) ∧
    (∀ W, Calls Tryd.prog 5 #[.int .i64 vr, .string s] W (PostF W (sp A B) o1)) ∧
    (∀ W, Mt W → Ot W → Rt W → Calls Tryd.prog 6 #[.int .i64 vr, .string s] W (PostR W (sp C D) o2)) ∧
    (∀ W, Calls Tryd.prog 7 #[.int .i64 vr, .string s] W (PostF W (sp C D) o2)) := by
  by_cases hv : isSp vr
  · refine ⟨_, _, _, _, _, _, nz_oR vr s 0, nz_ask vr s, fun W h1 h2 => own_any W vr hv s hs h1 h2, fun W => own5_any W vr hv s hs, fun W h1 h2 h3 => asked_any W vr hv s hs h1 h2 h3, fun W => ?_⟩
    rcases hv with rfl | rfl | rfl
    · exact asked7_5 W s hs
    · exact asked7_7 W s hs
    · exact asked7_21 W s hs
  · exact ⟨0, 0, 0, 0, _, _, nz_some 0 105 rfl, nz_some 0 105 rfl, fun W h1 h2 => own4_not W vr hv s h1 h2, fun W => own5_not W vr hv s, fun W h1 h2 h3 => asked6_not W vr hv s hs h1 h2 h3, fun W => asked7_not W vr hv s⟩

structure Kst (w wx : World) (R : List (Nat × TypeId × Nat × (Nat → Value))) (P Q : List (Value × Option (Int × Int))) : Prop where
  r : ∀ x ∈ R, wx.rowIs x.1 x.2.1 x.2.2.1 x.2.2.2
  p : ∀ x ∈ P, PErr wx x.1 x.2
  q : ∀ x ∈ Q, RErr wx x.1 x.2
  b : Below w.heap.size w wx
theorem Kst.on {w wx wy : World} {R : List (Nat × TypeId × Nat × (Nat → Value))} {P Q : List (Value × Option (Int × Int))} (h : Kst w wx R P Q) (hb : Below wx.heap.size wx wy) : Kst w wy R P Q :=
  ⟨fun x hx => (h.r x hx).of_block (hb.block _ (h.r x hx).lt), fun x hx => (h.p x hx).next hb, fun x hx => (h.q x hx).next hb, h.b.trans (hb.mono h.b.size)⟩
theorem Kst.addP {w wx : World} {R : List (Nat × TypeId × Nat × (Nat → Value))} {P Q : List (Value × Option (Int × Int))} {v : Value} {o : Option (Int × Int)} (h : Kst w wx R P Q) (hv : PErr wx v o) : Kst w wx R ((v, o) :: P) Q :=
  ⟨h.r, fun x hx => by rcases List.mem_cons.1 hx with rfl | hx; exact hv; exact h.p x hx, h.q, h.b⟩
theorem Kst.addQ {w wx : World} {R : List (Nat × TypeId × Nat × (Nat → Value))} {P Q : List (Value × Option (Int × Int))} {v : Value} {o : Option (Int × Int)} (h : Kst w wx R P Q) (hv : RErr wx v o) : Kst w wx R P ((v, o) :: Q) :=
  ⟨h.r, h.p, fun x hx => by rcases List.mem_cons.1 hx with rfl | hx; exact hv; exact h.q x hx, h.b⟩
def fK (a b : Value) : Nat → Value := fun k => if k = 0 then a else b
theorem Kst.span {w wx : World} {R : List (Nat × TypeId × Nat × (Nat → Value))} {P Q : List (Value × Option (Int × Int))} (h : Kst w wx R P Q) (a b : Value) : Kst w (wx.alloc (.cells #[a, b] 23)) ((wx.heap.size, 23, 2, fK a b) :: R) P Q := by
  have k := h.on ((Below.refl _ wx).alloc (Nat.le_refl _) (.cells #[a, b] 23))
  refine ⟨fun x hx => ?_, k.p, k.q, k.b⟩
  rcases List.mem_cons.1 hx with rfl | hx
  · exact World.rowIs_alloc wx _ 23 _ (fun i hi => by
      rcases (by simp at hi; omega : i = 0 ∨ i = 1) with rfl | rfl <;> rfl)
  · exact k.r x hx
theorem Kst.fault {w wx : World} {R : List (Nat × TypeId × Nat × (Nat → Value))} {P Q : List (Value × Option (Int × Int))} (h : Kst w wx R P Q) (a b : Value) : Kst w (wx.alloc (.cells #[a, b] 31)) ((wx.heap.size, 31, 2, fK a b) :: R) P Q := by
  have k := h.on ((Below.refl _ wx).alloc (Nat.le_refl _) (.cells #[a, b] 31))
  refine ⟨fun x hx => ?_, k.p, k.q, k.b⟩
  rcases List.mem_cons.1 hx with rfl | hx
  · exact World.rowIs_alloc wx _ 31 _ (fun i hi => by
      rcases (by simp at hi; omega : i = 0 ∨ i = 1) with rfl | rfl <;> rfl)
  · exact k.r x hx
theorem Kst.two {w wx : World} {R : List (Nat × TypeId × Nat × (Nat → Value))} {P Q : List (Value × Option (Int × Int))} {q : Nat} {t : TypeId} {a b : Value} (h : Kst w wx R P Q) (hx : (q, t, 2, fK a b) ∈ R) : wx.cell? ⟨q, 0, none⟩ = some a ∧ wx.cell? ⟨q, 1, none⟩ = some b :=
  ⟨(h.r _ hx).cell (i := 0) (by simp), (h.r _ hx).cell (i := 1) (by simp)⟩
theorem Kst.start (w : World) : Kst w w [] [] [] := ⟨(fun _ h => by cases h), (fun _ h => by cases h), (fun _ h => by cases h), Below.refl _ _⟩
end Go.Proofs.YtehgeninocbpeaaDoor.Tm

/-
  DERIVED. The law of spans: the walk.
-/
namespace Go.Proofs.YtehgeninocbpeaaDoor.Tm
open Go Go.Proofs Go.RowKit

set_option maxRecDepth 100000 in
set_option maxHeartbeats 4000000 in
theorem spans_any (w : World) (vr : Int) (s : ByteArray) (hs : s.size ≤ 140737488351232) (hT : Mt w) (hO : Ot w) (hR : Rt w) :
    Calls Tryd.prog 3 #[.int .i64 vr, .string s] w fun e w' => e = .returned (.bool true) ∧ Below w.heap.size w w' := by
  obtain ⟨A, B, C, D, o1, o2, hn1, hn2, c4, c5, c6, c7⟩ := four vr s hs
  have HT : Hid (Mt w ∧ Ot w ∧ Rt w) := ⟨hT, hO, hR⟩
  have N1 : Hid (nz o1) := hn1
  have N2 : Hid (nz o2) := hn2
  clear hs hT hO hR hn1 hn2
  unfold sp at c4 c5 c6 c7
  have H6 : Hid _ := c6
  have c4' := c4 w HT.out.1 HT.out.2.1
  clear c4 c6
  go_enter Tryd.func3, Tryd.ntmps3
  go_wp2_with (go_at_call 4; refine Stop.mk ?_)
  refine Stop.out (c4'.mono ?_)
  rintro e W1 ⟨v1, rfl, hv1, hb1⟩
  have K1 : Hid _ := ((Kst.start w).on hb1).addP hv1
  clear c4' hv1 hb1
  go_upto_region 2 with fail
  obtain ⟨B1, hB1⟩ : ∃ B1, W1.heap.size = B1 := ⟨_, rfl⟩
  obtain ⟨Wa, hWa⟩ : ∃ Wa, W1.alloc (.cells #[.int .i64 A, .int .i64 B] 23) = Wa := ⟨_, rfl⟩
  have Ka := K1.out.span (.int .i64 A) (.int .i64 B)
  rw [hWa, hB1] at Ka
  rw [hWa, hB1]
  have Ka' : Hid _ := Ka
  clear Ka K1 hWa hB1
  go_wp2_with (go_at_call 5; refine Stop.mk ?_)
  refine Stop.out ((c5 _).mono ?_)
  rintro e W2 ⟨v2, rfl, hv2, hb2⟩
  have K2 : Hid _ := (Ka'.out.on hb2).addQ hv2
  obtain ⟨p2, l2, k2, d2, rfl⟩ := RErr.shape hv2
  clear c5 hv2 hb2 Ka'
  go_upto_region 3 with fail
  obtain ⟨B2, hB2⟩ : ∃ B2, W2.heap.size = B2 := ⟨_, rfl⟩
  obtain ⟨Wb, hWb⟩ : ∃ Wb, (W2.alloc (.cells #[.int .i64 A, .int .i64 B] 23)).alloc (.cells #[.slice p2 l2 k2, .int .i64 d2] 31) = Wb := ⟨_, rfl⟩
  have hz : (W2.alloc (.cells #[.int .i64 A, .int .i64 B] 23)).heap.size = B2 + 1 := by simp [hB2]
  have Kb := (K2.out.span (.int .i64 A) (.int .i64 B)).fault (.slice p2 l2 k2) (.int .i64 d2)
  rw [hWb, hz, hB2] at Kb
  rw [hWb, hB2]
  have Kb' : Hid _ := Kb
  have c6' := H6.out Wb (HT.out.1.on Kb.b) (HT.out.2.1.on Kb.b) (HT.out.2.2.on Kb.b)
  clear Kb K2 hWb hB2 hz H6
  go_wp2_with (go_at_call 6; refine Stop.mk ?_)
  refine Stop.out (c6'.mono ?_)
  rintro e W3 ⟨v3, rfl, hv3, hb3⟩
  have K3 : Hid _ := (Kb'.out.on hb3).addP hv3
  clear c6' hv3 hb3 Kb'
  go_upto_region 4 with fail
  obtain ⟨B3, hB3⟩ : ∃ B3, W3.heap.size = B3 := ⟨_, rfl⟩
  obtain ⟨Wc, hWc⟩ : ∃ Wc, W3.alloc (.cells #[.int .i64 C, .int .i64 D] 23) = Wc := ⟨_, rfl⟩
  have Kc := K3.out.span (.int .i64 C) (.int .i64 D)
  rw [hWc, hB3] at Kc
  rw [hWc, hB3]
  have Kc' : Hid _ := Kc
  clear Kc K3 hWc hB3
  go_wp2_with (go_at_call 7; refine Stop.mk ?_)
  refine Stop.out ((c7 _).mono ?_)
  rintro e W4 ⟨v4, rfl, hv4, hb4⟩
  have K4 : Hid _ := (Kc'.out.on hb4).addQ hv4
  obtain ⟨p4, l4, k4, d4, rfl⟩ := RErr.shape hv4
  clear c7 hv4 hb4 Kc'
  go_upto_region 5 with fail
  obtain ⟨B4, hB4⟩ : ∃ B4, W4.heap.size = B4 := ⟨_, rfl⟩
  obtain ⟨Wd, hWd⟩ : ∃ Wd, (W4.alloc (.cells #[.int .i64 C, .int .i64 D] 23)).alloc (.cells #[.slice p4 l4 k4, .int .i64 d4] 31) = Wd := ⟨_, rfl⟩
  have hz : (W4.alloc (.cells #[.int .i64 C, .int .i64 D] 23)).heap.size = B4 + 1 := by simp [hB4]
  have Kd := (K4.out.span (.int .i64 C) (.int .i64 D)).fault (.slice p4 l4 k4) (.int .i64 d4)
  rw [hWd, hz, hB4] at Kd
  rw [hWd, hB4]
  have Kd' : Hid _ := Kd
  clear K4 hWd hB4 hz
  obtain ⟨a0, a1⟩ := Kd.two (q := B1) (t := 23) (a := .int .i64 A) (b := .int .i64 B) (by simp)
  obtain ⟨b0, b1⟩ := Kd.two (q := B2) (t := 23) (a := .int .i64 A) (b := .int .i64 B) (by simp)
  obtain ⟨x0, x1⟩ := Kd.two (q := B3) (t := 23) (a := .int .i64 C) (b := .int .i64 D) (by simp)
  obtain ⟨y0, y1⟩ := Kd.two (q := B4) (t := 23) (a := .int .i64 C) (b := .int .i64 D) (by simp)
  obtain ⟨g0, g1⟩ := Kd.two (q := B2 + 1) (t := 31) (a := .slice p2 l2 k2) (b := .int .i64 d2) (by simp)
  have i1 := is_yes (Kd.p (v1, o1) (by simp)) (Kd.q (.agg #[.slice p2 l2 k2, .int .i64 d2], o1) (by simp)) N1.out
  clear Kd
  go_wp2_with (go_at_call 8; refine Stop.mk ?_)
  refine Stop.out (i1.mono ?_)
  rintro e W9 ⟨rfl, hb9⟩
  have K9 := Kd'.out.on hb9
  have K9' : Hid _ := K9
  clear i1 hb9 Kd' a0 a1 b0 b1 x0 x1 y0 y1 g0 g1
  obtain ⟨g0, g1⟩ := K9.two (q := B4 + 1) (t := 31) (a := .slice p4 l4 k4) (b := .int .i64 d4) (by simp)
  have i2 := is_yes (K9.p (v3, o2) (by simp)) (K9.q (.agg #[.slice p4 l4 k4, .int .i64 d4], o2) (by simp)) N2.out
  clear K9
  go_wp2_with (go_at_call 8; refine Stop.mk ?_)
  refine Stop.out (i2.mono ?_)
  rintro e W10 ⟨rfl, hb10⟩
  have K10 := (K9'.out.on hb10).b
  clear i2 hb10 K9' g0 g1
  go_wp2
  go_ret
  exact ⟨rfl, K10⟩
end Go.Proofs.YtehgeninocbpeaaDoor.Tm

/-
  DERIVED. From what the row lists to what the walks ask: the rules.
-/
namespace Go.Proofs.YtehgeninocbpeaaDoor.Rl
open Go Go.Proofs Go.RowKit
open Go.Proofs.YtehgeninocbpeaaDoor.Tm

theorem cells3 : Tryd.prog.cellsOf 3 = 1 := by kernel_rfl
theorem cells4 : Tryd.prog.cellsOf 4 = 1 := by kernel_rfl
theorem cellsRu : Tryd.prog.cellsOf 58 = 2 := by kernel_rfl
theorem gRu : Tryd.prog.globalNamed "modality/value.rules" = some 0 := by kernel_rfl
theorem tRu : (Tryd.prog.globals[0]?).map (·.type) = some 86 := by kernel_rfl
theorem two_of {α : Type} : ∀ {l : List α}, l.length = 2 → ∃ a b, l = [a, b]
  | [a, b], _ => ⟨a, b, rfl⟩
  | [], h => by simp at h
  | [_], h => by simp at h
  | _ :: _ :: _ :: _, h => by simp at h

theorem row_rule {w : World} {fuel : Nat} {cs : List Value} {a : Int} {b : Bool} {p : List MemPlace}
    (h : DataW.trod (fun _ => ()) Tryd.prog w 0 (fun _ => true) false fuel 58 cs = some (.agg [.lit (.int .i64 a), .lit (.bool b)], p)) :
    cs = [.int .i64 a, .bool b] := by
  obtain ⟨xs, n, rfl, hx, hl, hxl, hall⟩ := DataW.trod_struct Tryd.underlying58 h
  have hxs : xs.map (·.1) = [.lit (.int .i64 a), .lit (.bool b)] := by
    have := congrArg Prod.fst hx
    simpa using this.symm
  obtain ⟨x0, x1, rfl⟩ : ∃ x0 x1, xs = [x0, x1] := by
    match xs, hxl with
    | [x0, x1], _ => exact ⟨x0, x1, rfl⟩
  simp only [List.map_cons, List.map_nil, List.cons.injEq, and_true] at hxs
  obtain ⟨e0, e1⟩ := hxs
  have h0 := hall 0 _ rfl
  have h1 := hall 1 _ rfl
  have c0 : cs[0]? = some (.int .i64 a) := by
    obtain ⟨t, ht, rfl, _⟩ := DataW.trod_int Tryd.underlying3 h0
    simp only [DataW.lit.injEq, Lit.int.injEq, true_and] at e0
    subst e0
    have := congrArg (·[0]?) ht
    simp only [List.getElem?_cons_zero] at this
    have e3 : Tryd.prog.cellsOf 3 = 1 := cells3
    simpa [List.getElem?_take, e3] using this
  have c1 : cs[1]? = some (.bool b) := by
    obtain ⟨t, ht, rfl⟩ := DataW.trod_bool Tryd.underlying4 h1
    simp only [DataW.lit.injEq, Lit.bool.injEq] at e1
    subst e1
    have := congrArg (·[0]?) ht
    have e3 : Tryd.prog.cellsOf 4 = 1 := cells4
    simpa [List.getElem?_take, List.getElem?_drop, e3] using this
  rw [cellsRu] at hl
  clear hall h0 h1 h
  obtain ⟨v0, v1, rfl⟩ := two_of hl
  simp at c0 c1
  rw [c0, c1]

def ruD : DataW Unit := .agg ((List.range 29).map fun i => .agg [.lit (.int .i64 (rbL.getD i 0)), .lit (.bool (rcL.getD i false))])

theorem rules_of {W : World} (h : Lib.VarReads Tryd.prog W "modality/value.rules" ruD) : Rt W := by
  obtain ⟨g, t, cs, fuel, p, hg, hty, hvar, hd⟩ := h
  obtain rfl := Option.some.inj (gRu.symm.trans hg)
  obtain rfl := Option.some.inj (tRu.symm.trans hty)
  have hrow : ∀ i, i < 29 → (cs.toList.drop (i * 2)).take 2 = [.int .i64 (rbL.getD i 0), .bool (rcL.getD i false)] := by
    intro i hi
    obtain ⟨fuel', d, q, hdi, he⟩ := Lib.array_elem Tryd.underlying86 hd i hi
    simp only [List.getElem?_map, List.getElem?_range hi, Option.map_some, Option.some.injEq] at hdi
    subst hdi
    rw [cellsRu] at he
    exact row_rule he
  have hblk : ∃ t fr, W.heap[0]? = some (.cells cs t fr) := by
    unfold World.var? at hvar
    rw [gRu] at hvar
    simp only [Option.bind_some] at hvar
    split at hvar
    · rename_i c t fr hh
      simp at hvar
      subst hvar
      exact ⟨t, fr, hh⟩
    · cases hvar
  obtain ⟨t, fr, hh⟩ := hblk
  have hcell : ∀ k, W.cell? ⟨0, k, none⟩ = cs[k]? := fun k => cell_of_row W 0 k cs t fr hh
  refine ⟨fun i hi => ?_, fun i hi => ?_⟩
  · rw [hcell]
    have := congrArg (·[0]?) (hrow i hi)
    simp only [List.getElem?_take, List.getElem?_drop] at this
    rw [if_pos (by omega), show i * 2 + 0 = 2 * i by omega, Array.getElem?_toList] at this
    exact this
  · rw [hcell]
    have := congrArg (·[1]?) (hrow i hi)
    simp only [List.getElem?_take, List.getElem?_drop] at this
    rw [if_pos (by omega), show i * 2 + 1 = 2 * i + 1 by omega, Array.getElem?_toList] at this
    exact this
end Go.Proofs.YtehgeninocbpeaaDoor.Rl
