import Derived.Test.YtggdlagopgpnhaaDoorRows
import Derived.Test.YtggdlagopgpnhaaDoorTie
import Derived.Test.YtggdlagopgpnhaaDoorCards
import Derived.Test.YtggdlagopgpnhaaDoorVl
import Derived.Test.YtggdlagopgpnhaaDoorTu
import Derived.Test.YtggdlagopgpnhaaDoorU
import Derived.Deep.Cut
import Derived.ProofKit
import Derived.LaidSub
import Derived.Lay
import Derived.OpenShut
import Derived.ShutString
import Derived.SizedLaws
import Derived.ChangeOld
import Derived.ChangeMaps5
import Derived.Lib.LaidTab
import Derived.Deep.Strs
import Derived.SevenTiedAt
import Derived.Stop.Joined
/-
  DERIVED. The law of times and moments, and its row.
-/
namespace Go.Proofs.YtggdlagopgpnhaaDoor
open Go Go.Proofs Go.RowKit

/-- The law's own bookkeeping. -/
theorem Kst.start2 (w : World) : Kst w w [] [] [] := ⟨(fun _ h => by cases h), (fun _ h => by cases h), (fun _ h => by cases h), Below.refl _ _⟩
theorem Kst.row {w wx : World} {R : List (Nat × TypeId × Nat × (Nat → Value))} {P Q : List (Value × Option (Int × Int))} (h : Kst w wx R P Q) (c : Array Value) (t : TypeId) : Kst w (wx.alloc (.cells c t)) ((wx.heap.size, t, c.size, fun k => c.getD k undef) :: R) P Q := by
  have k := h.on ((Below.refl _ wx).alloc (Nat.le_refl _) (.cells c t))
  refine ⟨fun x hx => ?_, k.p, k.q, k.b⟩
  rcases List.mem_cons.1 hx with rfl | hx
  · exact World.rowIs_alloc wx _ t _ (row_lit _)
  · exact k.r x hx
theorem Kst.ft {w wx : World} {R : List (Nat × TypeId × Nat × (Nat → Value))} {P Q : List (Value × Option (Int × Int))} {q : Nat} {t : TypeId} {n : Nat} {f : Nat → Value} (h : Kst w wx R P Q) (hx : (q, t, n, f) ∈ R) {i : Nat} (hi : i < n) : wx.cell? ⟨q, i, none⟩ = some (f i) := (h.r _ hx).cell (i := i) hi

def C1 (o : Option (Int × Int)) : Prop := ∀ a c, o = some (a, c) → c = 101
theorem C1_more (s : ByteArray) : ∀ (l : List (Mst → Mst)), (∀ t ∈ l, ∀ S : Mst, C1 S.o → C1 (t S).o) → ∀ S : Mst, C1 S.o → C1 (moreS s l S).o
  | [], _, S, h => h
  | t :: l, ht, S, h => by
    rw [moreS]
    split
    · exact C1_more s l (fun t' h' => ht t' (List.mem_cons_of_mem _ h')) (t S) (ht t List.mem_cons_self S h)
    · exact h
theorem C1_frac (s : ByteArray) (S : Mst) (h : C1 S.o) : C1 (fracS s S).o := by
  unfold fracS
  split
  · exact h
  · split
    · show C1 S.o
      exact h
    · exact h
theorem C1_next {o : Option (Int × Int)} (h : C1 o) (b : Bool) (p : Nat) : C1 (nextD o b p) := fun a c => nextD_c h b p a c
theorem zoS_o (s : ByteArray) (S : Mst) (x : Nat) : (zoS s S x).o = nextD S.o (zBad s (S.a + 1) x) S.a := by unfold zoS; rfl
theorem C1_zone (s : ByteArray) (S : Mst) (h : C1 S.o) : C1 (zoneS s S).o := by
  unfold zoneS
  split
  · rw [zoS_o]
    exact C1_next h _ _
  · exact h
theorem C1_pc (s : ByteArray) (S : Mst) (k : Nat) (lo hi : Int) (h : C1 S.o) : C1 (pcO s S k lo hi) := by
  unfold pcO
  exact C1_next h _ _
theorem yearS_o (s : ByteArray) (S : Mst) : (yearS s S).o = pcO s S 4 1 9999 := by unfold yearS; rfl
theorem monthS_o (s : ByteArray) (S : Mst) : (monthS s S).o = pcO s S 2 1 12 := by unfold monthS; rfl
theorem dayS_o (s : ByteArray) (S : Mst) : ∃ hi, (dayS s S).o = pcO s S 2 1 hi := by unfold dayS; exact ⟨_, rfl⟩
theorem hourS_o (s : ByteArray) (S : Mst) : (hourS s S).o = pcO s S 2 0 23 := by unfold hourS; rfl
theorem minuteS_o (s : ByteArray) (S : Mst) : (minuteS s S).o = pcO s S 2 0 59 := by unfold minuteS; rfl
theorem secondS_o (s : ByteArray) (S : Mst) : (secondS s S).o = pcO s S 2 0 60 := by unfold secondS; rfl
theorem C1_mom (s : ByteArray) : C1 (momS s).o := by
  have hn : C1 st0.o := fun _ _ h => by cases h
  have h0 : C1 (yearS s st0).o := by rw [yearS_o]; exact C1_pc _ _ _ _ _ hn
  have h1 : C1 (moreS s [monthS s, dayS s, hourS s, minuteS s, secondS s] (yearS s st0)).o := by
    refine C1_more s _ (fun t ht S hS => ?_) _ h0
    simp only [List.mem_cons, List.not_mem_nil, or_false] at ht
    rcases ht with rfl | rfl | rfl | rfl | rfl
    · rw [monthS_o]; exact C1_pc _ _ _ _ _ hS
    · obtain ⟨hi, he⟩ := dayS_o s S
      rw [he]; exact C1_pc _ _ _ _ _ hS
    · rw [hourS_o]; exact C1_pc _ _ _ _ _ hS
    · rw [minuteS_o]; exact C1_pc _ _ _ _ _ hS
    · rw [secondS_o]; exact C1_pc _ _ _ _ _ hS
  unfold momS
  exact C1_zone s _ (C1_frac s _ h1)
theorem nz_mom (s : ByteArray) : nz (rdO s (momS s)) := by
  intro a c h
  unfold rdO fmO at h
  split at h
  · simp only [Option.some_or, Option.some.injEq, Prod.mk.injEq] at h
    rw [← h.2]; rfl
  · rw [Option.none_or] at h
    rw [C1_mom s a c h]; rfl
theorem nz_time (w : World) (s : ByteArray) (hs : s.size ≤ 140737488351232) : nz (rdO s (timeS s)) := by
  intro a c h
  rcases time_both w s hs with ⟨T, c', a', _, _, hc, ho⟩ | ⟨_, ho⟩
  · rw [ho] at h
    simp only [Option.some.injEq, Prod.mk.injEq] at h
    rw [← h.2]; simpa using hc
  · rw [ho] at h; cases h
theorem nz_tO (h m s c p : Int) : nz (tO h m s c p) := by
  intro a c' e
  unfold tO at e
  split at e
  · cases e
  · simp only [Option.some.injEq, Prod.mk.injEq] at e
    rw [← e.2]; rfl
theorem nz_mO (y m d dp h mi sc mc p : Int) (zd : Bool) (z : Int) : nz (mO y m d dp h mi sc mc p zd z) := by
  intro a c' e
  unfold mO at e
  split at e
  · cases e
  · simp only [Option.some.injEq, Prod.mk.injEq] at e
    rw [← e.2]; rfl

set_option maxRecDepth 100000 in
set_option maxHeartbeats 4000000 in
theorem times_any (w : World) (s : ByteArray) (hs : s.size ≤ 140737488351232) (h1 m1 s1 c1 p1 : Int) (y m d dp h mi sc mc p : Int) (zd : Bool) (z : Int) (hT : Mt w) (hO : Ot w) (hp : Pow w) : Calls Tryd.prog 5 #[.string s, t5 h1 m1 s1 c1 p1, mv y m d dp h mi sc mc p zd z] w (PostN w (.bool true)) := by
  have HT : Hid (Mt w) := hT
  have HO : Hid (Ot w) := hO
  have HP : Hid (Pow w) := hp
  have HS : Hid (s.size ≤ 140737488351232) := hs
  have N1 : Hid (nz (rdO s (timeS s))) := nz_time w s hs
  have N2 : Hid (nz (tO h1 m1 s1 c1 p1)) := nz_tO _ _ _ _ _
  have N3 : Hid (nz (rdO s (momS s))) := nz_mom s
  have N4 : Hid (nz (mO y m d dp h mi sc mc p zd z)) := nz_mO _ _ _ _ _ _ _ _ _ _ _
  clear hT hp hs hO
  obtain ⟨B0, hB0⟩ : ∃ B0, w.heap.size = B0 := ⟨_, rfl⟩
  obtain ⟨W00, hW00⟩ : ∃ W00, w.alloc (.cells #[.int .i64 h1, .int .i64 m1, .int .i64 s1, .int .i64 c1, .int .i64 p1] 48) = W00 := ⟨_, rfl⟩
  have hs00 : W00.heap.size = B0 + 1 := by rw [← hW00, ← hB0]; simp
  obtain ⟨W0, hW0⟩ : ∃ W0, W00.alloc (.cells #[.int .i64 y, .int .i64 m, .int .i64 d, .int .i64 dp, .int .i64 h, .int .i64 mi, .int .i64 sc, .int .i64 mc, .int .i64 p, .bool zd, .int .i64 z] 50) = W0 := ⟨_, rfl⟩
  have K0 : Hid (Kst w W0 [(B0 + 1, 50, 11, mf y m d dp h mi sc mc p zd z), (B0, 48, 5, fun k => #[Value.int .i64 h1, .int .i64 m1, .int .i64 s1, .int .i64 c1, .int .i64 p1].getD k undef)] [] []) := by
    show Kst _ _ _ _ _
    have k := ((Kst.start2 w).row #[.int .i64 h1, .int .i64 m1, .int .i64 s1, .int .i64 c1, .int .i64 p1] 48)
    rw [hW00, hB0] at k
    have k2 := k.row #[.int .i64 y, .int .i64 m, .int .i64 d, .int .i64 dp, .int .i64 h, .int .i64 mi, .int .i64 sc, .int .i64 mc, .int .i64 p, .bool zd, .int .i64 z] 50
    rw [hW0, hs00] at k2
    exact k2
  have c16 := parse16_any W0 s HS.out (HT.out.on K0.out.b)
  have c17 := fun W => parse17_any W s HS.out
  have c20 := fun W hT => parse20_any W s HS.out hT
  have c21 := fun W => parse21_any W s HS.out
  have c18 := fun W hO hp => prt18_any W h1 m1 s1 c1 p1 hO hp
  have c19 := fun W => prt19_any W h1 m1 s1 c1 p1
  have c22 := fun W hT hO hp => prt22_any W y m d dp h mi sc mc p zd z hT hO hp
  have c23 := fun W => prt23_any W y m d dp h mi sc mc p zd z
  generalize rdM s (timeS s) = Ft at *
  generalize rdM s (momS s) = Fm at *
  generalize rdO s (timeS s) = o1 at *
  generalize rdO s (momS s) = o3 at *
  generalize tW h1 m1 s1 c1 p1 = X2 at *
  generalize tO h1 m1 s1 c1 p1 = o2 at *
  generalize mW y m d dp h mi sc mc p zd z = X4 at *
  generalize mO y m d dp h mi sc mc p zd z = o4 at *
  unfold tv at c16 c17
  unfold mo11 at c20 c21
  unfold t5 mv at *
  have H17 : Hid _ := c17
  have H18 : Hid _ := c18
  have H19 : Hid _ := c19
  have H20 : Hid _ := c20
  have H21 : Hid _ := c21
  have H22 : Hid _ := c22
  have H23 : Hid _ := c23
  clear c17 c18 c19 c20 c21 c22 c23
  have HW0 : Hid _ := hW0
  have HW00 : Hid _ := hW00
  clear hW0 hW00
  go_enter Tryd.func5, Tryd.ntmps5
  go_wp2_with (go_at_call 16; refine Stop.mk ?_)
  rw [HW00.out, HW0.out]
  refine Stop.out (c16.mono ?_)
  rintro e W1 ⟨v1, rfl, hv1, hb1⟩
  have K1 : Hid _ := (K0.out.on hb1).addP hv1
  clear c16 hv1 hb1 K0 HW0 HW00
  go_upto_region 2 with fail
  obtain ⟨B1, hB1⟩ : ∃ B1, W1.heap.size = B1 := ⟨_, rfl⟩
  obtain ⟨Wa, hWa⟩ : ∃ Wa, W1.alloc (.cells #[.int .i64 (Ft.h : Int), .int .i64 (Ft.mi : Int), .int .i64 (Ft.sc : Int), .int .i64 (Ft.mc : Int), .int .i64 (Ft.p : Int)] 48) = Wa := ⟨_, rfl⟩
  have Ka := K1.out.row #[.int .i64 (Ft.h : Int), .int .i64 (Ft.mi : Int), .int .i64 (Ft.sc : Int), .int .i64 (Ft.mc : Int), .int .i64 (Ft.p : Int)] 48
  rw [hWa, hB1] at Ka
  rw [hWa, hB1]
  have Ka' : Hid _ := Ka
  clear hWa hB1 K1 Ka
  go_wp2_with (go_at_call 17; refine Stop.mk ?_)
  refine Stop.out ((H17.out _).mono ?_)
  rintro e W2 ⟨u1, rfl, hu1, hb2⟩
  have K2 : Hid _ := (Ka'.out.on hb2).addQ hu1
  obtain ⟨pp1, l1, j1, e1, rfl⟩ := hu1.shape
  clear hu1 hb2 Ka' H17
  go_upto_region 3 with fail
  obtain ⟨B2, hB2⟩ : ∃ B2, W2.heap.size = B2 := ⟨_, rfl⟩
  obtain ⟨Wb, hWb⟩ : ∃ Wb, W2.alloc (.cells #[.int .i64 (Ft.h : Int), .int .i64 (Ft.mi : Int), .int .i64 (Ft.sc : Int), .int .i64 (Ft.mc : Int), .int .i64 (Ft.p : Int)] 48) = Wb := ⟨_, rfl⟩
  have hsb : Wb.heap.size = B2 + 1 := by rw [← hWb, ← hB2]; simp
  obtain ⟨Wc, hWc⟩ : ∃ Wc, Wb.alloc (.cells #[.slice pp1 l1 j1, .int .i64 e1] 37) = Wc := ⟨_, rfl⟩
  have Kb := K2.out.row #[.int .i64 (Ft.h : Int), .int .i64 (Ft.mi : Int), .int .i64 (Ft.sc : Int), .int .i64 (Ft.mc : Int), .int .i64 (Ft.p : Int)] 48
  rw [hWb, hB2] at Kb
  have Kc := Kb.fault (.slice pp1 l1 j1) (.int .i64 e1)
  rw [hWc, hsb] at Kc
  rw [hWb, hWc, hB2]
  have Kc' : Hid _ := Kc
  clear hWb hWc hB2 hsb K2 Kb
  have q0 : Wc.cell? ⟨B0, 0, none⟩ = some (.int .i64 h1) := Kc.ft (q := B0) (t := 48) (n := 5) (f := fun k => #[Value.int .i64 h1, .int .i64 m1, .int .i64 s1, .int .i64 c1, .int .i64 p1].getD k undef) (by simp) (i := 0) (by omega)
  have q1 : Wc.cell? ⟨B0, 1, none⟩ = some (.int .i64 m1) := Kc.ft (q := B0) (t := 48) (n := 5) (f := fun k => #[Value.int .i64 h1, .int .i64 m1, .int .i64 s1, .int .i64 c1, .int .i64 p1].getD k undef) (by simp) (i := 1) (by omega)
  have q2 : Wc.cell? ⟨B0, 2, none⟩ = some (.int .i64 s1) := Kc.ft (q := B0) (t := 48) (n := 5) (f := fun k => #[Value.int .i64 h1, .int .i64 m1, .int .i64 s1, .int .i64 c1, .int .i64 p1].getD k undef) (by simp) (i := 2) (by omega)
  have q3 : Wc.cell? ⟨B0, 3, none⟩ = some (.int .i64 c1) := Kc.ft (q := B0) (t := 48) (n := 5) (f := fun k => #[Value.int .i64 h1, .int .i64 m1, .int .i64 s1, .int .i64 c1, .int .i64 p1].getD k undef) (by simp) (i := 3) (by omega)
  have q4 : Wc.cell? ⟨B0, 4, none⟩ = some (.int .i64 p1) := Kc.ft (q := B0) (t := 48) (n := 5) (f := fun k => #[Value.int .i64 h1, .int .i64 m1, .int .i64 s1, .int .i64 c1, .int .i64 p1].getD k undef) (by simp) (i := 4) (by omega)
  have c18 := H18.out Wc (HO.out.on Kc.b) (HP.out.on Kc.b)
  clear Kc H18
  go_wp2_with (go_at_call 18; refine Stop.mk ?_)
  refine Stop.out (c18.mono ?_)
  rintro e W3 ⟨v2, rfl, hv2, hb3⟩
  have K3 := (Kc'.out.on hb3).addP hv2
  have K3' : Hid _ := K3
  clear c18 q0 q1 q2 q3 q4 hv2 hb3 Kc'
  have q0 : W3.cell? ⟨B0, 0, none⟩ = some (.int .i64 h1) := K3.ft (q := B0) (t := 48) (n := 5) (f := fun k => #[Value.int .i64 h1, .int .i64 m1, .int .i64 s1, .int .i64 c1, .int .i64 p1].getD k undef) (by simp) (i := 0) (by omega)
  have q1 : W3.cell? ⟨B0, 1, none⟩ = some (.int .i64 m1) := K3.ft (q := B0) (t := 48) (n := 5) (f := fun k => #[Value.int .i64 h1, .int .i64 m1, .int .i64 s1, .int .i64 c1, .int .i64 p1].getD k undef) (by simp) (i := 1) (by omega)
  have q2 : W3.cell? ⟨B0, 2, none⟩ = some (.int .i64 s1) := K3.ft (q := B0) (t := 48) (n := 5) (f := fun k => #[Value.int .i64 h1, .int .i64 m1, .int .i64 s1, .int .i64 c1, .int .i64 p1].getD k undef) (by simp) (i := 2) (by omega)
  have q3 : W3.cell? ⟨B0, 3, none⟩ = some (.int .i64 c1) := K3.ft (q := B0) (t := 48) (n := 5) (f := fun k => #[Value.int .i64 h1, .int .i64 m1, .int .i64 s1, .int .i64 c1, .int .i64 p1].getD k undef) (by simp) (i := 3) (by omega)
  have q4 : W3.cell? ⟨B0, 4, none⟩ = some (.int .i64 p1) := K3.ft (q := B0) (t := 48) (n := 5) (f := fun k => #[Value.int .i64 h1, .int .i64 m1, .int .i64 s1, .int .i64 c1, .int .i64 p1].getD k undef) (by simp) (i := 4) (by omega)
  clear K3
  go_wp2_with (go_at_call 19; refine Stop.mk ?_)
  refine Stop.out ((H19.out _).mono ?_)
  rintro e W4 ⟨u2, rfl, hu2, hb4⟩
  have K4 : Hid _ := (K3'.out.on hb4).addQ hu2
  obtain ⟨pp2, l2, j2, e2, rfl⟩ := hu2.shape
  clear q0 q1 q2 q3 q4 hu2 hb4 K3' H19
  go_upto_region 5 with fail
  obtain ⟨B4, hB4⟩ : ∃ B4, W4.heap.size = B4 := ⟨_, rfl⟩
  obtain ⟨Wd, hWd⟩ : ∃ Wd, W4.alloc (.cells #[.slice pp2 l2 j2, .int .i64 e2] 37) = Wd := ⟨_, rfl⟩
  have Kd := K4.out.fault (.slice pp2 l2 j2) (.int .i64 e2)
  rw [hWd, hB4] at Kd
  rw [hWd, hB4]
  have Kd' : Hid _ := Kd
  have c20 := H20.out Wd (HT.out.on Kd.b)
  clear hWd hB4 K4 Kd H20
  go_wp2_with (go_at_call 20; refine Stop.mk ?_)
  refine Stop.out (c20.mono ?_)
  rintro e W5 ⟨v3, rfl, hv3, hb5⟩
  have K5 : Hid _ := (Kd'.out.on hb5).addP hv3
  clear c20 hv3 hb5 Kd'
  go_upto_region 6 with fail
  obtain ⟨B5, hB5⟩ : ∃ B5, W5.heap.size = B5 := ⟨_, rfl⟩
  obtain ⟨We, hWe⟩ : ∃ We, W5.alloc (.cells #[.int .i64 (Fm.y : Int), .int .i64 (Fm.m : Int), .int .i64 (Fm.d : Int), .int .i64 (Fm.dp : Int), .int .i64 (Fm.h : Int), .int .i64 (Fm.mi : Int), .int .i64 (Fm.sc : Int), .int .i64 (Fm.mc : Int), .int .i64 (Fm.p : Int), .bool Fm.zd, .int .i64 Fm.z] 50) = We := ⟨_, rfl⟩
  have Ke := K5.out.row #[.int .i64 (Fm.y : Int), .int .i64 (Fm.m : Int), .int .i64 (Fm.d : Int), .int .i64 (Fm.dp : Int), .int .i64 (Fm.h : Int), .int .i64 (Fm.mi : Int), .int .i64 (Fm.sc : Int), .int .i64 (Fm.mc : Int), .int .i64 (Fm.p : Int), .bool Fm.zd, .int .i64 Fm.z] 50
  rw [hWe, hB5] at Ke
  rw [hWe, hB5]
  have Ke' : Hid _ := Ke
  clear hWe hB5 K5 Ke
  go_wp2_with (go_at_call 21; refine Stop.mk ?_)
  refine Stop.out ((H21.out _).mono ?_)
  rintro e W6 ⟨u3, rfl, hu3, hb6⟩
  have K6 : Hid _ := (Ke'.out.on hb6).addQ hu3
  obtain ⟨pp3, l3, j3, e3, rfl⟩ := hu3.shape
  clear hu3 hb6 Ke' H21
  go_upto_region 7 with fail
  obtain ⟨B6, hB6⟩ : ∃ B6, W6.heap.size = B6 := ⟨_, rfl⟩
  obtain ⟨Wf, hWf⟩ : ∃ Wf, W6.alloc (.cells #[.int .i64 (Fm.y : Int), .int .i64 (Fm.m : Int), .int .i64 (Fm.d : Int), .int .i64 (Fm.dp : Int), .int .i64 (Fm.h : Int), .int .i64 (Fm.mi : Int), .int .i64 (Fm.sc : Int), .int .i64 (Fm.mc : Int), .int .i64 (Fm.p : Int), .bool Fm.zd, .int .i64 Fm.z] 50) = Wf := ⟨_, rfl⟩
  have hsf : Wf.heap.size = B6 + 1 := by rw [← hWf, ← hB6]; simp
  obtain ⟨Wg, hWg⟩ : ∃ Wg, Wf.alloc (.cells #[.slice pp3 l3 j3, .int .i64 e3] 37) = Wg := ⟨_, rfl⟩
  have Kf := K6.out.row #[.int .i64 (Fm.y : Int), .int .i64 (Fm.m : Int), .int .i64 (Fm.d : Int), .int .i64 (Fm.dp : Int), .int .i64 (Fm.h : Int), .int .i64 (Fm.mi : Int), .int .i64 (Fm.sc : Int), .int .i64 (Fm.mc : Int), .int .i64 (Fm.p : Int), .bool Fm.zd, .int .i64 Fm.z] 50
  rw [hWf, hB6] at Kf
  have Kg := Kf.fault (.slice pp3 l3 j3) (.int .i64 e3)
  rw [hWg, hsf] at Kg
  rw [hWf, hWg, hB6]
  have Kg' : Hid _ := Kg
  clear hWf hWg hB6 hsf K6 Kf
  have r0 : Wg.cell? ⟨B0 + 1, 0, none⟩ = some (.int .i64 y) := Kg.ft (q := B0 + 1) (t := 50) (n := 11) (f := mf y m d dp h mi sc mc p zd z) (by simp) (i := 0) (by omega)
  have r1 : Wg.cell? ⟨B0 + 1, 1, none⟩ = some (.int .i64 m) := Kg.ft (q := B0 + 1) (t := 50) (n := 11) (f := mf y m d dp h mi sc mc p zd z) (by simp) (i := 1) (by omega)
  have r2 : Wg.cell? ⟨B0 + 1, 2, none⟩ = some (.int .i64 d) := Kg.ft (q := B0 + 1) (t := 50) (n := 11) (f := mf y m d dp h mi sc mc p zd z) (by simp) (i := 2) (by omega)
  have r3 : Wg.cell? ⟨B0 + 1, 3, none⟩ = some (.int .i64 dp) := Kg.ft (q := B0 + 1) (t := 50) (n := 11) (f := mf y m d dp h mi sc mc p zd z) (by simp) (i := 3) (by omega)
  have r4 : Wg.cell? ⟨B0 + 1, 4, none⟩ = some (.int .i64 h) := Kg.ft (q := B0 + 1) (t := 50) (n := 11) (f := mf y m d dp h mi sc mc p zd z) (by simp) (i := 4) (by omega)
  have r5 : Wg.cell? ⟨B0 + 1, 5, none⟩ = some (.int .i64 mi) := Kg.ft (q := B0 + 1) (t := 50) (n := 11) (f := mf y m d dp h mi sc mc p zd z) (by simp) (i := 5) (by omega)
  have r6 : Wg.cell? ⟨B0 + 1, 6, none⟩ = some (.int .i64 sc) := Kg.ft (q := B0 + 1) (t := 50) (n := 11) (f := mf y m d dp h mi sc mc p zd z) (by simp) (i := 6) (by omega)
  have r7 : Wg.cell? ⟨B0 + 1, 7, none⟩ = some (.int .i64 mc) := Kg.ft (q := B0 + 1) (t := 50) (n := 11) (f := mf y m d dp h mi sc mc p zd z) (by simp) (i := 7) (by omega)
  have r8 : Wg.cell? ⟨B0 + 1, 8, none⟩ = some (.int .i64 p) := Kg.ft (q := B0 + 1) (t := 50) (n := 11) (f := mf y m d dp h mi sc mc p zd z) (by simp) (i := 8) (by omega)
  have r9 : Wg.cell? ⟨B0 + 1, 9, none⟩ = some (.bool zd) := Kg.ft (q := B0 + 1) (t := 50) (n := 11) (f := mf y m d dp h mi sc mc p zd z) (by simp) (i := 9) (by omega)
  have r10 : Wg.cell? ⟨B0 + 1, 10, none⟩ = some (.int .i64 z) := Kg.ft (q := B0 + 1) (t := 50) (n := 11) (f := mf y m d dp h mi sc mc p zd z) (by simp) (i := 10) (by omega)
  have c22 := H22.out Wg (HT.out.on Kg.b) (HO.out.on Kg.b) (HP.out.on Kg.b)
  clear Kg H22
  go_wp2_with (go_at_call 22; refine Stop.mk ?_)
  refine Stop.out (c22.mono ?_)
  rintro e W7 ⟨v4, rfl, hv4, hb7⟩
  have K7 := (Kg'.out.on hb7).addP hv4
  have K7' : Hid _ := K7
  clear c22 r0 r1 r2 r3 r4 r5 r6 r7 r8 r9 r10 hv4 hb7 Kg'
  have r0 : W7.cell? ⟨B0 + 1, 0, none⟩ = some (.int .i64 y) := K7.ft (q := B0 + 1) (t := 50) (n := 11) (f := mf y m d dp h mi sc mc p zd z) (by simp) (i := 0) (by omega)
  have r1 : W7.cell? ⟨B0 + 1, 1, none⟩ = some (.int .i64 m) := K7.ft (q := B0 + 1) (t := 50) (n := 11) (f := mf y m d dp h mi sc mc p zd z) (by simp) (i := 1) (by omega)
  have r2 : W7.cell? ⟨B0 + 1, 2, none⟩ = some (.int .i64 d) := K7.ft (q := B0 + 1) (t := 50) (n := 11) (f := mf y m d dp h mi sc mc p zd z) (by simp) (i := 2) (by omega)
  have r3 : W7.cell? ⟨B0 + 1, 3, none⟩ = some (.int .i64 dp) := K7.ft (q := B0 + 1) (t := 50) (n := 11) (f := mf y m d dp h mi sc mc p zd z) (by simp) (i := 3) (by omega)
  have r4 : W7.cell? ⟨B0 + 1, 4, none⟩ = some (.int .i64 h) := K7.ft (q := B0 + 1) (t := 50) (n := 11) (f := mf y m d dp h mi sc mc p zd z) (by simp) (i := 4) (by omega)
  have r5 : W7.cell? ⟨B0 + 1, 5, none⟩ = some (.int .i64 mi) := K7.ft (q := B0 + 1) (t := 50) (n := 11) (f := mf y m d dp h mi sc mc p zd z) (by simp) (i := 5) (by omega)
  have r6 : W7.cell? ⟨B0 + 1, 6, none⟩ = some (.int .i64 sc) := K7.ft (q := B0 + 1) (t := 50) (n := 11) (f := mf y m d dp h mi sc mc p zd z) (by simp) (i := 6) (by omega)
  have r7 : W7.cell? ⟨B0 + 1, 7, none⟩ = some (.int .i64 mc) := K7.ft (q := B0 + 1) (t := 50) (n := 11) (f := mf y m d dp h mi sc mc p zd z) (by simp) (i := 7) (by omega)
  have r8 : W7.cell? ⟨B0 + 1, 8, none⟩ = some (.int .i64 p) := K7.ft (q := B0 + 1) (t := 50) (n := 11) (f := mf y m d dp h mi sc mc p zd z) (by simp) (i := 8) (by omega)
  have r9 : W7.cell? ⟨B0 + 1, 9, none⟩ = some (.bool zd) := K7.ft (q := B0 + 1) (t := 50) (n := 11) (f := mf y m d dp h mi sc mc p zd z) (by simp) (i := 9) (by omega)
  have r10 : W7.cell? ⟨B0 + 1, 10, none⟩ = some (.int .i64 z) := K7.ft (q := B0 + 1) (t := 50) (n := 11) (f := mf y m d dp h mi sc mc p zd z) (by simp) (i := 10) (by omega)
  clear K7
  go_wp2_with (go_at_call 23; refine Stop.mk ?_)
  refine Stop.out ((H23.out _).mono ?_)
  rintro e W8 ⟨u4, rfl, hu4, hb8⟩
  have K8 : Hid _ := (K7'.out.on hb8).addQ hu4
  obtain ⟨pp4, l4, j4, e4, rfl⟩ := hu4.shape
  clear r0 r1 r2 r3 r4 r5 r6 r7 r8 r9 r10 hu4 hb8 K7' H23
  go_upto_region 9 with fail
  obtain ⟨B8, hB8⟩ : ∃ B8, W8.heap.size = B8 := ⟨_, rfl⟩
  obtain ⟨Wh, hWh⟩ : ∃ Wh, W8.alloc (.cells #[.slice pp4 l4 j4, .int .i64 e4] 37) = Wh := ⟨_, rfl⟩
  have Kh := K8.out.fault (.slice pp4 l4 j4) (.int .i64 e4)
  rw [hWh, hB8] at Kh
  rw [hWh, hB8]
  have Kh' : Hid _ := Kh
  clear hWh hB8 K8
  have x0 : Wh.cell? ⟨B1, 0, none⟩ = some (.int .i64 (Ft.h : Int)) := Kh.ft (q := B1) (t := 48) (n := 5) (f := fun k => #[Value.int .i64 (Ft.h : Int), .int .i64 (Ft.mi : Int), .int .i64 (Ft.sc : Int), .int .i64 (Ft.mc : Int), .int .i64 (Ft.p : Int)].getD k undef) (by simp) (i := 0) (by omega)
  have x1 : Wh.cell? ⟨B1, 1, none⟩ = some (.int .i64 (Ft.mi : Int)) := Kh.ft (q := B1) (t := 48) (n := 5) (f := fun k => #[Value.int .i64 (Ft.h : Int), .int .i64 (Ft.mi : Int), .int .i64 (Ft.sc : Int), .int .i64 (Ft.mc : Int), .int .i64 (Ft.p : Int)].getD k undef) (by simp) (i := 1) (by omega)
  have x2 : Wh.cell? ⟨B1, 2, none⟩ = some (.int .i64 (Ft.sc : Int)) := Kh.ft (q := B1) (t := 48) (n := 5) (f := fun k => #[Value.int .i64 (Ft.h : Int), .int .i64 (Ft.mi : Int), .int .i64 (Ft.sc : Int), .int .i64 (Ft.mc : Int), .int .i64 (Ft.p : Int)].getD k undef) (by simp) (i := 2) (by omega)
  have x3 : Wh.cell? ⟨B1, 3, none⟩ = some (.int .i64 (Ft.mc : Int)) := Kh.ft (q := B1) (t := 48) (n := 5) (f := fun k => #[Value.int .i64 (Ft.h : Int), .int .i64 (Ft.mi : Int), .int .i64 (Ft.sc : Int), .int .i64 (Ft.mc : Int), .int .i64 (Ft.p : Int)].getD k undef) (by simp) (i := 3) (by omega)
  have x4 : Wh.cell? ⟨B1, 4, none⟩ = some (.int .i64 (Ft.p : Int)) := Kh.ft (q := B1) (t := 48) (n := 5) (f := fun k => #[Value.int .i64 (Ft.h : Int), .int .i64 (Ft.mi : Int), .int .i64 (Ft.sc : Int), .int .i64 (Ft.mc : Int), .int .i64 (Ft.p : Int)].getD k undef) (by simp) (i := 4) (by omega)
  have y0 : Wh.cell? ⟨B2, 0, none⟩ = some (.int .i64 (Ft.h : Int)) := Kh.ft (q := B2) (t := 48) (n := 5) (f := fun k => #[Value.int .i64 (Ft.h : Int), .int .i64 (Ft.mi : Int), .int .i64 (Ft.sc : Int), .int .i64 (Ft.mc : Int), .int .i64 (Ft.p : Int)].getD k undef) (by simp) (i := 0) (by omega)
  have y1 : Wh.cell? ⟨B2, 1, none⟩ = some (.int .i64 (Ft.mi : Int)) := Kh.ft (q := B2) (t := 48) (n := 5) (f := fun k => #[Value.int .i64 (Ft.h : Int), .int .i64 (Ft.mi : Int), .int .i64 (Ft.sc : Int), .int .i64 (Ft.mc : Int), .int .i64 (Ft.p : Int)].getD k undef) (by simp) (i := 1) (by omega)
  have y2 : Wh.cell? ⟨B2, 2, none⟩ = some (.int .i64 (Ft.sc : Int)) := Kh.ft (q := B2) (t := 48) (n := 5) (f := fun k => #[Value.int .i64 (Ft.h : Int), .int .i64 (Ft.mi : Int), .int .i64 (Ft.sc : Int), .int .i64 (Ft.mc : Int), .int .i64 (Ft.p : Int)].getD k undef) (by simp) (i := 2) (by omega)
  have y3 : Wh.cell? ⟨B2, 3, none⟩ = some (.int .i64 (Ft.mc : Int)) := Kh.ft (q := B2) (t := 48) (n := 5) (f := fun k => #[Value.int .i64 (Ft.h : Int), .int .i64 (Ft.mi : Int), .int .i64 (Ft.sc : Int), .int .i64 (Ft.mc : Int), .int .i64 (Ft.p : Int)].getD k undef) (by simp) (i := 3) (by omega)
  have y4 : Wh.cell? ⟨B2, 4, none⟩ = some (.int .i64 (Ft.p : Int)) := Kh.ft (q := B2) (t := 48) (n := 5) (f := fun k => #[Value.int .i64 (Ft.h : Int), .int .i64 (Ft.mi : Int), .int .i64 (Ft.sc : Int), .int .i64 (Ft.mc : Int), .int .i64 (Ft.p : Int)].getD k undef) (by simp) (i := 4) (by omega)
  have k0 : Wh.cell? ⟨B5, 0, none⟩ = some (.int .i64 (Fm.y : Int)) := Kh.ft (q := B5) (t := 50) (n := 11) (f := fun k => #[Value.int .i64 (Fm.y : Int), .int .i64 (Fm.m : Int), .int .i64 (Fm.d : Int), .int .i64 (Fm.dp : Int), .int .i64 (Fm.h : Int), .int .i64 (Fm.mi : Int), .int .i64 (Fm.sc : Int), .int .i64 (Fm.mc : Int), .int .i64 (Fm.p : Int), .bool Fm.zd, .int .i64 Fm.z].getD k undef) (by simp) (i := 0) (by omega)
  have k1 : Wh.cell? ⟨B5, 1, none⟩ = some (.int .i64 (Fm.m : Int)) := Kh.ft (q := B5) (t := 50) (n := 11) (f := fun k => #[Value.int .i64 (Fm.y : Int), .int .i64 (Fm.m : Int), .int .i64 (Fm.d : Int), .int .i64 (Fm.dp : Int), .int .i64 (Fm.h : Int), .int .i64 (Fm.mi : Int), .int .i64 (Fm.sc : Int), .int .i64 (Fm.mc : Int), .int .i64 (Fm.p : Int), .bool Fm.zd, .int .i64 Fm.z].getD k undef) (by simp) (i := 1) (by omega)
  have k2 : Wh.cell? ⟨B5, 2, none⟩ = some (.int .i64 (Fm.d : Int)) := Kh.ft (q := B5) (t := 50) (n := 11) (f := fun k => #[Value.int .i64 (Fm.y : Int), .int .i64 (Fm.m : Int), .int .i64 (Fm.d : Int), .int .i64 (Fm.dp : Int), .int .i64 (Fm.h : Int), .int .i64 (Fm.mi : Int), .int .i64 (Fm.sc : Int), .int .i64 (Fm.mc : Int), .int .i64 (Fm.p : Int), .bool Fm.zd, .int .i64 Fm.z].getD k undef) (by simp) (i := 2) (by omega)
  have k3 : Wh.cell? ⟨B5, 3, none⟩ = some (.int .i64 (Fm.dp : Int)) := Kh.ft (q := B5) (t := 50) (n := 11) (f := fun k => #[Value.int .i64 (Fm.y : Int), .int .i64 (Fm.m : Int), .int .i64 (Fm.d : Int), .int .i64 (Fm.dp : Int), .int .i64 (Fm.h : Int), .int .i64 (Fm.mi : Int), .int .i64 (Fm.sc : Int), .int .i64 (Fm.mc : Int), .int .i64 (Fm.p : Int), .bool Fm.zd, .int .i64 Fm.z].getD k undef) (by simp) (i := 3) (by omega)
  have k4 : Wh.cell? ⟨B5, 4, none⟩ = some (.int .i64 (Fm.h : Int)) := Kh.ft (q := B5) (t := 50) (n := 11) (f := fun k => #[Value.int .i64 (Fm.y : Int), .int .i64 (Fm.m : Int), .int .i64 (Fm.d : Int), .int .i64 (Fm.dp : Int), .int .i64 (Fm.h : Int), .int .i64 (Fm.mi : Int), .int .i64 (Fm.sc : Int), .int .i64 (Fm.mc : Int), .int .i64 (Fm.p : Int), .bool Fm.zd, .int .i64 Fm.z].getD k undef) (by simp) (i := 4) (by omega)
  have k5 : Wh.cell? ⟨B5, 5, none⟩ = some (.int .i64 (Fm.mi : Int)) := Kh.ft (q := B5) (t := 50) (n := 11) (f := fun k => #[Value.int .i64 (Fm.y : Int), .int .i64 (Fm.m : Int), .int .i64 (Fm.d : Int), .int .i64 (Fm.dp : Int), .int .i64 (Fm.h : Int), .int .i64 (Fm.mi : Int), .int .i64 (Fm.sc : Int), .int .i64 (Fm.mc : Int), .int .i64 (Fm.p : Int), .bool Fm.zd, .int .i64 Fm.z].getD k undef) (by simp) (i := 5) (by omega)
  have k6 : Wh.cell? ⟨B5, 6, none⟩ = some (.int .i64 (Fm.sc : Int)) := Kh.ft (q := B5) (t := 50) (n := 11) (f := fun k => #[Value.int .i64 (Fm.y : Int), .int .i64 (Fm.m : Int), .int .i64 (Fm.d : Int), .int .i64 (Fm.dp : Int), .int .i64 (Fm.h : Int), .int .i64 (Fm.mi : Int), .int .i64 (Fm.sc : Int), .int .i64 (Fm.mc : Int), .int .i64 (Fm.p : Int), .bool Fm.zd, .int .i64 Fm.z].getD k undef) (by simp) (i := 6) (by omega)
  have k7 : Wh.cell? ⟨B5, 7, none⟩ = some (.int .i64 (Fm.mc : Int)) := Kh.ft (q := B5) (t := 50) (n := 11) (f := fun k => #[Value.int .i64 (Fm.y : Int), .int .i64 (Fm.m : Int), .int .i64 (Fm.d : Int), .int .i64 (Fm.dp : Int), .int .i64 (Fm.h : Int), .int .i64 (Fm.mi : Int), .int .i64 (Fm.sc : Int), .int .i64 (Fm.mc : Int), .int .i64 (Fm.p : Int), .bool Fm.zd, .int .i64 Fm.z].getD k undef) (by simp) (i := 7) (by omega)
  have k8 : Wh.cell? ⟨B5, 8, none⟩ = some (.int .i64 (Fm.p : Int)) := Kh.ft (q := B5) (t := 50) (n := 11) (f := fun k => #[Value.int .i64 (Fm.y : Int), .int .i64 (Fm.m : Int), .int .i64 (Fm.d : Int), .int .i64 (Fm.dp : Int), .int .i64 (Fm.h : Int), .int .i64 (Fm.mi : Int), .int .i64 (Fm.sc : Int), .int .i64 (Fm.mc : Int), .int .i64 (Fm.p : Int), .bool Fm.zd, .int .i64 Fm.z].getD k undef) (by simp) (i := 8) (by omega)
  have k9 : Wh.cell? ⟨B5, 9, none⟩ = some (.bool Fm.zd) := Kh.ft (q := B5) (t := 50) (n := 11) (f := fun k => #[Value.int .i64 (Fm.y : Int), .int .i64 (Fm.m : Int), .int .i64 (Fm.d : Int), .int .i64 (Fm.dp : Int), .int .i64 (Fm.h : Int), .int .i64 (Fm.mi : Int), .int .i64 (Fm.sc : Int), .int .i64 (Fm.mc : Int), .int .i64 (Fm.p : Int), .bool Fm.zd, .int .i64 Fm.z].getD k undef) (by simp) (i := 9) (by omega)
  have k10 : Wh.cell? ⟨B5, 10, none⟩ = some (.int .i64 Fm.z) := Kh.ft (q := B5) (t := 50) (n := 11) (f := fun k => #[Value.int .i64 (Fm.y : Int), .int .i64 (Fm.m : Int), .int .i64 (Fm.d : Int), .int .i64 (Fm.dp : Int), .int .i64 (Fm.h : Int), .int .i64 (Fm.mi : Int), .int .i64 (Fm.sc : Int), .int .i64 (Fm.mc : Int), .int .i64 (Fm.p : Int), .bool Fm.zd, .int .i64 Fm.z].getD k undef) (by simp) (i := 10) (by omega)
  have j_0 : Wh.cell? ⟨B6, 0, none⟩ = some (.int .i64 (Fm.y : Int)) := Kh.ft (q := B6) (t := 50) (n := 11) (f := fun k => #[Value.int .i64 (Fm.y : Int), .int .i64 (Fm.m : Int), .int .i64 (Fm.d : Int), .int .i64 (Fm.dp : Int), .int .i64 (Fm.h : Int), .int .i64 (Fm.mi : Int), .int .i64 (Fm.sc : Int), .int .i64 (Fm.mc : Int), .int .i64 (Fm.p : Int), .bool Fm.zd, .int .i64 Fm.z].getD k undef) (by simp) (i := 0) (by omega)
  have j_1 : Wh.cell? ⟨B6, 1, none⟩ = some (.int .i64 (Fm.m : Int)) := Kh.ft (q := B6) (t := 50) (n := 11) (f := fun k => #[Value.int .i64 (Fm.y : Int), .int .i64 (Fm.m : Int), .int .i64 (Fm.d : Int), .int .i64 (Fm.dp : Int), .int .i64 (Fm.h : Int), .int .i64 (Fm.mi : Int), .int .i64 (Fm.sc : Int), .int .i64 (Fm.mc : Int), .int .i64 (Fm.p : Int), .bool Fm.zd, .int .i64 Fm.z].getD k undef) (by simp) (i := 1) (by omega)
  have j_2 : Wh.cell? ⟨B6, 2, none⟩ = some (.int .i64 (Fm.d : Int)) := Kh.ft (q := B6) (t := 50) (n := 11) (f := fun k => #[Value.int .i64 (Fm.y : Int), .int .i64 (Fm.m : Int), .int .i64 (Fm.d : Int), .int .i64 (Fm.dp : Int), .int .i64 (Fm.h : Int), .int .i64 (Fm.mi : Int), .int .i64 (Fm.sc : Int), .int .i64 (Fm.mc : Int), .int .i64 (Fm.p : Int), .bool Fm.zd, .int .i64 Fm.z].getD k undef) (by simp) (i := 2) (by omega)
  have j_3 : Wh.cell? ⟨B6, 3, none⟩ = some (.int .i64 (Fm.dp : Int)) := Kh.ft (q := B6) (t := 50) (n := 11) (f := fun k => #[Value.int .i64 (Fm.y : Int), .int .i64 (Fm.m : Int), .int .i64 (Fm.d : Int), .int .i64 (Fm.dp : Int), .int .i64 (Fm.h : Int), .int .i64 (Fm.mi : Int), .int .i64 (Fm.sc : Int), .int .i64 (Fm.mc : Int), .int .i64 (Fm.p : Int), .bool Fm.zd, .int .i64 Fm.z].getD k undef) (by simp) (i := 3) (by omega)
  have j_4 : Wh.cell? ⟨B6, 4, none⟩ = some (.int .i64 (Fm.h : Int)) := Kh.ft (q := B6) (t := 50) (n := 11) (f := fun k => #[Value.int .i64 (Fm.y : Int), .int .i64 (Fm.m : Int), .int .i64 (Fm.d : Int), .int .i64 (Fm.dp : Int), .int .i64 (Fm.h : Int), .int .i64 (Fm.mi : Int), .int .i64 (Fm.sc : Int), .int .i64 (Fm.mc : Int), .int .i64 (Fm.p : Int), .bool Fm.zd, .int .i64 Fm.z].getD k undef) (by simp) (i := 4) (by omega)
  have j_5 : Wh.cell? ⟨B6, 5, none⟩ = some (.int .i64 (Fm.mi : Int)) := Kh.ft (q := B6) (t := 50) (n := 11) (f := fun k => #[Value.int .i64 (Fm.y : Int), .int .i64 (Fm.m : Int), .int .i64 (Fm.d : Int), .int .i64 (Fm.dp : Int), .int .i64 (Fm.h : Int), .int .i64 (Fm.mi : Int), .int .i64 (Fm.sc : Int), .int .i64 (Fm.mc : Int), .int .i64 (Fm.p : Int), .bool Fm.zd, .int .i64 Fm.z].getD k undef) (by simp) (i := 5) (by omega)
  have j_6 : Wh.cell? ⟨B6, 6, none⟩ = some (.int .i64 (Fm.sc : Int)) := Kh.ft (q := B6) (t := 50) (n := 11) (f := fun k => #[Value.int .i64 (Fm.y : Int), .int .i64 (Fm.m : Int), .int .i64 (Fm.d : Int), .int .i64 (Fm.dp : Int), .int .i64 (Fm.h : Int), .int .i64 (Fm.mi : Int), .int .i64 (Fm.sc : Int), .int .i64 (Fm.mc : Int), .int .i64 (Fm.p : Int), .bool Fm.zd, .int .i64 Fm.z].getD k undef) (by simp) (i := 6) (by omega)
  have j_7 : Wh.cell? ⟨B6, 7, none⟩ = some (.int .i64 (Fm.mc : Int)) := Kh.ft (q := B6) (t := 50) (n := 11) (f := fun k => #[Value.int .i64 (Fm.y : Int), .int .i64 (Fm.m : Int), .int .i64 (Fm.d : Int), .int .i64 (Fm.dp : Int), .int .i64 (Fm.h : Int), .int .i64 (Fm.mi : Int), .int .i64 (Fm.sc : Int), .int .i64 (Fm.mc : Int), .int .i64 (Fm.p : Int), .bool Fm.zd, .int .i64 Fm.z].getD k undef) (by simp) (i := 7) (by omega)
  have j_8 : Wh.cell? ⟨B6, 8, none⟩ = some (.int .i64 (Fm.p : Int)) := Kh.ft (q := B6) (t := 50) (n := 11) (f := fun k => #[Value.int .i64 (Fm.y : Int), .int .i64 (Fm.m : Int), .int .i64 (Fm.d : Int), .int .i64 (Fm.dp : Int), .int .i64 (Fm.h : Int), .int .i64 (Fm.mi : Int), .int .i64 (Fm.sc : Int), .int .i64 (Fm.mc : Int), .int .i64 (Fm.p : Int), .bool Fm.zd, .int .i64 Fm.z].getD k undef) (by simp) (i := 8) (by omega)
  have j_9 : Wh.cell? ⟨B6, 9, none⟩ = some (.bool Fm.zd) := Kh.ft (q := B6) (t := 50) (n := 11) (f := fun k => #[Value.int .i64 (Fm.y : Int), .int .i64 (Fm.m : Int), .int .i64 (Fm.d : Int), .int .i64 (Fm.dp : Int), .int .i64 (Fm.h : Int), .int .i64 (Fm.mi : Int), .int .i64 (Fm.sc : Int), .int .i64 (Fm.mc : Int), .int .i64 (Fm.p : Int), .bool Fm.zd, .int .i64 Fm.z].getD k undef) (by simp) (i := 9) (by omega)
  have j_10 : Wh.cell? ⟨B6, 10, none⟩ = some (.int .i64 Fm.z) := Kh.ft (q := B6) (t := 50) (n := 11) (f := fun k => #[Value.int .i64 (Fm.y : Int), .int .i64 (Fm.m : Int), .int .i64 (Fm.d : Int), .int .i64 (Fm.dp : Int), .int .i64 (Fm.h : Int), .int .i64 (Fm.mi : Int), .int .i64 (Fm.sc : Int), .int .i64 (Fm.mc : Int), .int .i64 (Fm.p : Int), .bool Fm.zd, .int .i64 Fm.z].getD k undef) (by simp) (i := 10) (by omega)
  obtain ⟨g0, g1⟩ := Kh.f2c (q := B2 + 1) (a := .slice pp1 l1 j1) (b := .int .i64 e1) (by simp)
  have i1 := is_yes (Kh.p (v1, o1) (by simp)) (Kh.q (.agg #[.slice pp1 l1 j1, .int .i64 e1], o1) (by simp)) N1.out
  clear Kh
  go_wp2_with (go_at_call 15; refine Stop.mk ?_)
  refine Stop.out (i1.mono ?_)
  rintro e W9 ⟨rfl, hb9⟩
  have K9 := Kh'.out.on hb9
  have K9' : Hid _ := K9
  clear i1 hb9 Kh' g0 g1 x0 x1 x2 x3 x4 y0 y1 y2 y3 y4 k0 k1 k2 k3 k4 k5 k6 k7 k8 k9 k10 j_0 j_1 j_2 j_3 j_4 j_5 j_6 j_7 j_8 j_9 j_10
  obtain ⟨g0, g1⟩ := K9.f2c (q := B4) (a := .slice pp2 l2 j2) (b := .int .i64 e2) (by simp)
  have i2 := is_yes (K9.p (v2, o2) (by simp)) (K9.q (.agg #[.slice pp2 l2 j2, .int .i64 e2], o2) (by simp)) N2.out
  clear K9
  go_wp2_with (go_at_call 15; refine Stop.mk ?_)
  refine Stop.out (i2.mono ?_)
  rintro e W10 ⟨rfl, hb10⟩
  have K10 := K9'.out.on hb10
  have K10' : Hid _ := K10
  clear i2 hb10 K9' g0 g1
  obtain ⟨g0, g1⟩ := K10.f2c (q := B6 + 1) (a := .slice pp3 l3 j3) (b := .int .i64 e3) (by simp)
  have i3 := is_yes (K10.p (v3, o3) (by simp)) (K10.q (.agg #[.slice pp3 l3 j3, .int .i64 e3], o3) (by simp)) N3.out
  clear K10
  go_wp2_with (go_at_call 15; refine Stop.mk ?_)
  refine Stop.out (i3.mono ?_)
  rintro e W11 ⟨rfl, hb11⟩
  have K11 := K10'.out.on hb11
  have K11' : Hid _ := K11
  clear i3 hb11 K10' g0 g1
  obtain ⟨g0, g1⟩ := K11.f2c (q := B8) (a := .slice pp4 l4 j4) (b := .int .i64 e4) (by simp)
  have i4 := is_yes (K11.p (v4, o4) (by simp)) (K11.q (.agg #[.slice pp4 l4 j4, .int .i64 e4], o4) (by simp)) N4.out
  clear K11
  go_wp2_with (go_at_call 15; refine Stop.mk ?_)
  refine Stop.out (i4.mono ?_)
  rintro e W12 ⟨rfl, hb12⟩
  have K12 := (K11'.out.on hb12).b
  clear i4 hb12 K11' g0 g1
  go_wp2
  go_ret
  exact ⟨rfl, K12⟩
end Go.Proofs.YtggdlagopgpnhaaDoor
namespace Go.Proofs.YtggdlagopgpnhaaDoor.times
open Go.ChangeShapes Go.WideShapes Go.ChangeAt Go.WideMaps Go.WideElems Go.RowKit Go.ChangeMaps

theorem own : ownKnob Tryd.prog.godebug = none := by kernel_rfl
theorem laidOut : laidOutB Tryd.prog = true := by kernel_rfl

def laid : List (String × DataW Unit) := Rows.valueTimesRow.laid

def ticks : List Int := [87840000000, 3660000000, 61000000, 1000000, 100000, 10000, 1000, 100, 10, 1]
def months : List Int := [31, 28, 31, 30, 31, 30, 31, 31, 30, 31, 30, 31]
theorem gM : Tryd.prog.globalNamed "modality/value.monthDays" = some 0 := by kernel_rfl
theorem gO : Tryd.prog.globalNamed "modality/value.openTicks" = some 1 := by kernel_rfl
theorem gP : Tryd.prog.globalNamed "internal/strconv.uint64pow10" = some 2 := by kernel_rfl

set_option maxRecDepth 100000 in
theorem tabs_of_laid {W : World} (h : laidMetH Tryd.prog laid W) : Mt W ∧ Pow W ∧ Ot W := by
  rw [MakeChecks.laidMetH_plain _ _ _ (by kernel_rfl)] at h
  have h1 : laidMet Tryd.prog [("modality/value.monthDays", Lib.tabData .i64 months)] W := by
    have := h.filter (fun x => x.1 == "modality/value.monthDays")
    have e : laid.filter (fun x => x.1 == "modality/value.monthDays") = [("modality/value.monthDays", Lib.tabData .i64 months)] := by kernel_rfl
    rwa [e] at this
  have h2 : laidMet Tryd.prog [("internal/strconv.uint64pow10", Lib.tabData .u64 Lib.pow10Tab)] W := by
    have := h.filter (fun x => x.1 == "internal/strconv.uint64pow10")
    have e : laid.filter (fun x => x.1 == "internal/strconv.uint64pow10") = [("internal/strconv.uint64pow10", Lib.tabData .u64 Lib.pow10Tab)] := by kernel_rfl
    rwa [e] at this
  have h3 : laidMet Tryd.prog [("modality/value.openTicks", Lib.tabData .i64 ticks)] W := by
    have := h.filter (fun x => x.1 == "modality/value.openTicks")
    have e : laid.filter (fun x => x.1 == "modality/value.openTicks") = [("modality/value.openTicks", Lib.tabData .i64 ticks)] := by kernel_rfl
    rwa [e] at this
  have hO : Lib.TabIs Tryd.prog W "modality/value.openTicks" .i64 ticks := Lib.tabIs_of_head (rest := []) gO (t := 109) (by kernel_rfl) (n := 10) (e := 2) (by kernel_rfl) (by kernel_rfl) (by kernel_rfl) (by kernel_rfl) h3
  have hM : Lib.TabIs Tryd.prog W "modality/value.monthDays" .i64 months := Lib.tabIs_of_head (rest := []) gM (t := 97) (by kernel_rfl) (n := 12) (e := 3) (by kernel_rfl) (by kernel_rfl) (by kernel_rfl) (by kernel_rfl) h1
  refine ⟨⟨fun i hi => ?_⟩, Lib.tabIs_of_head (rest := []) gP (t := 149) (by kernel_rfl) (n := 20) (e := 136) (by kernel_rfl) (by kernel_rfl) (by kernel_rfl) (by kernel_rfl) h2, ⟨fun i hi => ?_⟩⟩
  rotate_left
  · rw [hO.cell gO i hi]
    have : i = 0 ∨ i = 1 ∨ i = 2 ∨ i = 3 ∨ i = 4 ∨ i = 5 ∨ i = 6 ∨ i = 7 ∨ i = 8 ∨ i = 9 := by omega
    rcases this with rfl | rfl | rfl | rfl | rfl | rfl | rfl | rfl | rfl | rfl <;> rfl
  rw [hM.cell gM i hi]
  have : i = 0 ∨ i = 1 ∨ i = 2 ∨ i = 3 ∨ i = 4 ∨ i = 5 ∨ i = 6 ∨ i = 7 ∨ i = 8 ∨ i = 9 ∨ i = 10 ∨ i = 11 := by omega
  rcases this with rfl | rfl | rfl | rfl | rfl | rfl | rfl | rfl | rfl | rfl | rfl | rfl <;> rfl

theorem cells23 : Tryd.prog.cellsOf 23 = 3 := by kernel_rfl
theorem cells3 : Tryd.prog.cellsOf 3 = 1 := by kernel_rfl
theorem reach_eq : reachBytes = 140737488351232 := rfl

theorem cells48 : Tryd.prog.cellsOf 48 = 5 := by kernel_rfl
theorem cells50 : Tryd.prog.cellsOf 50 = 11 := by kernel_rfl
theorem cells4 : Tryd.prog.cellsOf 4 = 1 := by kernel_rfl

theorem trod5 {H : Type} {enc : TypeId × Value → H} {W : World} {b : Nat} {spare : Nat → Bool} {held : Bool} {t : TypeId} {f0 f1 f2 f3 f4 : Field} {fuel : Nat} {cs : List Value} {x : DataW H × List MemPlace} (ht : Tryd.prog.underlying t = some (.struct #[f0, f1, f2, f3, f4])) (h : DataW.trod enc Tryd.prog W b spare held fuel t cs = some x) :
    ∃ y0 y1 y2 y3 y4 n, x.2 = y0.2 ++ (y1.2 ++ (y2.2 ++ (y3.2 ++ y4.2))) ∧ DataW.trod enc Tryd.prog W b spare held n f0.type ((cs.drop f0.offset).take (Tryd.prog.cellsOf f0.type)) = some y0 ∧ DataW.trod enc Tryd.prog W b spare held n f1.type ((cs.drop f1.offset).take (Tryd.prog.cellsOf f1.type)) = some y1 ∧ DataW.trod enc Tryd.prog W b spare held n f2.type ((cs.drop f2.offset).take (Tryd.prog.cellsOf f2.type)) = some y2 ∧ DataW.trod enc Tryd.prog W b spare held n f3.type ((cs.drop f3.offset).take (Tryd.prog.cellsOf f3.type)) = some y3 ∧ DataW.trod enc Tryd.prog W b spare held n f4.type ((cs.drop f4.offset).take (Tryd.prog.cellsOf f4.type)) = some y4 := by
  obtain ⟨xs, n, _, rfl, hl, hlen, hf⟩ := DataW.trod_struct ht h
  match xs, hlen with
  | [y0, y1, y2, y3, y4], _ => exact ⟨y0, y1, y2, y3, y4, n, by simp, by simpa using hf 0 f0 rfl, by simpa using hf 1 f1 rfl, by simpa using hf 2 f2 rfl, by simpa using hf 3 f3 rfl, by simpa using hf 4 f4 rfl⟩

set_option maxRecDepth 100000 in
theorem open_time {H : Type} {enc : TypeId × Value → H} {W : World} {b base : Nat} {spare : Nat → Bool} {held : Bool} {v : Value} {d : DataW H} {ps : List MemPlace} (hval : Value.okWide Tryd.prog W .any base 48 v)
    (h : DataW.Trod enc Tryd.prog W b spare held 48 v d ps) : ∃ a0 a1 a2 a3 a4, v = .agg #[.int .i64 a0, .int .i64 a1, .int .i64 a2, .int .i64 a3, .int .i64 a4] ∧ ps = [] := by
  obtain ⟨cs, rfl, hl⟩ := okWide_struct Tryd.underlying48 hval
  rw [cells48] at hl
  obtain ⟨l⟩ := cs
  match l, hl with
  | [c0, c1, c2, c3, c4], _ =>
    obtain ⟨fuel, hf⟩ := h
    obtain ⟨y0, y1, y2, y3, y4, n, hx, h0, h1, h2, h3, h4⟩ := trod5 Tryd.underlying48 hf
    obtain ⟨z0, e0, rfl, _⟩ := DataW.trod_int Tryd.underlying3 h0
    obtain ⟨z1, e1, rfl, _⟩ := DataW.trod_int Tryd.underlying3 h1
    obtain ⟨z2, e2, rfl, _⟩ := DataW.trod_int Tryd.underlying3 h2
    obtain ⟨z3, e3, rfl, _⟩ := DataW.trod_int Tryd.underlying3 h3
    obtain ⟨z4, e4, rfl, _⟩ := DataW.trod_int Tryd.underlying3 h4
    simp [Value.cells, cells3] at e0 e1 e2 e3 e4
    simp at hx
    exact ⟨z0, z1, z2, z3, z4, by rw [e0, e1, e2, e3, e4], hx⟩

set_option maxRecDepth 100000 in
theorem open_moment {H : Type} {enc : TypeId × Value → H} {W : World} {b base : Nat} {spare : Nat → Bool} {held : Bool} {v : Value} {d : DataW H} {ps : List MemPlace} (hval : Value.okWide Tryd.prog W .any base 50 v)
    (h : DataW.Trod enc Tryd.prog W b spare held 50 v d ps) : ∃ y m dd dp h mi sc mc p zd z, v = mv y m dd dp h mi sc mc p zd z ∧ ps = [] := by
  obtain ⟨cs, rfl, hl⟩ := okWide_struct Tryd.underlying50 hval
  rw [cells50] at hl
  obtain ⟨l⟩ := cs
  match l, hl with
  | [c0, c1, c2, c3, c4, c5, c6, c7, c8, c9, c10], _ =>
    obtain ⟨fuel, hf⟩ := h
    obtain ⟨y0, y1, y2, y3, y4, n, hx, h0, h1, h2, h3, h4⟩ := trod5 Tryd.underlying50 hf
    obtain ⟨d0, d1, d2, n2, hx2, _, g0, g1, g2⟩ := Go.Deep.trod_struct3 Tryd.underlying23 h0
    obtain ⟨t0, t1, t2, t3, t4, n3, hx3, k0, k1, k2, k3, k4⟩ := trod5 Tryd.underlying48 h2
    obtain ⟨z0, e0, rfl, _⟩ := DataW.trod_int Tryd.underlying3 g0
    obtain ⟨z1, e1, rfl, _⟩ := DataW.trod_int Tryd.underlying3 g1
    obtain ⟨z2, e2, rfl, _⟩ := DataW.trod_int Tryd.underlying3 g2
    obtain ⟨z3, e3, rfl, _⟩ := DataW.trod_int Tryd.underlying3 h1
    obtain ⟨z4, e4, rfl, _⟩ := DataW.trod_int Tryd.underlying3 k0
    obtain ⟨z5, e5, rfl, _⟩ := DataW.trod_int Tryd.underlying3 k1
    obtain ⟨z6, e6, rfl, _⟩ := DataW.trod_int Tryd.underlying3 k2
    obtain ⟨z7, e7, rfl, _⟩ := DataW.trod_int Tryd.underlying3 k3
    obtain ⟨z8, e8, rfl, _⟩ := DataW.trod_int Tryd.underlying3 k4
    obtain ⟨z9, e9, rfl⟩ := DataW.trod_bool Tryd.underlying4 h3
    obtain ⟨z10, e10, rfl, _⟩ := DataW.trod_int Tryd.underlying3 h4
    simp [Value.cells, cells3, cells23, cells48] at e0 e1 e2 e3 e4 e5 e6 e7 e8 e10
    simp [Value.cells, cells4] at e9
    subst hx2
    simp at hx hx3
    exact ⟨z0, z1, z2, z3, z4, z5, z6, z7, z8, z9, z10, by rw [e0, e1, e2, e3, e4, e5, e6, e7, e8, e9, e10]; rfl, by first | exact hx.trans (by simpa using hx3) | simp_all⟩

set_option maxRecDepth 100000 in
theorem lifted (os : Os) (started : os.Started) (H : Type) (enc : TypeId × Value → H) :
    ReturnsInHanded {} Tryd.checked os 5 .any (fun w args => (Rows.valueTimesSpec.pre enc Tryd.prog Tryd.f5 [] false w args ∧ laidMetH Tryd.prog laid w) ∧ sizedMet enc Tryd.prog Tryd.f5 (OpenSpec.ofChange Rows.valueTimesSpec) false w args)
      (Rows.valueTimesSpec.post enc Tryd.prog Tryd.f5 false true false false) := by
  refine returnsInHanded_of_change_and (C := Tryd.checked) (X := fun w _ => laidMetH Tryd.prog laid w) (fun _ _ _ hh h => h.of_heap hh) own started (by kernel_rfl) Tryd.func5
    (ChangeSpec.witness_shaped (enc := enc) (C := Tryd.checked) (os := os) (X := fun w _ => laidMetH Tryd.prog laid w) false (World.laidAll Tryd.prog os laid) #[.string ⟨#[]⟩, .agg #[.int .i64 0, .int .i64 0, .int .i64 0, .int .i64 0, .int .i64 0], .agg #[.int .i64 0, .int .i64 0, .int .i64 0, .int .i64 0, .int .i64 0, .int .i64 0, .int .i64 0, .int .i64 0, .int .i64 0, .bool false, .int .i64 0]] 8 (World.laidAll_os _ _ _)
      (World.shaped_of_ZipB (by kernel_rfl) (by kernel_rfl)) (by kernel_rfl) (by kernel_rfl) (by kernel_rfl)
      (by rw [MakeChecks.laidMetH_plain _ _ _ (by kernel_rfl)]; exact laidMet_laidAll _ (by kernel_rfl) (by kernel_rfl))) ?_
  intro W base args ds gs before hval0 hW _ hsz0 hL _
  have hsz : (DataW.weightsEach Tryd.prog (Tryd.f5.params.toList ++ Rows.valueTimesSpec.plain.varTypes Tryd.prog) (ds ++ gs)).all (· ≤ reachBytes) = true := hsz0
  have hval : ∀ (j : Nat) t v, Tryd.f5.params[j]? = some t → args[j]? = some v → Value.okWide Tryd.prog W .any base t v := hval0
  have hW' := hW
  obtain ⟨p, q, hA0, hV, rfl, hfz, hnd⟩ := hW
  have hA : DataW.TrodAll enc Tryd.prog W 0 (fun _ => true) true Tryd.f5.params.toList args.toList ds p := hA0
  rw [Tryd.params5] at hA hval hsz
  obtain ⟨v0, vs0, d0, ds0, p0, q0, hargs, rfl, rfl, h0, r0⟩ := trodAll_cons hA
  obtain ⟨v1, vs1, d1, ds1, p1, q1, rfl, rfl, rfl, h1, r1⟩ := trodAll_cons r0
  obtain ⟨v2, vs2, d2, ds2, p2, q2, rfl, rfl, rfl, h2, r2⟩ := trodAll_cons r1
  obtain ⟨rfl, rfl, rfl⟩ := trodAll_nil r2
  obtain rfl : args = #[v0, v1, v2] := by cases args; simp_all
  obtain ⟨rfl, rfl⟩ := trodVars_none hV
  have k0 := h0
  have k1 := h1
  have k2 := h2
  obtain ⟨s, rfl, rfl, rfl, _⟩ := open_string Tryd.underlying9 (hval 0 9 v0 rfl rfl) h0
  obtain ⟨a0, a1, a2, a3, a4, rfl, rfl⟩ := open_time (hval 1 48 v1 rfl rfl) h1
  obtain ⟨y, m, dd, dp, hh, mi, sc, mc, pp, zd, z, rfl, rfl⟩ := open_moment (hval 2 50 v2 rfl rfl) h2
  have hs : s.size ≤ 140737488351232 := by
    have := sized_string hsz (j := 0) (t := 9) (bytes := s.data.toList) rfl rfl
    rw [reach_eq, Array.length_toList] at this
    exact this
  have hT := tabs_of_laid hL
  clear hA0 hval0 hsz0 hsz
  refine (times_any W s hs a0 a1 a2 a3 a4 y m dd dp hh mi sc mc pp zd z hT.1 hT.2.2 hT.2.1).mono fun e W' ⟨he, bel⟩ => ?_
  subst he
  exact ⟨_, rfl, _, _, _, [], _, [], hW', trodAll_mk1 (shut_bool Tryd.underlying4 _), (trodAll_cons_mk (Below.trod laidOut (by kernel_rfl) (of_decide_eq_true (by kernel_rfl)) k0 bel (fun x hx => by simp at hx)) (trodAll_cons_mk (Below.trod laidOut (by kernel_rfl) (of_decide_eq_true (by kernel_rfl)) k1 bel (fun x hx => by simp at hx)) (trodAll_cons_mk (Below.trod laidOut (by kernel_rfl) (of_decide_eq_true (by kernel_rfl)) k2 bel (fun x hx => by simp at hx)) trodAll_mk0))), rfl, bel.frame _, fun h => by cases h⟩

theorem over : Rows.ValueTimesSaid :=
  OpenClaim.holds_of_wide 5 Tryd.f5 rfl rfl rfl rfl rfl rfl rfl ⟨rfl, rfl, rfl, rfl, rfl⟩ rfl rfl rfl rfl rfl (by kernel_rfl) Tryd.func5 (by kernel_rfl)
    (of_decide_eq_true (by kernel_rfl)) (by unfold Func.isWrapper; first | (rw [if_pos (by decide +kernel)]; kernel_rfl) | (rw [if_neg (by decide +kernel)]; exact ⟨rfl, rfl⟩))
    (fun os started H enc _ => lifted os started H enc)
end Go.Proofs.YtggdlagopgpnhaaDoor.times

namespace Go.Proofs.YtggdlagopgpnhaaDoor
theorem valueTimes_holds : Rows.ValueTimesCardSaid :=
  Claim7.holds_tied_plain_at .later [] [.data, .data, .data, .data, .data] true (true, "afd258e6d69532d4109add0cc95090e3c06116f3342344479e383c36bc8935b2") true
    times.over (fun _ h => by cases h) (by kernel_rfl) (fun _ h => by cases h) valueTimes_row_tie rfl ⟨rfl, rfl⟩ (by kernel_rfl) rfl
    (fun f fn hf hfn => by
      obtain rfl : f = 5 := Option.some.inj ((show Tryd.prog.funcNamed "modality/modalitylaw5.ValueTimes" = some 5 by kernel_rfl).symm.trans hf) |>.symm
      obtain rfl : fn = Tryd.f5 := (Option.some.inj (Tryd.func5.symm.trans hfn)).symm
      exact ⟨by kernel_rfl, fun j t ht => by
        rw [Tryd.params5] at ht
        have hm : t ∈ [9, 48, 50] := by simpa using Array.mem_of_getElem? ht
        have hall : ([9, 48, 50].all fun u => !Tryd.prog.wantsStandIn u) = true := by kernel_rfl
        exact (show Tryd.prog.wantsStandIn t = false by simpa using List.all_eq_true.1 hall t hm)⟩)
    (by kernel_rfl)
#print axioms valueTimes_holds
end Go.Proofs.YtggdlagopgpnhaaDoor
