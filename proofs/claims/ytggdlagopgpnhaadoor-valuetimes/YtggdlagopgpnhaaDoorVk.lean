import Derived.Test.YtggdlagopgpnhaaDoorVg
import Derived.Test.YtggdlagopgpnhaaDoorVd
import Derived.Test.YtggdlagopgpnhaaDoorTn
/-
  DERIVED. PrintTime and PrintMoment, by the document.
-/
namespace Go.Proofs.YtggdlagopgpnhaaDoor
open Go Go.Proofs Go.RowKit

structure Bc (w W : World) (q h m s c p : Nat) : Prop where
  r : W.rowIs q 48 5 (fun k => #[Value.int .i64 (h : Int), .int .i64 (m : Int), .int .i64 (s : Int), .int .i64 (c : Int), .int .i64 (p : Int)].getD k undef)
  bel : Below w.heap.size w W
theorem Bc.next {w W W' : World} {q h m s c p : Nat} (H : Bc w W q h m s c p) (hb : Below W.heap.size W W') : Bc w W' q h m s c p := ⟨row_on H.r hb, H.bel.trans (hb.mono H.bel.size)⟩
theorem Bc.cs {w W : World} {q h m s c p : Nat} (H : Bc w W q h m s c p) : W.cell? ⟨q, 0, none⟩ = some (.int .i64 (h : Int)) ∧ W.cell? ⟨q, 1, none⟩ = some (.int .i64 (m : Int)) ∧ W.cell? ⟨q, 2, none⟩ = some (.int .i64 (s : Int)) ∧ W.cell? ⟨q, 3, none⟩ = some (.int .i64 (c : Int)) ∧ W.cell? ⟨q, 4, none⟩ = some (.int .i64 (p : Int)) :=
  ⟨H.r.cell (i := 0) (by omega), H.r.cell (i := 1) (by omega), H.r.cell (i := 2) (by omega), H.r.cell (i := 3) (by omega), H.r.cell (i := 4) (by omega)⟩

set_option maxRecDepth 100000 in
set_option maxHeartbeats 2000000 in
theorem text46_any (w : World) (h m s c p : Nat) (hh : h ≤ 99) (hm : m ≤ 99) (hs : s ≤ 99) (hc : c ≤ 999999) (hp1 : 1 ≤ p) (hp9 : p ≤ 9) :
    Calls Tryd.prog 46 #[t5 h m s c p] w fun e w' => e = .returned (.string (tT h m s c p)) ∧ Below w.heap.size w w' := by
  obtain ⟨W, hW⟩ : ∃ W, w.alloc (.cells #[.int .i64 (h : Int), .int .i64 (m : Int), .int .i64 (s : Int), .int .i64 (c : Int), .int .i64 (p : Int)] 48) = W := ⟨_, rfl⟩
  have HB0 : Hid (Bc w W w.heap.size h m s c p) := by
    refine ⟨?_, hW ▸ (Below.refl _ _).alloc (Nat.le_refl _) _⟩
    rw [← hW]; exact World.rowIs_alloc w _ 48 _ (row_lit _)
  obtain ⟨q0, q1, q2, q3, q4⟩ := HB0.out.cs
  have c36 : ∀ (W : World) (n k : Nat), n ≤ 999999 → k ≤ 6 → Calls Tryd.prog 36 #[.int .i64 (n : Int), .int .i64 (k : Int)] W fun e w' => e = .returned (.string (pdB n k)) ∧ Below W.heap.size W w' := fun W n k hn hk => pad6_any W n k hn hk
  have z1 : (pdB h 2).size = 2 := pdB_size _ _
  have z2 : (pdB m 2).size = 2 := pdB_size _ _
  have z3 : (pdB s 2).size = 2 := pdB_size _ _
  have z6 : (pdB c 6).size = 6 := pdB_size _ _
  have z12 : (pdB h 2 ++ pdB m 2).size = 4 := by rw [ByteArray.size_append, z1, z2]
  have z123 : (pdB h 2 ++ pdB m 2 ++ pdB s 2).size = 6 := by rw [ByteArray.size_append, z12, z3]
  unfold t5
  by_cases h1 : p = 1
  · subst h1
    rw [tT_1]
    have hW2 : w.alloc (.cells #[.int .i64 (h : Int), .int .i64 (m : Int), .int .i64 (s : Int), .int .i64 (c : Int), .int .i64 1] 48) = W := hW
    clear hW
    go_enter Tryd.func46, Tryd.ntmps46
    go_wp2_with (go_at_call 36; refine Stop.mk ?_)
    refine Stop.out ((c36 _ h 2 (by omega) (by omega)).mono ?_)
    rintro e W2 ⟨rfl, hb⟩
    have HBW2 : Hid (Bc w W2 w.heap.size h m s c _) := HB0.out.next hb
    obtain ⟨q0, q1, q2, q3, q4⟩ := HBW2.out.cs
    clear hb
    have q4b : W2.cell? ⟨w.heap.size, 4, none⟩ = some (.int .i64 1) := q4
    go_wp2
    go_ret
    exact ⟨rfl, HBW2.out.bel⟩
  · by_cases h2 : p = 2
    · subst h2
      rw [tT_2]
      have hW2 : w.alloc (.cells #[.int .i64 (h : Int), .int .i64 (m : Int), .int .i64 (s : Int), .int .i64 (c : Int), .int .i64 2] 48) = W := hW
      clear hW
      go_enter Tryd.func46, Tryd.ntmps46
      go_wp2_with (go_at_call 36; refine Stop.mk ?_)
      refine Stop.out ((c36 _ h 2 (by omega) (by omega)).mono ?_)
      rintro e W2 ⟨rfl, hb⟩
      have HBW2 : Hid (Bc w W2 w.heap.size h m s c _) := HB0.out.next hb
      obtain ⟨q0, q1, q2, q3, q4⟩ := HBW2.out.cs
      clear hb
      have q4b : W2.cell? ⟨w.heap.size, 4, none⟩ = some (.int .i64 2) := q4
      clear q4
      go_wp2_with (go_at_call 36; refine Stop.mk ?_)
      refine Stop.out ((c36 _ m 2 (by omega) (by omega)).mono ?_)
      rintro e W3 ⟨rfl, hb⟩
      have HBW3 : Hid (Bc w W3 w.heap.size h m s c _) := HBW2.out.next hb
      obtain ⟨q0, q1, q2, q3, q4⟩ := HBW3.out.cs
      clear hb
      have q4b : W3.cell? ⟨w.heap.size, 4, none⟩ = some (.int .i64 2) := q4
      clear q4
      go_wp2
      go_ret
      exact ⟨rfl, HBW3.out.bel⟩
    · have p2I : decide ((2 : Int) ≤ (p : Int)) = true := by simp; omega
      have p3I : decide ((3 : Int) ≤ (p : Int)) = true := by simp; omega
      by_cases h3 : p = 3
      · subst h3
        rw [tT_3]
        have hW2 : w.alloc (.cells #[.int .i64 (h : Int), .int .i64 (m : Int), .int .i64 (s : Int), .int .i64 (c : Int), .int .i64 3] 48) = W := hW
        clear hW p2I p3I
        go_enter Tryd.func46, Tryd.ntmps46
        go_wp2_with (go_at_call 36; refine Stop.mk ?_)
        refine Stop.out ((c36 _ h 2 (by omega) (by omega)).mono ?_)
        rintro e W2 ⟨rfl, hb⟩
        have HBW2 : Hid (Bc w W2 w.heap.size h m s c _) := HB0.out.next hb
        obtain ⟨q0, q1, q2, q3, q4⟩ := HBW2.out.cs
        clear hb
        have q4b : W2.cell? ⟨w.heap.size, 4, none⟩ = some (.int .i64 3) := q4
        clear q4
        go_wp2_with (go_at_call 36; refine Stop.mk ?_)
        refine Stop.out ((c36 _ m 2 (by omega) (by omega)).mono ?_)
        rintro e W3 ⟨rfl, hb⟩
        have HBW3 : Hid (Bc w W3 w.heap.size h m s c _) := HBW2.out.next hb
        obtain ⟨q0, q1, q2, q3, q4⟩ := HBW3.out.cs
        clear hb
        have q4b : W3.cell? ⟨w.heap.size, 4, none⟩ = some (.int .i64 3) := q4
        clear q4
        go_wp2_with (go_at_call 36; refine Stop.mk ?_)
        refine Stop.out ((c36 _ s 2 (by omega) (by omega)).mono ?_)
        rintro e W4 ⟨rfl, hb⟩
        have HBW4 : Hid (Bc w W4 w.heap.size h m s c _) := HBW3.out.next hb
        obtain ⟨q0, q1, q2, q3, q4⟩ := HBW4.out.cs
        clear hb
        have q4b : W4.cell? ⟨w.heap.size, 4, none⟩ = some (.int .i64 3) := q4
        clear q4
        go_wp2
        go_ret
        exact ⟨rfl, HBW4.out.bel⟩
      · have p4I : decide ((4 : Int) ≤ (p : Int)) = true := by simp; omega
        have hE : tT h m s c p = pdB h 2 ++ pdB m 2 ++ pdB s 2 ++ ⟨#[46]⟩ ++ (pdB c 6).extract 0 (p - 3) := by
          unfold tT tx6
          rw [if_neg (by omega)]
        rw [hE]
        clear hE
        obtain ⟨r, hr⟩ : ∃ r, p - 3 = r := ⟨_, rfl⟩
        rw [hr]
        have h3n : ((p : Int) - 3) = (r : Int) := by omega
        have hr6 : (r : Int) ≤ ((pdB c 6).size : Int) := by rw [z6]; omega
        have hr7 : r ≤ 6 := by omega
        have z7 : (pdB h 2 ++ pdB m 2 ++ pdB s 2 ++ (⟨#[46]⟩ : ByteArray)).size = 7 := by rw [ByteArray.size_append, z123]; rfl
        have z9 : ((pdB c 6).extract 0 r).size = r := by rw [ByteArray.size_extract, z6]; omega
        clear hr h1 h2 h3
        go_enter Tryd.func46, Tryd.ntmps46
        go_wp2_with (go_at_call 36; refine Stop.mk ?_)
        refine Stop.out ((c36 _ h 2 (by omega) (by omega)).mono ?_)
        rintro e W2 ⟨rfl, hb⟩
        have HBW2 : Hid (Bc w W2 w.heap.size h m s c _) := HB0.out.next hb
        obtain ⟨q0, q1, q2, q3, q4⟩ := HBW2.out.cs
        clear hb
        go_wp2_with (go_at_call 36; refine Stop.mk ?_)
        refine Stop.out ((c36 _ m 2 (by omega) (by omega)).mono ?_)
        rintro e W3 ⟨rfl, hb⟩
        have HBW3 : Hid (Bc w W3 w.heap.size h m s c _) := HBW2.out.next hb
        obtain ⟨q0, q1, q2, q3, q4⟩ := HBW3.out.cs
        clear hb
        go_wp2_with (go_at_call 36; refine Stop.mk ?_)
        refine Stop.out ((c36 _ s 2 (by omega) (by omega)).mono ?_)
        rintro e W4 ⟨rfl, hb⟩
        have HBW4 : Hid (Bc w W4 w.heap.size h m s c _) := HBW3.out.next hb
        obtain ⟨q0, q1, q2, q3, q4⟩ := HBW4.out.cs
        clear hb
        go_wp2_with (go_at_call 36; refine Stop.mk ?_)
        refine Stop.out ((c36 _ c 6 (by omega) (by omega)).mono ?_)
        rintro e W5 ⟨rfl, hb⟩
        have HBW5 : Hid (Bc w W5 w.heap.size h m s c _) := HBW4.out.next hb
        obtain ⟨q0, q1, q2, q3, q4⟩ := HBW5.out.cs
        clear hb
        go_wp2
        go_ret
        exact ⟨rfl, HBW5.out.bel⟩

set_option maxRecDepth 100000 in
set_option maxHeartbeats 1000000 in
theorem prt19_any (w : World) (h m s c p : Int) : Calls Tryd.prog 19 #[t5 h m s c p] w (PostF w (.string (tW h m s c p)) (tO h m s c p)) := by
  obtain ⟨q, hq⟩ : ∃ q, w.heap.size = q := ⟨_, rfl⟩
  obtain ⟨W1, hW1⟩ : ∃ W1, w.alloc (.cells #[.int .i64 h, .int .i64 m, .int .i64 s, .int .i64 c, .int .i64 p] 48) = W1 := ⟨_, rfl⟩
  obtain ⟨W, hW⟩ : ∃ W, W1.alloc (.cells #[.slice none 0 0, .int .i64 0] 37) = W := ⟨_, rfl⟩
  have hs1 : W1.heap.size = q + 1 := by rw [← hW1, ← hq]; simp
  have HM : Hid (MN w W 48 5 (fun k => #[Value.int .i64 h, .int .i64 m, .int .i64 s, .int .i64 c, .int .i64 p].getD k undef)) := by
    show MN _ _ _ _ _
    rw [← hW, ← hW1]
    exact MN.start w _ 48
  have hR := HM.out.r
  rw [hq] at hR
  have q0 : W.cell? ⟨q, 0, none⟩ = some (.int .i64 h) := hR.cell (i := 0) (by omega)
  have q1 : W.cell? ⟨q, 1, none⟩ = some (.int .i64 m) := hR.cell (i := 1) (by omega)
  have q2 : W.cell? ⟨q, 2, none⟩ = some (.int .i64 s) := hR.cell (i := 2) (by omega)
  have q3 : W.cell? ⟨q, 3, none⟩ = some (.int .i64 c) := hR.cell (i := 3) (by omega)
  have q4 : W.cell? ⟨q, 4, none⟩ = some (.int .i64 p) := hR.cell (i := 4) (by omega)
  have c45 := timeNo_any W h m s c p
  unfold tW tO
  by_cases hu : tN h m s c p = -1
  · rw [if_pos hu, if_pos hu]
    rw [hu] at c45
    obtain ⟨hn, mn, sn, cn, pn, rfl, rfl, rfl, rfl, rfl, b1, b2, b3, b4, b5, b6⟩ := tN_ok hu
    simp only [Int.toNat_natCast]
    have c46 := fun W' => text46_any W' hn mn sn cn pn (by omega) (by omega) (by omega) b4 b5 b6
    have c34 := fun W' => none34_any W'
    generalize tT hn mn sn cn pn = X at *
    clear hR hu b1 b2 b3 b4 b5 b6
    unfold t5 at *
    go_enter Tryd.func19, Tryd.ntmps19
    go_wp2_with (go_at_call 45; refine Stop.mk ?_)
    refine Stop.out (c45.mono ?_)
    rintro e W2 ⟨rfl, hb2⟩
    have HM2 : Hid _ := HM.out.on hb2
    have hR2 := HM2.out.r
    rw [hq] at hR2
    have u0 : W2.cell? ⟨q, 0, none⟩ = some (.int .i64 (hn : Int)) := hR2.cell (i := 0) (by omega)
    have u1 : W2.cell? ⟨q, 1, none⟩ = some (.int .i64 (mn : Int)) := hR2.cell (i := 1) (by omega)
    have u2 : W2.cell? ⟨q, 2, none⟩ = some (.int .i64 (sn : Int)) := hR2.cell (i := 2) (by omega)
    have u3 : W2.cell? ⟨q, 3, none⟩ = some (.int .i64 (cn : Int)) := hR2.cell (i := 3) (by omega)
    have u4 : W2.cell? ⟨q, 4, none⟩ = some (.int .i64 (pn : Int)) := hR2.cell (i := 4) (by omega)
    have c := c46 W2
    clear c45 c46 q0 q1 q2 q3 q4 hb2 hR2 HM
    go_wp2_with (go_at_call 46; refine Stop.mk ?_)
    refine Stop.out (c.mono ?_)
    rintro e W3 ⟨rfl, hb3⟩
    have HM3 : Hid _ := HM2.out.on hb3
    clear hb3 c HM2 u0 u1 u2 u3 u4
    go_wp2_with (go_at_call 34; refine Stop.mk ?_)
    refine Stop.out ((c34 _).mono ?_)
    rintro e W4 ⟨rfl, hb4⟩
    have hM4 := HM3.out.on hb4
    have hE4 := hM4.e
    have hB4 := hM4.b
    rw [hq] at hE4 hB4
    have s0 : W4.cell? ⟨q + 1, 0, none⟩ = some (.slice none 0 0) := hE4.cell (i := 0) (by omega)
    have s1 : W4.cell? ⟨q + 1, 1, none⟩ = some (.int .i64 0) := hE4.cell (i := 1) (by omega)
    have sf := fun i => hE4.frozen i
    have HB4 : Hid _ := hB4
    clear hb4 HM3 hM4 hE4 hB4 c34
    go_wp2
    refine bodyPost_ret (v := .tuple #[.string X, .agg #[.slice none 0 0, .int .i64 0]]) (by simp [results, Tryd.results19, go_sem, s0, s1]) rfl ⟨_, rfl, rfl, ?_⟩
    rw [hq]
    exact (HB4.out.setCell (p := ⟨q + 1, 0, none⟩) (Nat.le_succ _) _).setCell (p := ⟨q + 1, 1, none⟩) (Nat.le_succ _) _
  · rw [if_neg hu, if_neg hu]
    have hu0 : 0 ≤ tN h m s c p := ((tN_is h m s c p).resolve_left hu).1
    generalize tN h m s c p = U at *
    have hUI : decide ((0 : Int) ≤ U) = true := by simpa using hu0
    clear hR hu hu0
    unfold t5 at *
    go_enter Tryd.func19, Tryd.ntmps19
    go_wp2_with (go_at_call 45; refine Stop.mk ?_)
    refine Stop.out (c45.mono ?_)
    rintro e W2 ⟨rfl, hb2⟩
    have HM2 : Hid _ := HM.out.on hb2
    clear c45 q0 q1 q2 q3 q4 hb2 HM
    go_wp2_with (go_at_call 32; refine Stop.mk ?_)
    refine Stop.out ((no_any U 102 _).mono ?_)
    rintro e W4 ⟨v, rfl, hv, hb4⟩
    have hM4 := HM2.out.on hb4
    have hE4 := hM4.e
    have hB4 := hM4.b
    rw [hq] at hE4 hB4
    have s0 : W4.cell? ⟨q + 1, 0, none⟩ = some (.slice none 0 0) := hE4.cell (i := 0) (by omega)
    have s1 : W4.cell? ⟨q + 1, 1, none⟩ = some (.int .i64 0) := hE4.cell (i := 1) (by omega)
    have sf := fun i => hE4.frozen i
    have HB4 : Hid _ := hB4
    have n2 : Hid (Rne v (q + 1)) := hv.ne s0 (fun s => by simp)
    have HV : Hid (RErr W4 v (some (U, 102))) := hv
    obtain ⟨g, k, rfl, _, _⟩ := hv
    clear hb4 HM2 hM4 hE4 hB4
    go_wp2
    refine bodyPost_ret (v := .tuple #[.string ⟨#[]⟩, .agg #[.slice (some ⟨g, 0, none⟩) 1 k, .int .i64 102]]) (by simp [results, Tryd.results19, go_sem, s0, s1]) rfl ⟨_, rfl, ?_, ?_⟩
    · exact HV.out.grown n2.out (grown_set (grown_set (grown_refl _ _) 0 _) 1 _)
    · rw [hq]
      exact (HB4.out.setCell (p := ⟨q + 1, 0, none⟩) (Nat.le_succ _) _).setCell (p := ⟨q + 1, 1, none⟩) (Nat.le_succ _) _

set_option maxRecDepth 100000 in
set_option maxHeartbeats 2000000 in
theorem noMz (w : World) (y m d dp h mi sc mc p : Int) (zd : Bool) (z : Int) (hu : uf y m d ≠ -1)  : Calls Tryd.prog 51 #[mv y m d dp h mi sc mc p zd z] w fun e w' => e = .returned (.int .i64 0) ∧ Below w.heap.size w w' := by
  obtain ⟨W, hW⟩ : ∃ W, w.alloc (.cells #[.int .i64 y, .int .i64 m, .int .i64 d, .int .i64 dp, .int .i64 h, .int .i64 mi, .int .i64 sc, .int .i64 mc, .int .i64 p, .bool zd, .int .i64 z] 50) = W := ⟨_, rfl⟩
  obtain ⟨W1, hW1⟩ : ∃ W1, W.alloc (.cells #[.int .i64 y, .int .i64 m, .int .i64 d] 23) = W1 := ⟨_, rfl⟩
  have hsW : W.heap.size = w.heap.size + 1 := by rw [← hW]; simp
  have HB : Hid (Below w.heap.size w W1) := by
    show Below _ _ _
    rw [← hW1, ← hW]
    exact ((Below.refl _ _).alloc (Nat.le_refl _) _).alloc (by simp) _
  have HRW : Hid (W1.rowIs w.heap.size 50 11 (mf y m d dp h mi sc mc p zd z)) := by
    show W1.rowIs _ _ _ _
    rw [← hW1]
    refine World.rowIs.alloc ?_ _
    rw [← hW]; exact World.rowIs_alloc w _ 50 _ (row_lit _)
  have HRD : Hid (W1.rowIs (w.heap.size + 1) 23 3 (f3 y m d)) := by
    show W1.rowIs _ _ _ _
    rw [← hW1, ← hsW]
    exact World.rowIs_alloc W _ 23 _ (fun i hi => by
      rcases (by simp at hi; omega : i = 0 ∨ i = 1 ∨ i = 2) with rfl | rfl | rfl <;> rfl)
  have hA : W.rowIs w.heap.size 50 11 (mf y m d dp h mi sc mc p zd z) := by rw [← hW]; exact World.rowIs_alloc w _ 50 _ (row_lit _)
  have a0 : W.cell? ⟨w.heap.size, 0, none⟩ = some (.int .i64 y) := hA.cell (i := 0) (by omega)
  have a1 : W.cell? ⟨w.heap.size, 1, none⟩ = some (.int .i64 m) := hA.cell (i := 1) (by omega)
  have a2 : W.cell? ⟨w.heap.size, 2, none⟩ = some (.int .i64 d) := hA.cell (i := 2) (by omega)
  have a3 : W.cell? ⟨w.heap.size, 3, none⟩ = some (.int .i64 dp) := hA.cell (i := 3) (by omega)
  have a4 : W.cell? ⟨w.heap.size, 4, none⟩ = some (.int .i64 h) := hA.cell (i := 4) (by omega)
  have a5 : W.cell? ⟨w.heap.size, 5, none⟩ = some (.int .i64 mi) := hA.cell (i := 5) (by omega)
  have a6 : W.cell? ⟨w.heap.size, 6, none⟩ = some (.int .i64 sc) := hA.cell (i := 6) (by omega)
  have a7 : W.cell? ⟨w.heap.size, 7, none⟩ = some (.int .i64 mc) := hA.cell (i := 7) (by omega)
  have a8 : W.cell? ⟨w.heap.size, 8, none⟩ = some (.int .i64 p) := hA.cell (i := 8) (by omega)
  have a9 : W.cell? ⟨w.heap.size, 9, none⟩ = some (.bool zd) := hA.cell (i := 9) (by omega)
  have a10 : W.cell? ⟨w.heap.size, 10, none⟩ = some (.int .i64 z) := hA.cell (i := 10) (by omega)
  have q0 : W1.cell? ⟨w.heap.size, 0, none⟩ = some (.int .i64 y) := HRW.out.cell (i := 0) (by omega)
  have q1 : W1.cell? ⟨w.heap.size, 1, none⟩ = some (.int .i64 m) := HRW.out.cell (i := 1) (by omega)
  have q2 : W1.cell? ⟨w.heap.size, 2, none⟩ = some (.int .i64 d) := HRW.out.cell (i := 2) (by omega)
  have q3 : W1.cell? ⟨w.heap.size, 3, none⟩ = some (.int .i64 dp) := HRW.out.cell (i := 3) (by omega)
  have q4 : W1.cell? ⟨w.heap.size, 4, none⟩ = some (.int .i64 h) := HRW.out.cell (i := 4) (by omega)
  have q5 : W1.cell? ⟨w.heap.size, 5, none⟩ = some (.int .i64 mi) := HRW.out.cell (i := 5) (by omega)
  have q6 : W1.cell? ⟨w.heap.size, 6, none⟩ = some (.int .i64 sc) := HRW.out.cell (i := 6) (by omega)
  have q7 : W1.cell? ⟨w.heap.size, 7, none⟩ = some (.int .i64 mc) := HRW.out.cell (i := 7) (by omega)
  have q8 : W1.cell? ⟨w.heap.size, 8, none⟩ = some (.int .i64 p) := HRW.out.cell (i := 8) (by omega)
  have q9 : W1.cell? ⟨w.heap.size, 9, none⟩ = some (.bool zd) := HRW.out.cell (i := 9) (by omega)
  have q10 : W1.cell? ⟨w.heap.size, 10, none⟩ = some (.int .i64 z) := HRW.out.cell (i := 10) (by omega)
  have e0 : W1.cell? ⟨w.heap.size + 1, 0, none⟩ = some (.int .i64 y) := HRD.out.cell (i := 0) (by omega)
  have e1 : W1.cell? ⟨w.heap.size + 1, 1, none⟩ = some (.int .i64 m) := HRD.out.cell (i := 1) (by omega)
  have e2 : W1.cell? ⟨w.heap.size + 1, 2, none⟩ = some (.int .i64 d) := HRD.out.cell (i := 2) (by omega)
  have c35 := dayNo_any W1 y m d
  unfold mv
  unfold dv at c35
  have hu0 : 0 ≤ uf y m d := ((uf_is y m d).resolve_left hu).1
  generalize uf y m d = U at *
  have hUI : decide ((0 : Int) ≤ U) = true := by simpa using hu0
  clear hu hu0
  go_enter Tryd.func51, Tryd.ntmps51
  go_wp2_with (go_at_call 35; refine Stop.mk ?_)
  refine Stop.out (c35.mono ?_)
  rintro e W2 ⟨rfl, hb2⟩
  have hR2 := row_on HRW.out hb2
  have hD2 := row_on HRD.out hb2
  have HR2 : Hid _ := hR2
  have HB2 : Hid (Below w.heap.size w W2) := HB.out.trans (hb2.mono HB.out.size)
  have u0 : W2.cell? ⟨w.heap.size, 0, none⟩ = some (.int .i64 y) := hR2.cell (i := 0) (by omega)
  have u1 : W2.cell? ⟨w.heap.size, 1, none⟩ = some (.int .i64 m) := hR2.cell (i := 1) (by omega)
  have u2 : W2.cell? ⟨w.heap.size, 2, none⟩ = some (.int .i64 d) := hR2.cell (i := 2) (by omega)
  have u3 : W2.cell? ⟨w.heap.size, 3, none⟩ = some (.int .i64 dp) := hR2.cell (i := 3) (by omega)
  have u4 : W2.cell? ⟨w.heap.size, 4, none⟩ = some (.int .i64 h) := hR2.cell (i := 4) (by omega)
  have u5 : W2.cell? ⟨w.heap.size, 5, none⟩ = some (.int .i64 mi) := hR2.cell (i := 5) (by omega)
  have u6 : W2.cell? ⟨w.heap.size, 6, none⟩ = some (.int .i64 sc) := hR2.cell (i := 6) (by omega)
  have u7 : W2.cell? ⟨w.heap.size, 7, none⟩ = some (.int .i64 mc) := hR2.cell (i := 7) (by omega)
  have u8 : W2.cell? ⟨w.heap.size, 8, none⟩ = some (.int .i64 p) := hR2.cell (i := 8) (by omega)
  have u9 : W2.cell? ⟨w.heap.size, 9, none⟩ = some (.bool zd) := hR2.cell (i := 9) (by omega)
  have u10 : W2.cell? ⟨w.heap.size, 10, none⟩ = some (.int .i64 z) := hR2.cell (i := 10) (by omega)
  have x0 : W2.cell? ⟨w.heap.size + 1, 1, none⟩ = some (.int .i64 m) := hD2.cell (i := 1) (by omega)
  have x1 : W2.cell? ⟨w.heap.size + 1, 2, none⟩ = some (.int .i64 d) := hD2.cell (i := 2) (by omega)
  clear hb2 hR2 hD2 c35 a0 a1 a2 a3 a4 a5 a6 a7 a8 a9 a10 q0 q1 q2 q3 q4 q5 q6 q7 q8 q9 q10 e0 e1 e2 hA
  go_wp2
  all_goals
    go_ret
    exact ⟨rfl, HB2.out⟩

set_option maxRecDepth 100000 in
set_option maxHeartbeats 2000000 in
theorem noMa (w : World) (y m d h mi sc mc p : Int) (zd : Bool) (z : Int) (hu : uf y m d = -1) (hm : m ≠ 1) : Calls Tryd.prog 51 #[mv y m d 1 h mi sc mc p zd z] w fun e w' => e = .returned (.int .i64 0) ∧ Below w.heap.size w w' := by
  obtain ⟨W, hW⟩ : ∃ W, w.alloc (.cells #[.int .i64 y, .int .i64 m, .int .i64 d, .int .i64 1, .int .i64 h, .int .i64 mi, .int .i64 sc, .int .i64 mc, .int .i64 p, .bool zd, .int .i64 z] 50) = W := ⟨_, rfl⟩
  obtain ⟨W1, hW1⟩ : ∃ W1, W.alloc (.cells #[.int .i64 y, .int .i64 m, .int .i64 d] 23) = W1 := ⟨_, rfl⟩
  have hsW : W.heap.size = w.heap.size + 1 := by rw [← hW]; simp
  have HB : Hid (Below w.heap.size w W1) := by
    show Below _ _ _
    rw [← hW1, ← hW]
    exact ((Below.refl _ _).alloc (Nat.le_refl _) _).alloc (by simp) _
  have HRW : Hid (W1.rowIs w.heap.size 50 11 (mf y m d 1 h mi sc mc p zd z)) := by
    show W1.rowIs _ _ _ _
    rw [← hW1]
    refine World.rowIs.alloc ?_ _
    rw [← hW]; exact World.rowIs_alloc w _ 50 _ (row_lit _)
  have HRD : Hid (W1.rowIs (w.heap.size + 1) 23 3 (f3 y m d)) := by
    show W1.rowIs _ _ _ _
    rw [← hW1, ← hsW]
    exact World.rowIs_alloc W _ 23 _ (fun i hi => by
      rcases (by simp at hi; omega : i = 0 ∨ i = 1 ∨ i = 2) with rfl | rfl | rfl <;> rfl)
  have hA : W.rowIs w.heap.size 50 11 (mf y m d 1 h mi sc mc p zd z) := by rw [← hW]; exact World.rowIs_alloc w _ 50 _ (row_lit _)
  have a0 : W.cell? ⟨w.heap.size, 0, none⟩ = some (.int .i64 y) := hA.cell (i := 0) (by omega)
  have a1 : W.cell? ⟨w.heap.size, 1, none⟩ = some (.int .i64 m) := hA.cell (i := 1) (by omega)
  have a2 : W.cell? ⟨w.heap.size, 2, none⟩ = some (.int .i64 d) := hA.cell (i := 2) (by omega)
  have a3 : W.cell? ⟨w.heap.size, 3, none⟩ = some (.int .i64 1) := hA.cell (i := 3) (by omega)
  have a4 : W.cell? ⟨w.heap.size, 4, none⟩ = some (.int .i64 h) := hA.cell (i := 4) (by omega)
  have a5 : W.cell? ⟨w.heap.size, 5, none⟩ = some (.int .i64 mi) := hA.cell (i := 5) (by omega)
  have a6 : W.cell? ⟨w.heap.size, 6, none⟩ = some (.int .i64 sc) := hA.cell (i := 6) (by omega)
  have a7 : W.cell? ⟨w.heap.size, 7, none⟩ = some (.int .i64 mc) := hA.cell (i := 7) (by omega)
  have a8 : W.cell? ⟨w.heap.size, 8, none⟩ = some (.int .i64 p) := hA.cell (i := 8) (by omega)
  have a9 : W.cell? ⟨w.heap.size, 9, none⟩ = some (.bool zd) := hA.cell (i := 9) (by omega)
  have a10 : W.cell? ⟨w.heap.size, 10, none⟩ = some (.int .i64 z) := hA.cell (i := 10) (by omega)
  have q0 : W1.cell? ⟨w.heap.size, 0, none⟩ = some (.int .i64 y) := HRW.out.cell (i := 0) (by omega)
  have q1 : W1.cell? ⟨w.heap.size, 1, none⟩ = some (.int .i64 m) := HRW.out.cell (i := 1) (by omega)
  have q2 : W1.cell? ⟨w.heap.size, 2, none⟩ = some (.int .i64 d) := HRW.out.cell (i := 2) (by omega)
  have q3 : W1.cell? ⟨w.heap.size, 3, none⟩ = some (.int .i64 1) := HRW.out.cell (i := 3) (by omega)
  have q4 : W1.cell? ⟨w.heap.size, 4, none⟩ = some (.int .i64 h) := HRW.out.cell (i := 4) (by omega)
  have q5 : W1.cell? ⟨w.heap.size, 5, none⟩ = some (.int .i64 mi) := HRW.out.cell (i := 5) (by omega)
  have q6 : W1.cell? ⟨w.heap.size, 6, none⟩ = some (.int .i64 sc) := HRW.out.cell (i := 6) (by omega)
  have q7 : W1.cell? ⟨w.heap.size, 7, none⟩ = some (.int .i64 mc) := HRW.out.cell (i := 7) (by omega)
  have q8 : W1.cell? ⟨w.heap.size, 8, none⟩ = some (.int .i64 p) := HRW.out.cell (i := 8) (by omega)
  have q9 : W1.cell? ⟨w.heap.size, 9, none⟩ = some (.bool zd) := HRW.out.cell (i := 9) (by omega)
  have q10 : W1.cell? ⟨w.heap.size, 10, none⟩ = some (.int .i64 z) := HRW.out.cell (i := 10) (by omega)
  have e0 : W1.cell? ⟨w.heap.size + 1, 0, none⟩ = some (.int .i64 y) := HRD.out.cell (i := 0) (by omega)
  have e1 : W1.cell? ⟨w.heap.size + 1, 1, none⟩ = some (.int .i64 m) := HRD.out.cell (i := 1) (by omega)
  have e2 : W1.cell? ⟨w.heap.size + 1, 2, none⟩ = some (.int .i64 d) := HRD.out.cell (i := 2) (by omega)
  have c35 := dayNo_any W1 y m d
  unfold mv
  unfold dv at c35
  rw [hu] at c35
  clear hu
  have hm0 : (m != 1) = true := by simpa using hm
  clear hm
  go_enter Tryd.func51, Tryd.ntmps51
  go_wp2_with (go_at_call 35; refine Stop.mk ?_)
  refine Stop.out (c35.mono ?_)
  rintro e W2 ⟨rfl, hb2⟩
  have hR2 := row_on HRW.out hb2
  have hD2 := row_on HRD.out hb2
  have HR2 : Hid _ := hR2
  have HB2 : Hid (Below w.heap.size w W2) := HB.out.trans (hb2.mono HB.out.size)
  have u0 : W2.cell? ⟨w.heap.size, 0, none⟩ = some (.int .i64 y) := hR2.cell (i := 0) (by omega)
  have u1 : W2.cell? ⟨w.heap.size, 1, none⟩ = some (.int .i64 m) := hR2.cell (i := 1) (by omega)
  have u2 : W2.cell? ⟨w.heap.size, 2, none⟩ = some (.int .i64 d) := hR2.cell (i := 2) (by omega)
  have u3 : W2.cell? ⟨w.heap.size, 3, none⟩ = some (.int .i64 1) := hR2.cell (i := 3) (by omega)
  have u4 : W2.cell? ⟨w.heap.size, 4, none⟩ = some (.int .i64 h) := hR2.cell (i := 4) (by omega)
  have u5 : W2.cell? ⟨w.heap.size, 5, none⟩ = some (.int .i64 mi) := hR2.cell (i := 5) (by omega)
  have u6 : W2.cell? ⟨w.heap.size, 6, none⟩ = some (.int .i64 sc) := hR2.cell (i := 6) (by omega)
  have u7 : W2.cell? ⟨w.heap.size, 7, none⟩ = some (.int .i64 mc) := hR2.cell (i := 7) (by omega)
  have u8 : W2.cell? ⟨w.heap.size, 8, none⟩ = some (.int .i64 p) := hR2.cell (i := 8) (by omega)
  have u9 : W2.cell? ⟨w.heap.size, 9, none⟩ = some (.bool zd) := hR2.cell (i := 9) (by omega)
  have u10 : W2.cell? ⟨w.heap.size, 10, none⟩ = some (.int .i64 z) := hR2.cell (i := 10) (by omega)
  have x0 : W2.cell? ⟨w.heap.size + 1, 1, none⟩ = some (.int .i64 m) := hD2.cell (i := 1) (by omega)
  have x1 : W2.cell? ⟨w.heap.size + 1, 2, none⟩ = some (.int .i64 d) := hD2.cell (i := 2) (by omega)
  clear hb2 hR2 hD2 c35 a0 a1 a2 a3 a4 a5 a6 a7 a8 a9 a10 q0 q1 q2 q3 q4 q5 q6 q7 q8 q9 q10 e0 e1 e2 hA
  go_wp2
  all_goals
    go_ret
    exact ⟨rfl, HB2.out⟩

set_option maxRecDepth 100000 in
set_option maxHeartbeats 2000000 in
theorem noMb (w : World) (y m d h mi sc mc p : Int) (zd : Bool) (z : Int) (hu : uf y m d = -1) (hd : d ≠ 1) : Calls Tryd.prog 51 #[mv y m d 1 h mi sc mc p zd z] w fun e w' => e = .returned (.int .i64 0) ∧ Below w.heap.size w w' := by
  obtain ⟨W, hW⟩ : ∃ W, w.alloc (.cells #[.int .i64 y, .int .i64 m, .int .i64 d, .int .i64 1, .int .i64 h, .int .i64 mi, .int .i64 sc, .int .i64 mc, .int .i64 p, .bool zd, .int .i64 z] 50) = W := ⟨_, rfl⟩
  obtain ⟨W1, hW1⟩ : ∃ W1, W.alloc (.cells #[.int .i64 y, .int .i64 m, .int .i64 d] 23) = W1 := ⟨_, rfl⟩
  have hsW : W.heap.size = w.heap.size + 1 := by rw [← hW]; simp
  have HB : Hid (Below w.heap.size w W1) := by
    show Below _ _ _
    rw [← hW1, ← hW]
    exact ((Below.refl _ _).alloc (Nat.le_refl _) _).alloc (by simp) _
  have HRW : Hid (W1.rowIs w.heap.size 50 11 (mf y m d 1 h mi sc mc p zd z)) := by
    show W1.rowIs _ _ _ _
    rw [← hW1]
    refine World.rowIs.alloc ?_ _
    rw [← hW]; exact World.rowIs_alloc w _ 50 _ (row_lit _)
  have HRD : Hid (W1.rowIs (w.heap.size + 1) 23 3 (f3 y m d)) := by
    show W1.rowIs _ _ _ _
    rw [← hW1, ← hsW]
    exact World.rowIs_alloc W _ 23 _ (fun i hi => by
      rcases (by simp at hi; omega : i = 0 ∨ i = 1 ∨ i = 2) with rfl | rfl | rfl <;> rfl)
  have hA : W.rowIs w.heap.size 50 11 (mf y m d 1 h mi sc mc p zd z) := by rw [← hW]; exact World.rowIs_alloc w _ 50 _ (row_lit _)
  have a0 : W.cell? ⟨w.heap.size, 0, none⟩ = some (.int .i64 y) := hA.cell (i := 0) (by omega)
  have a1 : W.cell? ⟨w.heap.size, 1, none⟩ = some (.int .i64 m) := hA.cell (i := 1) (by omega)
  have a2 : W.cell? ⟨w.heap.size, 2, none⟩ = some (.int .i64 d) := hA.cell (i := 2) (by omega)
  have a3 : W.cell? ⟨w.heap.size, 3, none⟩ = some (.int .i64 1) := hA.cell (i := 3) (by omega)
  have a4 : W.cell? ⟨w.heap.size, 4, none⟩ = some (.int .i64 h) := hA.cell (i := 4) (by omega)
  have a5 : W.cell? ⟨w.heap.size, 5, none⟩ = some (.int .i64 mi) := hA.cell (i := 5) (by omega)
  have a6 : W.cell? ⟨w.heap.size, 6, none⟩ = some (.int .i64 sc) := hA.cell (i := 6) (by omega)
  have a7 : W.cell? ⟨w.heap.size, 7, none⟩ = some (.int .i64 mc) := hA.cell (i := 7) (by omega)
  have a8 : W.cell? ⟨w.heap.size, 8, none⟩ = some (.int .i64 p) := hA.cell (i := 8) (by omega)
  have a9 : W.cell? ⟨w.heap.size, 9, none⟩ = some (.bool zd) := hA.cell (i := 9) (by omega)
  have a10 : W.cell? ⟨w.heap.size, 10, none⟩ = some (.int .i64 z) := hA.cell (i := 10) (by omega)
  have q0 : W1.cell? ⟨w.heap.size, 0, none⟩ = some (.int .i64 y) := HRW.out.cell (i := 0) (by omega)
  have q1 : W1.cell? ⟨w.heap.size, 1, none⟩ = some (.int .i64 m) := HRW.out.cell (i := 1) (by omega)
  have q2 : W1.cell? ⟨w.heap.size, 2, none⟩ = some (.int .i64 d) := HRW.out.cell (i := 2) (by omega)
  have q3 : W1.cell? ⟨w.heap.size, 3, none⟩ = some (.int .i64 1) := HRW.out.cell (i := 3) (by omega)
  have q4 : W1.cell? ⟨w.heap.size, 4, none⟩ = some (.int .i64 h) := HRW.out.cell (i := 4) (by omega)
  have q5 : W1.cell? ⟨w.heap.size, 5, none⟩ = some (.int .i64 mi) := HRW.out.cell (i := 5) (by omega)
  have q6 : W1.cell? ⟨w.heap.size, 6, none⟩ = some (.int .i64 sc) := HRW.out.cell (i := 6) (by omega)
  have q7 : W1.cell? ⟨w.heap.size, 7, none⟩ = some (.int .i64 mc) := HRW.out.cell (i := 7) (by omega)
  have q8 : W1.cell? ⟨w.heap.size, 8, none⟩ = some (.int .i64 p) := HRW.out.cell (i := 8) (by omega)
  have q9 : W1.cell? ⟨w.heap.size, 9, none⟩ = some (.bool zd) := HRW.out.cell (i := 9) (by omega)
  have q10 : W1.cell? ⟨w.heap.size, 10, none⟩ = some (.int .i64 z) := HRW.out.cell (i := 10) (by omega)
  have e0 : W1.cell? ⟨w.heap.size + 1, 0, none⟩ = some (.int .i64 y) := HRD.out.cell (i := 0) (by omega)
  have e1 : W1.cell? ⟨w.heap.size + 1, 1, none⟩ = some (.int .i64 m) := HRD.out.cell (i := 1) (by omega)
  have e2 : W1.cell? ⟨w.heap.size + 1, 2, none⟩ = some (.int .i64 d) := HRD.out.cell (i := 2) (by omega)
  have c35 := dayNo_any W1 y m d
  unfold mv
  unfold dv at c35
  rw [hu] at c35
  clear hu
  have hd0 : (d != 1) = true := by simpa using hd
  clear hd
  go_enter Tryd.func51, Tryd.ntmps51
  go_wp2_with (go_at_call 35; refine Stop.mk ?_)
  refine Stop.out (c35.mono ?_)
  rintro e W2 ⟨rfl, hb2⟩
  have hR2 := row_on HRW.out hb2
  have hD2 := row_on HRD.out hb2
  have HR2 : Hid _ := hR2
  have HB2 : Hid (Below w.heap.size w W2) := HB.out.trans (hb2.mono HB.out.size)
  have u0 : W2.cell? ⟨w.heap.size, 0, none⟩ = some (.int .i64 y) := hR2.cell (i := 0) (by omega)
  have u1 : W2.cell? ⟨w.heap.size, 1, none⟩ = some (.int .i64 m) := hR2.cell (i := 1) (by omega)
  have u2 : W2.cell? ⟨w.heap.size, 2, none⟩ = some (.int .i64 d) := hR2.cell (i := 2) (by omega)
  have u3 : W2.cell? ⟨w.heap.size, 3, none⟩ = some (.int .i64 1) := hR2.cell (i := 3) (by omega)
  have u4 : W2.cell? ⟨w.heap.size, 4, none⟩ = some (.int .i64 h) := hR2.cell (i := 4) (by omega)
  have u5 : W2.cell? ⟨w.heap.size, 5, none⟩ = some (.int .i64 mi) := hR2.cell (i := 5) (by omega)
  have u6 : W2.cell? ⟨w.heap.size, 6, none⟩ = some (.int .i64 sc) := hR2.cell (i := 6) (by omega)
  have u7 : W2.cell? ⟨w.heap.size, 7, none⟩ = some (.int .i64 mc) := hR2.cell (i := 7) (by omega)
  have u8 : W2.cell? ⟨w.heap.size, 8, none⟩ = some (.int .i64 p) := hR2.cell (i := 8) (by omega)
  have u9 : W2.cell? ⟨w.heap.size, 9, none⟩ = some (.bool zd) := hR2.cell (i := 9) (by omega)
  have u10 : W2.cell? ⟨w.heap.size, 10, none⟩ = some (.int .i64 z) := hR2.cell (i := 10) (by omega)
  have x0 : W2.cell? ⟨w.heap.size + 1, 1, none⟩ = some (.int .i64 m) := hD2.cell (i := 1) (by omega)
  have x1 : W2.cell? ⟨w.heap.size + 1, 2, none⟩ = some (.int .i64 d) := hD2.cell (i := 2) (by omega)
  clear hb2 hR2 hD2 c35 a0 a1 a2 a3 a4 a5 a6 a7 a8 a9 a10 q0 q1 q2 q3 q4 q5 q6 q7 q8 q9 q10 e0 e1 e2 hA
  go_wp2
  all_goals
    go_ret
    exact ⟨rfl, HB2.out⟩

set_option maxRecDepth 100000 in
set_option maxHeartbeats 2000000 in
theorem noMc (w : World) (y m d h mi sc mc p : Int) (zd : Bool) (z : Int) (hu : uf y m d = -1) (hd : d ≠ 1) : Calls Tryd.prog 51 #[mv y m d 2 h mi sc mc p zd z] w fun e w' => e = .returned (.int .i64 0) ∧ Below w.heap.size w w' := by
  obtain ⟨W, hW⟩ : ∃ W, w.alloc (.cells #[.int .i64 y, .int .i64 m, .int .i64 d, .int .i64 2, .int .i64 h, .int .i64 mi, .int .i64 sc, .int .i64 mc, .int .i64 p, .bool zd, .int .i64 z] 50) = W := ⟨_, rfl⟩
  obtain ⟨W1, hW1⟩ : ∃ W1, W.alloc (.cells #[.int .i64 y, .int .i64 m, .int .i64 d] 23) = W1 := ⟨_, rfl⟩
  have hsW : W.heap.size = w.heap.size + 1 := by rw [← hW]; simp
  have HB : Hid (Below w.heap.size w W1) := by
    show Below _ _ _
    rw [← hW1, ← hW]
    exact ((Below.refl _ _).alloc (Nat.le_refl _) _).alloc (by simp) _
  have HRW : Hid (W1.rowIs w.heap.size 50 11 (mf y m d 2 h mi sc mc p zd z)) := by
    show W1.rowIs _ _ _ _
    rw [← hW1]
    refine World.rowIs.alloc ?_ _
    rw [← hW]; exact World.rowIs_alloc w _ 50 _ (row_lit _)
  have HRD : Hid (W1.rowIs (w.heap.size + 1) 23 3 (f3 y m d)) := by
    show W1.rowIs _ _ _ _
    rw [← hW1, ← hsW]
    exact World.rowIs_alloc W _ 23 _ (fun i hi => by
      rcases (by simp at hi; omega : i = 0 ∨ i = 1 ∨ i = 2) with rfl | rfl | rfl <;> rfl)
  have hA : W.rowIs w.heap.size 50 11 (mf y m d 2 h mi sc mc p zd z) := by rw [← hW]; exact World.rowIs_alloc w _ 50 _ (row_lit _)
  have a0 : W.cell? ⟨w.heap.size, 0, none⟩ = some (.int .i64 y) := hA.cell (i := 0) (by omega)
  have a1 : W.cell? ⟨w.heap.size, 1, none⟩ = some (.int .i64 m) := hA.cell (i := 1) (by omega)
  have a2 : W.cell? ⟨w.heap.size, 2, none⟩ = some (.int .i64 d) := hA.cell (i := 2) (by omega)
  have a3 : W.cell? ⟨w.heap.size, 3, none⟩ = some (.int .i64 2) := hA.cell (i := 3) (by omega)
  have a4 : W.cell? ⟨w.heap.size, 4, none⟩ = some (.int .i64 h) := hA.cell (i := 4) (by omega)
  have a5 : W.cell? ⟨w.heap.size, 5, none⟩ = some (.int .i64 mi) := hA.cell (i := 5) (by omega)
  have a6 : W.cell? ⟨w.heap.size, 6, none⟩ = some (.int .i64 sc) := hA.cell (i := 6) (by omega)
  have a7 : W.cell? ⟨w.heap.size, 7, none⟩ = some (.int .i64 mc) := hA.cell (i := 7) (by omega)
  have a8 : W.cell? ⟨w.heap.size, 8, none⟩ = some (.int .i64 p) := hA.cell (i := 8) (by omega)
  have a9 : W.cell? ⟨w.heap.size, 9, none⟩ = some (.bool zd) := hA.cell (i := 9) (by omega)
  have a10 : W.cell? ⟨w.heap.size, 10, none⟩ = some (.int .i64 z) := hA.cell (i := 10) (by omega)
  have q0 : W1.cell? ⟨w.heap.size, 0, none⟩ = some (.int .i64 y) := HRW.out.cell (i := 0) (by omega)
  have q1 : W1.cell? ⟨w.heap.size, 1, none⟩ = some (.int .i64 m) := HRW.out.cell (i := 1) (by omega)
  have q2 : W1.cell? ⟨w.heap.size, 2, none⟩ = some (.int .i64 d) := HRW.out.cell (i := 2) (by omega)
  have q3 : W1.cell? ⟨w.heap.size, 3, none⟩ = some (.int .i64 2) := HRW.out.cell (i := 3) (by omega)
  have q4 : W1.cell? ⟨w.heap.size, 4, none⟩ = some (.int .i64 h) := HRW.out.cell (i := 4) (by omega)
  have q5 : W1.cell? ⟨w.heap.size, 5, none⟩ = some (.int .i64 mi) := HRW.out.cell (i := 5) (by omega)
  have q6 : W1.cell? ⟨w.heap.size, 6, none⟩ = some (.int .i64 sc) := HRW.out.cell (i := 6) (by omega)
  have q7 : W1.cell? ⟨w.heap.size, 7, none⟩ = some (.int .i64 mc) := HRW.out.cell (i := 7) (by omega)
  have q8 : W1.cell? ⟨w.heap.size, 8, none⟩ = some (.int .i64 p) := HRW.out.cell (i := 8) (by omega)
  have q9 : W1.cell? ⟨w.heap.size, 9, none⟩ = some (.bool zd) := HRW.out.cell (i := 9) (by omega)
  have q10 : W1.cell? ⟨w.heap.size, 10, none⟩ = some (.int .i64 z) := HRW.out.cell (i := 10) (by omega)
  have e0 : W1.cell? ⟨w.heap.size + 1, 0, none⟩ = some (.int .i64 y) := HRD.out.cell (i := 0) (by omega)
  have e1 : W1.cell? ⟨w.heap.size + 1, 1, none⟩ = some (.int .i64 m) := HRD.out.cell (i := 1) (by omega)
  have e2 : W1.cell? ⟨w.heap.size + 1, 2, none⟩ = some (.int .i64 d) := HRD.out.cell (i := 2) (by omega)
  have c35 := dayNo_any W1 y m d
  unfold mv
  unfold dv at c35
  rw [hu] at c35
  clear hu
  have hd0 : (d != 1) = true := by simpa using hd
  clear hd
  go_enter Tryd.func51, Tryd.ntmps51
  go_wp2_with (go_at_call 35; refine Stop.mk ?_)
  refine Stop.out (c35.mono ?_)
  rintro e W2 ⟨rfl, hb2⟩
  have hR2 := row_on HRW.out hb2
  have hD2 := row_on HRD.out hb2
  have HR2 : Hid _ := hR2
  have HB2 : Hid (Below w.heap.size w W2) := HB.out.trans (hb2.mono HB.out.size)
  have u0 : W2.cell? ⟨w.heap.size, 0, none⟩ = some (.int .i64 y) := hR2.cell (i := 0) (by omega)
  have u1 : W2.cell? ⟨w.heap.size, 1, none⟩ = some (.int .i64 m) := hR2.cell (i := 1) (by omega)
  have u2 : W2.cell? ⟨w.heap.size, 2, none⟩ = some (.int .i64 d) := hR2.cell (i := 2) (by omega)
  have u3 : W2.cell? ⟨w.heap.size, 3, none⟩ = some (.int .i64 2) := hR2.cell (i := 3) (by omega)
  have u4 : W2.cell? ⟨w.heap.size, 4, none⟩ = some (.int .i64 h) := hR2.cell (i := 4) (by omega)
  have u5 : W2.cell? ⟨w.heap.size, 5, none⟩ = some (.int .i64 mi) := hR2.cell (i := 5) (by omega)
  have u6 : W2.cell? ⟨w.heap.size, 6, none⟩ = some (.int .i64 sc) := hR2.cell (i := 6) (by omega)
  have u7 : W2.cell? ⟨w.heap.size, 7, none⟩ = some (.int .i64 mc) := hR2.cell (i := 7) (by omega)
  have u8 : W2.cell? ⟨w.heap.size, 8, none⟩ = some (.int .i64 p) := hR2.cell (i := 8) (by omega)
  have u9 : W2.cell? ⟨w.heap.size, 9, none⟩ = some (.bool zd) := hR2.cell (i := 9) (by omega)
  have u10 : W2.cell? ⟨w.heap.size, 10, none⟩ = some (.int .i64 z) := hR2.cell (i := 10) (by omega)
  have x0 : W2.cell? ⟨w.heap.size + 1, 1, none⟩ = some (.int .i64 m) := hD2.cell (i := 1) (by omega)
  have x1 : W2.cell? ⟨w.heap.size + 1, 2, none⟩ = some (.int .i64 d) := hD2.cell (i := 2) (by omega)
  clear hb2 hR2 hD2 c35 a0 a1 a2 a3 a4 a5 a6 a7 a8 a9 a10 q0 q1 q2 q3 q4 q5 q6 q7 q8 q9 q10 e0 e1 e2 hA
  go_wp2
  all_goals
    go_ret
    exact ⟨rfl, HB2.out⟩

set_option maxRecDepth 100000 in
set_option maxHeartbeats 2000000 in
theorem noMd (w : World) (y m d dp h mi sc mc p : Int) (zd : Bool) (z : Int) (hu : uf y m d = -1) (hdp : dp < 1) : Calls Tryd.prog 51 #[mv y m d dp h mi sc mc p zd z] w fun e w' => e = .returned (.int .i64 1) ∧ Below w.heap.size w w' := by
  obtain ⟨W, hW⟩ : ∃ W, w.alloc (.cells #[.int .i64 y, .int .i64 m, .int .i64 d, .int .i64 dp, .int .i64 h, .int .i64 mi, .int .i64 sc, .int .i64 mc, .int .i64 p, .bool zd, .int .i64 z] 50) = W := ⟨_, rfl⟩
  obtain ⟨W1, hW1⟩ : ∃ W1, W.alloc (.cells #[.int .i64 y, .int .i64 m, .int .i64 d] 23) = W1 := ⟨_, rfl⟩
  have hsW : W.heap.size = w.heap.size + 1 := by rw [← hW]; simp
  have HB : Hid (Below w.heap.size w W1) := by
    show Below _ _ _
    rw [← hW1, ← hW]
    exact ((Below.refl _ _).alloc (Nat.le_refl _) _).alloc (by simp) _
  have HRW : Hid (W1.rowIs w.heap.size 50 11 (mf y m d dp h mi sc mc p zd z)) := by
    show W1.rowIs _ _ _ _
    rw [← hW1]
    refine World.rowIs.alloc ?_ _
    rw [← hW]; exact World.rowIs_alloc w _ 50 _ (row_lit _)
  have HRD : Hid (W1.rowIs (w.heap.size + 1) 23 3 (f3 y m d)) := by
    show W1.rowIs _ _ _ _
    rw [← hW1, ← hsW]
    exact World.rowIs_alloc W _ 23 _ (fun i hi => by
      rcases (by simp at hi; omega : i = 0 ∨ i = 1 ∨ i = 2) with rfl | rfl | rfl <;> rfl)
  have hA : W.rowIs w.heap.size 50 11 (mf y m d dp h mi sc mc p zd z) := by rw [← hW]; exact World.rowIs_alloc w _ 50 _ (row_lit _)
  have a0 : W.cell? ⟨w.heap.size, 0, none⟩ = some (.int .i64 y) := hA.cell (i := 0) (by omega)
  have a1 : W.cell? ⟨w.heap.size, 1, none⟩ = some (.int .i64 m) := hA.cell (i := 1) (by omega)
  have a2 : W.cell? ⟨w.heap.size, 2, none⟩ = some (.int .i64 d) := hA.cell (i := 2) (by omega)
  have a3 : W.cell? ⟨w.heap.size, 3, none⟩ = some (.int .i64 dp) := hA.cell (i := 3) (by omega)
  have a4 : W.cell? ⟨w.heap.size, 4, none⟩ = some (.int .i64 h) := hA.cell (i := 4) (by omega)
  have a5 : W.cell? ⟨w.heap.size, 5, none⟩ = some (.int .i64 mi) := hA.cell (i := 5) (by omega)
  have a6 : W.cell? ⟨w.heap.size, 6, none⟩ = some (.int .i64 sc) := hA.cell (i := 6) (by omega)
  have a7 : W.cell? ⟨w.heap.size, 7, none⟩ = some (.int .i64 mc) := hA.cell (i := 7) (by omega)
  have a8 : W.cell? ⟨w.heap.size, 8, none⟩ = some (.int .i64 p) := hA.cell (i := 8) (by omega)
  have a9 : W.cell? ⟨w.heap.size, 9, none⟩ = some (.bool zd) := hA.cell (i := 9) (by omega)
  have a10 : W.cell? ⟨w.heap.size, 10, none⟩ = some (.int .i64 z) := hA.cell (i := 10) (by omega)
  have q0 : W1.cell? ⟨w.heap.size, 0, none⟩ = some (.int .i64 y) := HRW.out.cell (i := 0) (by omega)
  have q1 : W1.cell? ⟨w.heap.size, 1, none⟩ = some (.int .i64 m) := HRW.out.cell (i := 1) (by omega)
  have q2 : W1.cell? ⟨w.heap.size, 2, none⟩ = some (.int .i64 d) := HRW.out.cell (i := 2) (by omega)
  have q3 : W1.cell? ⟨w.heap.size, 3, none⟩ = some (.int .i64 dp) := HRW.out.cell (i := 3) (by omega)
  have q4 : W1.cell? ⟨w.heap.size, 4, none⟩ = some (.int .i64 h) := HRW.out.cell (i := 4) (by omega)
  have q5 : W1.cell? ⟨w.heap.size, 5, none⟩ = some (.int .i64 mi) := HRW.out.cell (i := 5) (by omega)
  have q6 : W1.cell? ⟨w.heap.size, 6, none⟩ = some (.int .i64 sc) := HRW.out.cell (i := 6) (by omega)
  have q7 : W1.cell? ⟨w.heap.size, 7, none⟩ = some (.int .i64 mc) := HRW.out.cell (i := 7) (by omega)
  have q8 : W1.cell? ⟨w.heap.size, 8, none⟩ = some (.int .i64 p) := HRW.out.cell (i := 8) (by omega)
  have q9 : W1.cell? ⟨w.heap.size, 9, none⟩ = some (.bool zd) := HRW.out.cell (i := 9) (by omega)
  have q10 : W1.cell? ⟨w.heap.size, 10, none⟩ = some (.int .i64 z) := HRW.out.cell (i := 10) (by omega)
  have e0 : W1.cell? ⟨w.heap.size + 1, 0, none⟩ = some (.int .i64 y) := HRD.out.cell (i := 0) (by omega)
  have e1 : W1.cell? ⟨w.heap.size + 1, 1, none⟩ = some (.int .i64 m) := HRD.out.cell (i := 1) (by omega)
  have e2 : W1.cell? ⟨w.heap.size + 1, 2, none⟩ = some (.int .i64 d) := HRD.out.cell (i := 2) (by omega)
  have c35 := dayNo_any W1 y m d
  unfold mv
  unfold dv at c35
  rw [hu] at c35
  clear hu
  have h1 : decide ((1 : Int) ≤ dp) = false := by simp; omega
  have h2 : decide (dp < 1) = true := by simp; omega
  clear hdp
  go_enter Tryd.func51, Tryd.ntmps51
  go_wp2_with (go_at_call 35; refine Stop.mk ?_)
  refine Stop.out (c35.mono ?_)
  rintro e W2 ⟨rfl, hb2⟩
  have hR2 := row_on HRW.out hb2
  have hD2 := row_on HRD.out hb2
  have HR2 : Hid _ := hR2
  have HB2 : Hid (Below w.heap.size w W2) := HB.out.trans (hb2.mono HB.out.size)
  have u0 : W2.cell? ⟨w.heap.size, 0, none⟩ = some (.int .i64 y) := hR2.cell (i := 0) (by omega)
  have u1 : W2.cell? ⟨w.heap.size, 1, none⟩ = some (.int .i64 m) := hR2.cell (i := 1) (by omega)
  have u2 : W2.cell? ⟨w.heap.size, 2, none⟩ = some (.int .i64 d) := hR2.cell (i := 2) (by omega)
  have u3 : W2.cell? ⟨w.heap.size, 3, none⟩ = some (.int .i64 dp) := hR2.cell (i := 3) (by omega)
  have u4 : W2.cell? ⟨w.heap.size, 4, none⟩ = some (.int .i64 h) := hR2.cell (i := 4) (by omega)
  have u5 : W2.cell? ⟨w.heap.size, 5, none⟩ = some (.int .i64 mi) := hR2.cell (i := 5) (by omega)
  have u6 : W2.cell? ⟨w.heap.size, 6, none⟩ = some (.int .i64 sc) := hR2.cell (i := 6) (by omega)
  have u7 : W2.cell? ⟨w.heap.size, 7, none⟩ = some (.int .i64 mc) := hR2.cell (i := 7) (by omega)
  have u8 : W2.cell? ⟨w.heap.size, 8, none⟩ = some (.int .i64 p) := hR2.cell (i := 8) (by omega)
  have u9 : W2.cell? ⟨w.heap.size, 9, none⟩ = some (.bool zd) := hR2.cell (i := 9) (by omega)
  have u10 : W2.cell? ⟨w.heap.size, 10, none⟩ = some (.int .i64 z) := hR2.cell (i := 10) (by omega)
  have x0 : W2.cell? ⟨w.heap.size + 1, 1, none⟩ = some (.int .i64 m) := hD2.cell (i := 1) (by omega)
  have x1 : W2.cell? ⟨w.heap.size + 1, 2, none⟩ = some (.int .i64 d) := hD2.cell (i := 2) (by omega)
  clear hb2 hR2 hD2 c35 a0 a1 a2 a3 a4 a5 a6 a7 a8 a9 a10 q0 q1 q2 q3 q4 q5 q6 q7 q8 q9 q10 e0 e1 e2 hA
  go_wp2
  all_goals
    go_ret
    exact ⟨rfl, HB2.out⟩

set_option maxRecDepth 100000 in
set_option maxHeartbeats 2000000 in
theorem noMe (w : World) (y m d dp h mi sc mc p : Int) (zd : Bool) (z : Int) (hu : uf y m d = -1) (hdp : 3 < dp) : Calls Tryd.prog 51 #[mv y m d dp h mi sc mc p zd z] w fun e w' => e = .returned (.int .i64 1) ∧ Below w.heap.size w w' := by
  obtain ⟨W, hW⟩ : ∃ W, w.alloc (.cells #[.int .i64 y, .int .i64 m, .int .i64 d, .int .i64 dp, .int .i64 h, .int .i64 mi, .int .i64 sc, .int .i64 mc, .int .i64 p, .bool zd, .int .i64 z] 50) = W := ⟨_, rfl⟩
  obtain ⟨W1, hW1⟩ : ∃ W1, W.alloc (.cells #[.int .i64 y, .int .i64 m, .int .i64 d] 23) = W1 := ⟨_, rfl⟩
  have hsW : W.heap.size = w.heap.size + 1 := by rw [← hW]; simp
  have HB : Hid (Below w.heap.size w W1) := by
    show Below _ _ _
    rw [← hW1, ← hW]
    exact ((Below.refl _ _).alloc (Nat.le_refl _) _).alloc (by simp) _
  have HRW : Hid (W1.rowIs w.heap.size 50 11 (mf y m d dp h mi sc mc p zd z)) := by
    show W1.rowIs _ _ _ _
    rw [← hW1]
    refine World.rowIs.alloc ?_ _
    rw [← hW]; exact World.rowIs_alloc w _ 50 _ (row_lit _)
  have HRD : Hid (W1.rowIs (w.heap.size + 1) 23 3 (f3 y m d)) := by
    show W1.rowIs _ _ _ _
    rw [← hW1, ← hsW]
    exact World.rowIs_alloc W _ 23 _ (fun i hi => by
      rcases (by simp at hi; omega : i = 0 ∨ i = 1 ∨ i = 2) with rfl | rfl | rfl <;> rfl)
  have hA : W.rowIs w.heap.size 50 11 (mf y m d dp h mi sc mc p zd z) := by rw [← hW]; exact World.rowIs_alloc w _ 50 _ (row_lit _)
  have a0 : W.cell? ⟨w.heap.size, 0, none⟩ = some (.int .i64 y) := hA.cell (i := 0) (by omega)
  have a1 : W.cell? ⟨w.heap.size, 1, none⟩ = some (.int .i64 m) := hA.cell (i := 1) (by omega)
  have a2 : W.cell? ⟨w.heap.size, 2, none⟩ = some (.int .i64 d) := hA.cell (i := 2) (by omega)
  have a3 : W.cell? ⟨w.heap.size, 3, none⟩ = some (.int .i64 dp) := hA.cell (i := 3) (by omega)
  have a4 : W.cell? ⟨w.heap.size, 4, none⟩ = some (.int .i64 h) := hA.cell (i := 4) (by omega)
  have a5 : W.cell? ⟨w.heap.size, 5, none⟩ = some (.int .i64 mi) := hA.cell (i := 5) (by omega)
  have a6 : W.cell? ⟨w.heap.size, 6, none⟩ = some (.int .i64 sc) := hA.cell (i := 6) (by omega)
  have a7 : W.cell? ⟨w.heap.size, 7, none⟩ = some (.int .i64 mc) := hA.cell (i := 7) (by omega)
  have a8 : W.cell? ⟨w.heap.size, 8, none⟩ = some (.int .i64 p) := hA.cell (i := 8) (by omega)
  have a9 : W.cell? ⟨w.heap.size, 9, none⟩ = some (.bool zd) := hA.cell (i := 9) (by omega)
  have a10 : W.cell? ⟨w.heap.size, 10, none⟩ = some (.int .i64 z) := hA.cell (i := 10) (by omega)
  have q0 : W1.cell? ⟨w.heap.size, 0, none⟩ = some (.int .i64 y) := HRW.out.cell (i := 0) (by omega)
  have q1 : W1.cell? ⟨w.heap.size, 1, none⟩ = some (.int .i64 m) := HRW.out.cell (i := 1) (by omega)
  have q2 : W1.cell? ⟨w.heap.size, 2, none⟩ = some (.int .i64 d) := HRW.out.cell (i := 2) (by omega)
  have q3 : W1.cell? ⟨w.heap.size, 3, none⟩ = some (.int .i64 dp) := HRW.out.cell (i := 3) (by omega)
  have q4 : W1.cell? ⟨w.heap.size, 4, none⟩ = some (.int .i64 h) := HRW.out.cell (i := 4) (by omega)
  have q5 : W1.cell? ⟨w.heap.size, 5, none⟩ = some (.int .i64 mi) := HRW.out.cell (i := 5) (by omega)
  have q6 : W1.cell? ⟨w.heap.size, 6, none⟩ = some (.int .i64 sc) := HRW.out.cell (i := 6) (by omega)
  have q7 : W1.cell? ⟨w.heap.size, 7, none⟩ = some (.int .i64 mc) := HRW.out.cell (i := 7) (by omega)
  have q8 : W1.cell? ⟨w.heap.size, 8, none⟩ = some (.int .i64 p) := HRW.out.cell (i := 8) (by omega)
  have q9 : W1.cell? ⟨w.heap.size, 9, none⟩ = some (.bool zd) := HRW.out.cell (i := 9) (by omega)
  have q10 : W1.cell? ⟨w.heap.size, 10, none⟩ = some (.int .i64 z) := HRW.out.cell (i := 10) (by omega)
  have e0 : W1.cell? ⟨w.heap.size + 1, 0, none⟩ = some (.int .i64 y) := HRD.out.cell (i := 0) (by omega)
  have e1 : W1.cell? ⟨w.heap.size + 1, 1, none⟩ = some (.int .i64 m) := HRD.out.cell (i := 1) (by omega)
  have e2 : W1.cell? ⟨w.heap.size + 1, 2, none⟩ = some (.int .i64 d) := HRD.out.cell (i := 2) (by omega)
  have c35 := dayNo_any W1 y m d
  unfold mv
  unfold dv at c35
  rw [hu] at c35
  clear hu
  have h1 : decide ((1 : Int) ≤ dp) = true := by simp; omega
  have h2 : decide (dp < 1) = false := by simp; omega
  have h3 : decide (dp ≤ 3) = false := by simp; omega
  have h4 : decide (3 < dp) = true := by simp; omega
  clear hdp
  go_enter Tryd.func51, Tryd.ntmps51
  go_wp2_with (go_at_call 35; refine Stop.mk ?_)
  refine Stop.out (c35.mono ?_)
  rintro e W2 ⟨rfl, hb2⟩
  have hR2 := row_on HRW.out hb2
  have hD2 := row_on HRD.out hb2
  have HR2 : Hid _ := hR2
  have HB2 : Hid (Below w.heap.size w W2) := HB.out.trans (hb2.mono HB.out.size)
  have u0 : W2.cell? ⟨w.heap.size, 0, none⟩ = some (.int .i64 y) := hR2.cell (i := 0) (by omega)
  have u1 : W2.cell? ⟨w.heap.size, 1, none⟩ = some (.int .i64 m) := hR2.cell (i := 1) (by omega)
  have u2 : W2.cell? ⟨w.heap.size, 2, none⟩ = some (.int .i64 d) := hR2.cell (i := 2) (by omega)
  have u3 : W2.cell? ⟨w.heap.size, 3, none⟩ = some (.int .i64 dp) := hR2.cell (i := 3) (by omega)
  have u4 : W2.cell? ⟨w.heap.size, 4, none⟩ = some (.int .i64 h) := hR2.cell (i := 4) (by omega)
  have u5 : W2.cell? ⟨w.heap.size, 5, none⟩ = some (.int .i64 mi) := hR2.cell (i := 5) (by omega)
  have u6 : W2.cell? ⟨w.heap.size, 6, none⟩ = some (.int .i64 sc) := hR2.cell (i := 6) (by omega)
  have u7 : W2.cell? ⟨w.heap.size, 7, none⟩ = some (.int .i64 mc) := hR2.cell (i := 7) (by omega)
  have u8 : W2.cell? ⟨w.heap.size, 8, none⟩ = some (.int .i64 p) := hR2.cell (i := 8) (by omega)
  have u9 : W2.cell? ⟨w.heap.size, 9, none⟩ = some (.bool zd) := hR2.cell (i := 9) (by omega)
  have u10 : W2.cell? ⟨w.heap.size, 10, none⟩ = some (.int .i64 z) := hR2.cell (i := 10) (by omega)
  have x0 : W2.cell? ⟨w.heap.size + 1, 1, none⟩ = some (.int .i64 m) := hD2.cell (i := 1) (by omega)
  have x1 : W2.cell? ⟨w.heap.size + 1, 2, none⟩ = some (.int .i64 d) := hD2.cell (i := 2) (by omega)
  clear hb2 hR2 hD2 c35 a0 a1 a2 a3 a4 a5 a6 a7 a8 a9 a10 q0 q1 q2 q3 q4 q5 q6 q7 q8 q9 q10 e0 e1 e2 hA
  go_wp2
  all_goals
    go_ret
    exact ⟨rfl, HB2.out⟩

set_option maxRecDepth 100000 in
set_option maxHeartbeats 2000000 in
theorem noMf (w : World) (y m d h mi sc mc p : Int) (zd : Bool) (z : Int) (hu : uf y m d = -1) (hm : m = 1) (hd : d = 1) (hp : p ≠ 0) : Calls Tryd.prog 51 #[mv y m d 1 h mi sc mc p zd z] w fun e w' => e = .returned (.int .i64 2) ∧ Below w.heap.size w w' := by
  obtain ⟨W, hW⟩ : ∃ W, w.alloc (.cells #[.int .i64 y, .int .i64 m, .int .i64 d, .int .i64 1, .int .i64 h, .int .i64 mi, .int .i64 sc, .int .i64 mc, .int .i64 p, .bool zd, .int .i64 z] 50) = W := ⟨_, rfl⟩
  obtain ⟨W1, hW1⟩ : ∃ W1, W.alloc (.cells #[.int .i64 y, .int .i64 m, .int .i64 d] 23) = W1 := ⟨_, rfl⟩
  have hsW : W.heap.size = w.heap.size + 1 := by rw [← hW]; simp
  have HB : Hid (Below w.heap.size w W1) := by
    show Below _ _ _
    rw [← hW1, ← hW]
    exact ((Below.refl _ _).alloc (Nat.le_refl _) _).alloc (by simp) _
  have HRW : Hid (W1.rowIs w.heap.size 50 11 (mf y m d 1 h mi sc mc p zd z)) := by
    show W1.rowIs _ _ _ _
    rw [← hW1]
    refine World.rowIs.alloc ?_ _
    rw [← hW]; exact World.rowIs_alloc w _ 50 _ (row_lit _)
  have HRD : Hid (W1.rowIs (w.heap.size + 1) 23 3 (f3 y m d)) := by
    show W1.rowIs _ _ _ _
    rw [← hW1, ← hsW]
    exact World.rowIs_alloc W _ 23 _ (fun i hi => by
      rcases (by simp at hi; omega : i = 0 ∨ i = 1 ∨ i = 2) with rfl | rfl | rfl <;> rfl)
  have hA : W.rowIs w.heap.size 50 11 (mf y m d 1 h mi sc mc p zd z) := by rw [← hW]; exact World.rowIs_alloc w _ 50 _ (row_lit _)
  have a0 : W.cell? ⟨w.heap.size, 0, none⟩ = some (.int .i64 y) := hA.cell (i := 0) (by omega)
  have a1 : W.cell? ⟨w.heap.size, 1, none⟩ = some (.int .i64 m) := hA.cell (i := 1) (by omega)
  have a2 : W.cell? ⟨w.heap.size, 2, none⟩ = some (.int .i64 d) := hA.cell (i := 2) (by omega)
  have a3 : W.cell? ⟨w.heap.size, 3, none⟩ = some (.int .i64 1) := hA.cell (i := 3) (by omega)
  have a4 : W.cell? ⟨w.heap.size, 4, none⟩ = some (.int .i64 h) := hA.cell (i := 4) (by omega)
  have a5 : W.cell? ⟨w.heap.size, 5, none⟩ = some (.int .i64 mi) := hA.cell (i := 5) (by omega)
  have a6 : W.cell? ⟨w.heap.size, 6, none⟩ = some (.int .i64 sc) := hA.cell (i := 6) (by omega)
  have a7 : W.cell? ⟨w.heap.size, 7, none⟩ = some (.int .i64 mc) := hA.cell (i := 7) (by omega)
  have a8 : W.cell? ⟨w.heap.size, 8, none⟩ = some (.int .i64 p) := hA.cell (i := 8) (by omega)
  have a9 : W.cell? ⟨w.heap.size, 9, none⟩ = some (.bool zd) := hA.cell (i := 9) (by omega)
  have a10 : W.cell? ⟨w.heap.size, 10, none⟩ = some (.int .i64 z) := hA.cell (i := 10) (by omega)
  have q0 : W1.cell? ⟨w.heap.size, 0, none⟩ = some (.int .i64 y) := HRW.out.cell (i := 0) (by omega)
  have q1 : W1.cell? ⟨w.heap.size, 1, none⟩ = some (.int .i64 m) := HRW.out.cell (i := 1) (by omega)
  have q2 : W1.cell? ⟨w.heap.size, 2, none⟩ = some (.int .i64 d) := HRW.out.cell (i := 2) (by omega)
  have q3 : W1.cell? ⟨w.heap.size, 3, none⟩ = some (.int .i64 1) := HRW.out.cell (i := 3) (by omega)
  have q4 : W1.cell? ⟨w.heap.size, 4, none⟩ = some (.int .i64 h) := HRW.out.cell (i := 4) (by omega)
  have q5 : W1.cell? ⟨w.heap.size, 5, none⟩ = some (.int .i64 mi) := HRW.out.cell (i := 5) (by omega)
  have q6 : W1.cell? ⟨w.heap.size, 6, none⟩ = some (.int .i64 sc) := HRW.out.cell (i := 6) (by omega)
  have q7 : W1.cell? ⟨w.heap.size, 7, none⟩ = some (.int .i64 mc) := HRW.out.cell (i := 7) (by omega)
  have q8 : W1.cell? ⟨w.heap.size, 8, none⟩ = some (.int .i64 p) := HRW.out.cell (i := 8) (by omega)
  have q9 : W1.cell? ⟨w.heap.size, 9, none⟩ = some (.bool zd) := HRW.out.cell (i := 9) (by omega)
  have q10 : W1.cell? ⟨w.heap.size, 10, none⟩ = some (.int .i64 z) := HRW.out.cell (i := 10) (by omega)
  have e0 : W1.cell? ⟨w.heap.size + 1, 0, none⟩ = some (.int .i64 y) := HRD.out.cell (i := 0) (by omega)
  have e1 : W1.cell? ⟨w.heap.size + 1, 1, none⟩ = some (.int .i64 m) := HRD.out.cell (i := 1) (by omega)
  have e2 : W1.cell? ⟨w.heap.size + 1, 2, none⟩ = some (.int .i64 d) := HRD.out.cell (i := 2) (by omega)
  have c35 := dayNo_any W1 y m d
  unfold mv
  unfold dv at c35
  rw [hu] at c35
  clear hu
  have hm0 : (m != 1) = false := by simpa using hm
  have hd0 : (d != 1) = false := by simpa using hd
  have hp0 : (p == 0) = false := by simpa using hp
  have hp1 : (p != 0) = true := by simpa using hp
  clear hm hd hp
  go_enter Tryd.func51, Tryd.ntmps51
  go_wp2_with (go_at_call 35; refine Stop.mk ?_)
  refine Stop.out (c35.mono ?_)
  rintro e W2 ⟨rfl, hb2⟩
  have hR2 := row_on HRW.out hb2
  have hD2 := row_on HRD.out hb2
  have HR2 : Hid _ := hR2
  have HB2 : Hid (Below w.heap.size w W2) := HB.out.trans (hb2.mono HB.out.size)
  have u0 : W2.cell? ⟨w.heap.size, 0, none⟩ = some (.int .i64 y) := hR2.cell (i := 0) (by omega)
  have u1 : W2.cell? ⟨w.heap.size, 1, none⟩ = some (.int .i64 m) := hR2.cell (i := 1) (by omega)
  have u2 : W2.cell? ⟨w.heap.size, 2, none⟩ = some (.int .i64 d) := hR2.cell (i := 2) (by omega)
  have u3 : W2.cell? ⟨w.heap.size, 3, none⟩ = some (.int .i64 1) := hR2.cell (i := 3) (by omega)
  have u4 : W2.cell? ⟨w.heap.size, 4, none⟩ = some (.int .i64 h) := hR2.cell (i := 4) (by omega)
  have u5 : W2.cell? ⟨w.heap.size, 5, none⟩ = some (.int .i64 mi) := hR2.cell (i := 5) (by omega)
  have u6 : W2.cell? ⟨w.heap.size, 6, none⟩ = some (.int .i64 sc) := hR2.cell (i := 6) (by omega)
  have u7 : W2.cell? ⟨w.heap.size, 7, none⟩ = some (.int .i64 mc) := hR2.cell (i := 7) (by omega)
  have u8 : W2.cell? ⟨w.heap.size, 8, none⟩ = some (.int .i64 p) := hR2.cell (i := 8) (by omega)
  have u9 : W2.cell? ⟨w.heap.size, 9, none⟩ = some (.bool zd) := hR2.cell (i := 9) (by omega)
  have u10 : W2.cell? ⟨w.heap.size, 10, none⟩ = some (.int .i64 z) := hR2.cell (i := 10) (by omega)
  have x0 : W2.cell? ⟨w.heap.size + 1, 1, none⟩ = some (.int .i64 m) := hD2.cell (i := 1) (by omega)
  have x1 : W2.cell? ⟨w.heap.size + 1, 2, none⟩ = some (.int .i64 d) := hD2.cell (i := 2) (by omega)
  clear hb2 hR2 hD2 c35 a0 a1 a2 a3 a4 a5 a6 a7 a8 a9 a10 q0 q1 q2 q3 q4 q5 q6 q7 q8 q9 q10 e0 e1 e2 hA
  go_wp2
  all_goals
    go_ret
    exact ⟨rfl, HB2.out⟩

set_option maxRecDepth 100000 in
set_option maxHeartbeats 2000000 in
theorem noMg (w : World) (y m d h mi sc mc p : Int) (zd : Bool) (z : Int) (hu : uf y m d = -1) (hd : d = 1) (hp : p ≠ 0) : Calls Tryd.prog 51 #[mv y m d 2 h mi sc mc p zd z] w fun e w' => e = .returned (.int .i64 2) ∧ Below w.heap.size w w' := by
  obtain ⟨W, hW⟩ : ∃ W, w.alloc (.cells #[.int .i64 y, .int .i64 m, .int .i64 d, .int .i64 2, .int .i64 h, .int .i64 mi, .int .i64 sc, .int .i64 mc, .int .i64 p, .bool zd, .int .i64 z] 50) = W := ⟨_, rfl⟩
  obtain ⟨W1, hW1⟩ : ∃ W1, W.alloc (.cells #[.int .i64 y, .int .i64 m, .int .i64 d] 23) = W1 := ⟨_, rfl⟩
  have hsW : W.heap.size = w.heap.size + 1 := by rw [← hW]; simp
  have HB : Hid (Below w.heap.size w W1) := by
    show Below _ _ _
    rw [← hW1, ← hW]
    exact ((Below.refl _ _).alloc (Nat.le_refl _) _).alloc (by simp) _
  have HRW : Hid (W1.rowIs w.heap.size 50 11 (mf y m d 2 h mi sc mc p zd z)) := by
    show W1.rowIs _ _ _ _
    rw [← hW1]
    refine World.rowIs.alloc ?_ _
    rw [← hW]; exact World.rowIs_alloc w _ 50 _ (row_lit _)
  have HRD : Hid (W1.rowIs (w.heap.size + 1) 23 3 (f3 y m d)) := by
    show W1.rowIs _ _ _ _
    rw [← hW1, ← hsW]
    exact World.rowIs_alloc W _ 23 _ (fun i hi => by
      rcases (by simp at hi; omega : i = 0 ∨ i = 1 ∨ i = 2) with rfl | rfl | rfl <;> rfl)
  have hA : W.rowIs w.heap.size 50 11 (mf y m d 2 h mi sc mc p zd z) := by rw [← hW]; exact World.rowIs_alloc w _ 50 _ (row_lit _)
  have a0 : W.cell? ⟨w.heap.size, 0, none⟩ = some (.int .i64 y) := hA.cell (i := 0) (by omega)
  have a1 : W.cell? ⟨w.heap.size, 1, none⟩ = some (.int .i64 m) := hA.cell (i := 1) (by omega)
  have a2 : W.cell? ⟨w.heap.size, 2, none⟩ = some (.int .i64 d) := hA.cell (i := 2) (by omega)
  have a3 : W.cell? ⟨w.heap.size, 3, none⟩ = some (.int .i64 2) := hA.cell (i := 3) (by omega)
  have a4 : W.cell? ⟨w.heap.size, 4, none⟩ = some (.int .i64 h) := hA.cell (i := 4) (by omega)
  have a5 : W.cell? ⟨w.heap.size, 5, none⟩ = some (.int .i64 mi) := hA.cell (i := 5) (by omega)
  have a6 : W.cell? ⟨w.heap.size, 6, none⟩ = some (.int .i64 sc) := hA.cell (i := 6) (by omega)
  have a7 : W.cell? ⟨w.heap.size, 7, none⟩ = some (.int .i64 mc) := hA.cell (i := 7) (by omega)
  have a8 : W.cell? ⟨w.heap.size, 8, none⟩ = some (.int .i64 p) := hA.cell (i := 8) (by omega)
  have a9 : W.cell? ⟨w.heap.size, 9, none⟩ = some (.bool zd) := hA.cell (i := 9) (by omega)
  have a10 : W.cell? ⟨w.heap.size, 10, none⟩ = some (.int .i64 z) := hA.cell (i := 10) (by omega)
  have q0 : W1.cell? ⟨w.heap.size, 0, none⟩ = some (.int .i64 y) := HRW.out.cell (i := 0) (by omega)
  have q1 : W1.cell? ⟨w.heap.size, 1, none⟩ = some (.int .i64 m) := HRW.out.cell (i := 1) (by omega)
  have q2 : W1.cell? ⟨w.heap.size, 2, none⟩ = some (.int .i64 d) := HRW.out.cell (i := 2) (by omega)
  have q3 : W1.cell? ⟨w.heap.size, 3, none⟩ = some (.int .i64 2) := HRW.out.cell (i := 3) (by omega)
  have q4 : W1.cell? ⟨w.heap.size, 4, none⟩ = some (.int .i64 h) := HRW.out.cell (i := 4) (by omega)
  have q5 : W1.cell? ⟨w.heap.size, 5, none⟩ = some (.int .i64 mi) := HRW.out.cell (i := 5) (by omega)
  have q6 : W1.cell? ⟨w.heap.size, 6, none⟩ = some (.int .i64 sc) := HRW.out.cell (i := 6) (by omega)
  have q7 : W1.cell? ⟨w.heap.size, 7, none⟩ = some (.int .i64 mc) := HRW.out.cell (i := 7) (by omega)
  have q8 : W1.cell? ⟨w.heap.size, 8, none⟩ = some (.int .i64 p) := HRW.out.cell (i := 8) (by omega)
  have q9 : W1.cell? ⟨w.heap.size, 9, none⟩ = some (.bool zd) := HRW.out.cell (i := 9) (by omega)
  have q10 : W1.cell? ⟨w.heap.size, 10, none⟩ = some (.int .i64 z) := HRW.out.cell (i := 10) (by omega)
  have e0 : W1.cell? ⟨w.heap.size + 1, 0, none⟩ = some (.int .i64 y) := HRD.out.cell (i := 0) (by omega)
  have e1 : W1.cell? ⟨w.heap.size + 1, 1, none⟩ = some (.int .i64 m) := HRD.out.cell (i := 1) (by omega)
  have e2 : W1.cell? ⟨w.heap.size + 1, 2, none⟩ = some (.int .i64 d) := HRD.out.cell (i := 2) (by omega)
  have c35 := dayNo_any W1 y m d
  unfold mv
  unfold dv at c35
  rw [hu] at c35
  clear hu
  have hd0 : (d != 1) = false := by simpa using hd
  have hp0 : (p == 0) = false := by simpa using hp
  have hp1 : (p != 0) = true := by simpa using hp
  clear hd hp
  go_enter Tryd.func51, Tryd.ntmps51
  go_wp2_with (go_at_call 35; refine Stop.mk ?_)
  refine Stop.out (c35.mono ?_)
  rintro e W2 ⟨rfl, hb2⟩
  have hR2 := row_on HRW.out hb2
  have hD2 := row_on HRD.out hb2
  have HR2 : Hid _ := hR2
  have HB2 : Hid (Below w.heap.size w W2) := HB.out.trans (hb2.mono HB.out.size)
  have u0 : W2.cell? ⟨w.heap.size, 0, none⟩ = some (.int .i64 y) := hR2.cell (i := 0) (by omega)
  have u1 : W2.cell? ⟨w.heap.size, 1, none⟩ = some (.int .i64 m) := hR2.cell (i := 1) (by omega)
  have u2 : W2.cell? ⟨w.heap.size, 2, none⟩ = some (.int .i64 d) := hR2.cell (i := 2) (by omega)
  have u3 : W2.cell? ⟨w.heap.size, 3, none⟩ = some (.int .i64 2) := hR2.cell (i := 3) (by omega)
  have u4 : W2.cell? ⟨w.heap.size, 4, none⟩ = some (.int .i64 h) := hR2.cell (i := 4) (by omega)
  have u5 : W2.cell? ⟨w.heap.size, 5, none⟩ = some (.int .i64 mi) := hR2.cell (i := 5) (by omega)
  have u6 : W2.cell? ⟨w.heap.size, 6, none⟩ = some (.int .i64 sc) := hR2.cell (i := 6) (by omega)
  have u7 : W2.cell? ⟨w.heap.size, 7, none⟩ = some (.int .i64 mc) := hR2.cell (i := 7) (by omega)
  have u8 : W2.cell? ⟨w.heap.size, 8, none⟩ = some (.int .i64 p) := hR2.cell (i := 8) (by omega)
  have u9 : W2.cell? ⟨w.heap.size, 9, none⟩ = some (.bool zd) := hR2.cell (i := 9) (by omega)
  have u10 : W2.cell? ⟨w.heap.size, 10, none⟩ = some (.int .i64 z) := hR2.cell (i := 10) (by omega)
  have x0 : W2.cell? ⟨w.heap.size + 1, 1, none⟩ = some (.int .i64 m) := hD2.cell (i := 1) (by omega)
  have x1 : W2.cell? ⟨w.heap.size + 1, 2, none⟩ = some (.int .i64 d) := hD2.cell (i := 2) (by omega)
  clear hb2 hR2 hD2 c35 a0 a1 a2 a3 a4 a5 a6 a7 a8 a9 a10 q0 q1 q2 q3 q4 q5 q6 q7 q8 q9 q10 e0 e1 e2 hA
  go_wp2
  all_goals
    go_ret
    exact ⟨rfl, HB2.out⟩

set_option maxRecDepth 100000 in
set_option maxHeartbeats 4000000 in
theorem noM10_true (w : World) (y m d h mi sc mc : Int) (z : Int) (hu : uf y m d = -1) (hm : m = 1) (hd : d = 1) (R : Int) (hR : (if ¬ (h = 0 ∧ mi = 0 ∧ sc = 0 ∧ mc = 0) then 2 else if ¬ (-720 ≤ z ∧ z ≤ 840) then 4 else -1) = R) : Calls Tryd.prog 51 #[mv y m d 1 h mi sc mc 0 true z] w fun e w' => e = .returned (.int .i64 R) ∧ Below w.heap.size w w' := by
  obtain ⟨W, hW⟩ : ∃ W, w.alloc (.cells #[.int .i64 y, .int .i64 m, .int .i64 d, .int .i64 1, .int .i64 h, .int .i64 mi, .int .i64 sc, .int .i64 mc, .int .i64 0, .bool true, .int .i64 z] 50) = W := ⟨_, rfl⟩
  obtain ⟨W1, hW1⟩ : ∃ W1, W.alloc (.cells #[.int .i64 y, .int .i64 m, .int .i64 d] 23) = W1 := ⟨_, rfl⟩
  have hsW : W.heap.size = w.heap.size + 1 := by rw [← hW]; simp
  have HB : Hid (Below w.heap.size w W1) := by
    show Below _ _ _
    rw [← hW1, ← hW]
    exact ((Below.refl _ _).alloc (Nat.le_refl _) _).alloc (by simp) _
  have HRW : Hid (W1.rowIs w.heap.size 50 11 (mf y m d 1 h mi sc mc 0 true z)) := by
    show W1.rowIs _ _ _ _
    rw [← hW1]
    refine World.rowIs.alloc ?_ _
    rw [← hW]; exact World.rowIs_alloc w _ 50 _ (row_lit _)
  have HRD : Hid (W1.rowIs (w.heap.size + 1) 23 3 (f3 y m d)) := by
    show W1.rowIs _ _ _ _
    rw [← hW1, ← hsW]
    exact World.rowIs_alloc W _ 23 _ (fun i hi => by
      rcases (by simp at hi; omega : i = 0 ∨ i = 1 ∨ i = 2) with rfl | rfl | rfl <;> rfl)
  have hA : W.rowIs w.heap.size 50 11 (mf y m d 1 h mi sc mc 0 true z) := by rw [← hW]; exact World.rowIs_alloc w _ 50 _ (row_lit _)
  have a0 : W.cell? ⟨w.heap.size, 0, none⟩ = some (.int .i64 y) := hA.cell (i := 0) (by omega)
  have a1 : W.cell? ⟨w.heap.size, 1, none⟩ = some (.int .i64 m) := hA.cell (i := 1) (by omega)
  have a2 : W.cell? ⟨w.heap.size, 2, none⟩ = some (.int .i64 d) := hA.cell (i := 2) (by omega)
  have a3 : W.cell? ⟨w.heap.size, 3, none⟩ = some (.int .i64 1) := hA.cell (i := 3) (by omega)
  have a4 : W.cell? ⟨w.heap.size, 4, none⟩ = some (.int .i64 h) := hA.cell (i := 4) (by omega)
  have a5 : W.cell? ⟨w.heap.size, 5, none⟩ = some (.int .i64 mi) := hA.cell (i := 5) (by omega)
  have a6 : W.cell? ⟨w.heap.size, 6, none⟩ = some (.int .i64 sc) := hA.cell (i := 6) (by omega)
  have a7 : W.cell? ⟨w.heap.size, 7, none⟩ = some (.int .i64 mc) := hA.cell (i := 7) (by omega)
  have a8 : W.cell? ⟨w.heap.size, 8, none⟩ = some (.int .i64 0) := hA.cell (i := 8) (by omega)
  have a9 : W.cell? ⟨w.heap.size, 9, none⟩ = some (.bool true) := hA.cell (i := 9) (by omega)
  have a10 : W.cell? ⟨w.heap.size, 10, none⟩ = some (.int .i64 z) := hA.cell (i := 10) (by omega)
  have q0 : W1.cell? ⟨w.heap.size, 0, none⟩ = some (.int .i64 y) := HRW.out.cell (i := 0) (by omega)
  have q1 : W1.cell? ⟨w.heap.size, 1, none⟩ = some (.int .i64 m) := HRW.out.cell (i := 1) (by omega)
  have q2 : W1.cell? ⟨w.heap.size, 2, none⟩ = some (.int .i64 d) := HRW.out.cell (i := 2) (by omega)
  have q3 : W1.cell? ⟨w.heap.size, 3, none⟩ = some (.int .i64 1) := HRW.out.cell (i := 3) (by omega)
  have q4 : W1.cell? ⟨w.heap.size, 4, none⟩ = some (.int .i64 h) := HRW.out.cell (i := 4) (by omega)
  have q5 : W1.cell? ⟨w.heap.size, 5, none⟩ = some (.int .i64 mi) := HRW.out.cell (i := 5) (by omega)
  have q6 : W1.cell? ⟨w.heap.size, 6, none⟩ = some (.int .i64 sc) := HRW.out.cell (i := 6) (by omega)
  have q7 : W1.cell? ⟨w.heap.size, 7, none⟩ = some (.int .i64 mc) := HRW.out.cell (i := 7) (by omega)
  have q8 : W1.cell? ⟨w.heap.size, 8, none⟩ = some (.int .i64 0) := HRW.out.cell (i := 8) (by omega)
  have q9 : W1.cell? ⟨w.heap.size, 9, none⟩ = some (.bool true) := HRW.out.cell (i := 9) (by omega)
  have q10 : W1.cell? ⟨w.heap.size, 10, none⟩ = some (.int .i64 z) := HRW.out.cell (i := 10) (by omega)
  have e0 : W1.cell? ⟨w.heap.size + 1, 0, none⟩ = some (.int .i64 y) := HRD.out.cell (i := 0) (by omega)
  have e1 : W1.cell? ⟨w.heap.size + 1, 1, none⟩ = some (.int .i64 m) := HRD.out.cell (i := 1) (by omega)
  have e2 : W1.cell? ⟨w.heap.size + 1, 2, none⟩ = some (.int .i64 d) := HRD.out.cell (i := 2) (by omega)
  have c35 := dayNo_any W1 y m d
  unfold mv
  unfold dv at c35
  rw [hu] at c35
  have HR : Hid _ := hR
  clear hR hu
  have hm0 : (m != 1) = false := by simpa using hm
  have hd0 : (d != 1) = false := by simpa using hd
  clear hm hd
  have hzz : (decide (z < -720) = true ∧ z < -720) ∨ (decide (z < -720) = false ∧ decide (840 < z) = true ∧ 840 < z) ∨ (decide (z < -720) = false ∧ decide (840 < z) = false ∧ -720 ≤ z ∧ z ≤ 840) := by
    by_cases h1 : z < -720
    · exact .inl ⟨by simpa using h1, h1⟩
    · by_cases h2 : 840 < z
      · exact .inr (.inl ⟨by simpa using h1, by simpa using h2, h2⟩)
      · exact .inr (.inr ⟨by simpa using h1, by simpa using h2, by omega, by omega⟩)
  rcases hzz with ⟨z1, hz⟩ | ⟨z1, z2, hz⟩ | ⟨z1, z2, hz⟩
  all_goals
    have HP : Hid _ := And.intro hz trivial
    clear hz
    go_enter Tryd.func51, Tryd.ntmps51
    go_wp2_with (go_at_call 35; refine Stop.mk ?_)
    refine Stop.out (c35.mono ?_)
    rintro e W2 ⟨rfl, hb2⟩
    have hR2 := row_on HRW.out hb2
    have hD2 := row_on HRD.out hb2
    have HR2 : Hid _ := hR2
    have HB2 : Hid (Below w.heap.size w W2) := HB.out.trans (hb2.mono HB.out.size)
    have u0 : W2.cell? ⟨w.heap.size, 0, none⟩ = some (.int .i64 y) := hR2.cell (i := 0) (by omega)
    have u1 : W2.cell? ⟨w.heap.size, 1, none⟩ = some (.int .i64 m) := hR2.cell (i := 1) (by omega)
    have u2 : W2.cell? ⟨w.heap.size, 2, none⟩ = some (.int .i64 d) := hR2.cell (i := 2) (by omega)
    have u3 : W2.cell? ⟨w.heap.size, 3, none⟩ = some (.int .i64 1) := hR2.cell (i := 3) (by omega)
    have u4 : W2.cell? ⟨w.heap.size, 4, none⟩ = some (.int .i64 h) := hR2.cell (i := 4) (by omega)
    have u5 : W2.cell? ⟨w.heap.size, 5, none⟩ = some (.int .i64 mi) := hR2.cell (i := 5) (by omega)
    have u6 : W2.cell? ⟨w.heap.size, 6, none⟩ = some (.int .i64 sc) := hR2.cell (i := 6) (by omega)
    have u7 : W2.cell? ⟨w.heap.size, 7, none⟩ = some (.int .i64 mc) := hR2.cell (i := 7) (by omega)
    have u8 : W2.cell? ⟨w.heap.size, 8, none⟩ = some (.int .i64 0) := hR2.cell (i := 8) (by omega)
    have u9 : W2.cell? ⟨w.heap.size, 9, none⟩ = some (.bool true) := hR2.cell (i := 9) (by omega)
    have u10 : W2.cell? ⟨w.heap.size, 10, none⟩ = some (.int .i64 z) := hR2.cell (i := 10) (by omega)
    have x0 : W2.cell? ⟨w.heap.size + 1, 1, none⟩ = some (.int .i64 m) := hD2.cell (i := 1) (by omega)
    have x1 : W2.cell? ⟨w.heap.size + 1, 2, none⟩ = some (.int .i64 d) := hD2.cell (i := 2) (by omega)
    clear hb2 hR2 hD2 c35 a0 a1 a2 a3 a4 a5 a6 a7 a8 a9 a10 q0 q1 q2 q3 q4 q5 q6 q7 q8 q9 q10 e0 e1 e2 hA
    go_wp2
    all_goals (go_ret; refine ⟨?_, HB2.out⟩; rw [← HR.out]; have hP := HP.out; (repeat first | rw [if_pos (by omega)] | rw [if_neg (by omega)]); rfl)

set_option maxRecDepth 100000 in
set_option maxHeartbeats 4000000 in
theorem noM10_false (w : World) (y m d h mi sc mc : Int) (z : Int) (hu : uf y m d = -1) (hm : m = 1) (hd : d = 1) (R : Int) (hR : (if ¬ (h = 0 ∧ mi = 0 ∧ sc = 0 ∧ mc = 0) then 2 else if z ≠ 0 then 4 else -1) = R) : Calls Tryd.prog 51 #[mv y m d 1 h mi sc mc 0 false z] w fun e w' => e = .returned (.int .i64 R) ∧ Below w.heap.size w w' := by
  obtain ⟨W, hW⟩ : ∃ W, w.alloc (.cells #[.int .i64 y, .int .i64 m, .int .i64 d, .int .i64 1, .int .i64 h, .int .i64 mi, .int .i64 sc, .int .i64 mc, .int .i64 0, .bool false, .int .i64 z] 50) = W := ⟨_, rfl⟩
  obtain ⟨W1, hW1⟩ : ∃ W1, W.alloc (.cells #[.int .i64 y, .int .i64 m, .int .i64 d] 23) = W1 := ⟨_, rfl⟩
  have hsW : W.heap.size = w.heap.size + 1 := by rw [← hW]; simp
  have HB : Hid (Below w.heap.size w W1) := by
    show Below _ _ _
    rw [← hW1, ← hW]
    exact ((Below.refl _ _).alloc (Nat.le_refl _) _).alloc (by simp) _
  have HRW : Hid (W1.rowIs w.heap.size 50 11 (mf y m d 1 h mi sc mc 0 false z)) := by
    show W1.rowIs _ _ _ _
    rw [← hW1]
    refine World.rowIs.alloc ?_ _
    rw [← hW]; exact World.rowIs_alloc w _ 50 _ (row_lit _)
  have HRD : Hid (W1.rowIs (w.heap.size + 1) 23 3 (f3 y m d)) := by
    show W1.rowIs _ _ _ _
    rw [← hW1, ← hsW]
    exact World.rowIs_alloc W _ 23 _ (fun i hi => by
      rcases (by simp at hi; omega : i = 0 ∨ i = 1 ∨ i = 2) with rfl | rfl | rfl <;> rfl)
  have hA : W.rowIs w.heap.size 50 11 (mf y m d 1 h mi sc mc 0 false z) := by rw [← hW]; exact World.rowIs_alloc w _ 50 _ (row_lit _)
  have a0 : W.cell? ⟨w.heap.size, 0, none⟩ = some (.int .i64 y) := hA.cell (i := 0) (by omega)
  have a1 : W.cell? ⟨w.heap.size, 1, none⟩ = some (.int .i64 m) := hA.cell (i := 1) (by omega)
  have a2 : W.cell? ⟨w.heap.size, 2, none⟩ = some (.int .i64 d) := hA.cell (i := 2) (by omega)
  have a3 : W.cell? ⟨w.heap.size, 3, none⟩ = some (.int .i64 1) := hA.cell (i := 3) (by omega)
  have a4 : W.cell? ⟨w.heap.size, 4, none⟩ = some (.int .i64 h) := hA.cell (i := 4) (by omega)
  have a5 : W.cell? ⟨w.heap.size, 5, none⟩ = some (.int .i64 mi) := hA.cell (i := 5) (by omega)
  have a6 : W.cell? ⟨w.heap.size, 6, none⟩ = some (.int .i64 sc) := hA.cell (i := 6) (by omega)
  have a7 : W.cell? ⟨w.heap.size, 7, none⟩ = some (.int .i64 mc) := hA.cell (i := 7) (by omega)
  have a8 : W.cell? ⟨w.heap.size, 8, none⟩ = some (.int .i64 0) := hA.cell (i := 8) (by omega)
  have a9 : W.cell? ⟨w.heap.size, 9, none⟩ = some (.bool false) := hA.cell (i := 9) (by omega)
  have a10 : W.cell? ⟨w.heap.size, 10, none⟩ = some (.int .i64 z) := hA.cell (i := 10) (by omega)
  have q0 : W1.cell? ⟨w.heap.size, 0, none⟩ = some (.int .i64 y) := HRW.out.cell (i := 0) (by omega)
  have q1 : W1.cell? ⟨w.heap.size, 1, none⟩ = some (.int .i64 m) := HRW.out.cell (i := 1) (by omega)
  have q2 : W1.cell? ⟨w.heap.size, 2, none⟩ = some (.int .i64 d) := HRW.out.cell (i := 2) (by omega)
  have q3 : W1.cell? ⟨w.heap.size, 3, none⟩ = some (.int .i64 1) := HRW.out.cell (i := 3) (by omega)
  have q4 : W1.cell? ⟨w.heap.size, 4, none⟩ = some (.int .i64 h) := HRW.out.cell (i := 4) (by omega)
  have q5 : W1.cell? ⟨w.heap.size, 5, none⟩ = some (.int .i64 mi) := HRW.out.cell (i := 5) (by omega)
  have q6 : W1.cell? ⟨w.heap.size, 6, none⟩ = some (.int .i64 sc) := HRW.out.cell (i := 6) (by omega)
  have q7 : W1.cell? ⟨w.heap.size, 7, none⟩ = some (.int .i64 mc) := HRW.out.cell (i := 7) (by omega)
  have q8 : W1.cell? ⟨w.heap.size, 8, none⟩ = some (.int .i64 0) := HRW.out.cell (i := 8) (by omega)
  have q9 : W1.cell? ⟨w.heap.size, 9, none⟩ = some (.bool false) := HRW.out.cell (i := 9) (by omega)
  have q10 : W1.cell? ⟨w.heap.size, 10, none⟩ = some (.int .i64 z) := HRW.out.cell (i := 10) (by omega)
  have e0 : W1.cell? ⟨w.heap.size + 1, 0, none⟩ = some (.int .i64 y) := HRD.out.cell (i := 0) (by omega)
  have e1 : W1.cell? ⟨w.heap.size + 1, 1, none⟩ = some (.int .i64 m) := HRD.out.cell (i := 1) (by omega)
  have e2 : W1.cell? ⟨w.heap.size + 1, 2, none⟩ = some (.int .i64 d) := HRD.out.cell (i := 2) (by omega)
  have c35 := dayNo_any W1 y m d
  unfold mv
  unfold dv at c35
  rw [hu] at c35
  have HR : Hid _ := hR
  clear hR hu
  have hm0 : (m != 1) = false := by simpa using hm
  have hd0 : (d != 1) = false := by simpa using hd
  clear hm hd
  have hzz : (decide (z < -720) = true ∧ z < -720) ∨ (decide (z < -720) = false ∧ decide (840 < z) = true ∧ 840 < z) ∨ (decide (z < -720) = false ∧ decide (840 < z) = false ∧ (z != 0) = true ∧ z ≠ 0) ∨ (decide (z < -720) = false ∧ decide (840 < z) = false ∧ (z != 0) = false ∧ z = 0) := by
    by_cases h1 : z < -720
    · exact .inl ⟨by simpa using h1, h1⟩
    · by_cases h2 : 840 < z
      · exact .inr (.inl ⟨by simpa using h1, by simpa using h2, h2⟩)
      · by_cases h3 : z = 0
        · exact .inr (.inr (.inr ⟨by simpa using h1, by simpa using h2, by simpa using h3, h3⟩))
        · exact .inr (.inr (.inl ⟨by simpa using h1, by simpa using h2, by simpa using h3, h3⟩))
  rcases hzz with ⟨z1, hz⟩ | ⟨z1, z2, hz⟩ | ⟨z1, z2, z3, hz⟩ | ⟨z1, z2, z3, hz⟩
  all_goals
    have HP : Hid _ := And.intro hz trivial
    clear hz
    go_enter Tryd.func51, Tryd.ntmps51
    go_wp2_with (go_at_call 35; refine Stop.mk ?_)
    refine Stop.out (c35.mono ?_)
    rintro e W2 ⟨rfl, hb2⟩
    have hR2 := row_on HRW.out hb2
    have hD2 := row_on HRD.out hb2
    have HR2 : Hid _ := hR2
    have HB2 : Hid (Below w.heap.size w W2) := HB.out.trans (hb2.mono HB.out.size)
    have u0 : W2.cell? ⟨w.heap.size, 0, none⟩ = some (.int .i64 y) := hR2.cell (i := 0) (by omega)
    have u1 : W2.cell? ⟨w.heap.size, 1, none⟩ = some (.int .i64 m) := hR2.cell (i := 1) (by omega)
    have u2 : W2.cell? ⟨w.heap.size, 2, none⟩ = some (.int .i64 d) := hR2.cell (i := 2) (by omega)
    have u3 : W2.cell? ⟨w.heap.size, 3, none⟩ = some (.int .i64 1) := hR2.cell (i := 3) (by omega)
    have u4 : W2.cell? ⟨w.heap.size, 4, none⟩ = some (.int .i64 h) := hR2.cell (i := 4) (by omega)
    have u5 : W2.cell? ⟨w.heap.size, 5, none⟩ = some (.int .i64 mi) := hR2.cell (i := 5) (by omega)
    have u6 : W2.cell? ⟨w.heap.size, 6, none⟩ = some (.int .i64 sc) := hR2.cell (i := 6) (by omega)
    have u7 : W2.cell? ⟨w.heap.size, 7, none⟩ = some (.int .i64 mc) := hR2.cell (i := 7) (by omega)
    have u8 : W2.cell? ⟨w.heap.size, 8, none⟩ = some (.int .i64 0) := hR2.cell (i := 8) (by omega)
    have u9 : W2.cell? ⟨w.heap.size, 9, none⟩ = some (.bool false) := hR2.cell (i := 9) (by omega)
    have u10 : W2.cell? ⟨w.heap.size, 10, none⟩ = some (.int .i64 z) := hR2.cell (i := 10) (by omega)
    have x0 : W2.cell? ⟨w.heap.size + 1, 1, none⟩ = some (.int .i64 m) := hD2.cell (i := 1) (by omega)
    have x1 : W2.cell? ⟨w.heap.size + 1, 2, none⟩ = some (.int .i64 d) := hD2.cell (i := 2) (by omega)
    clear hb2 hR2 hD2 c35 a0 a1 a2 a3 a4 a5 a6 a7 a8 a9 a10 q0 q1 q2 q3 q4 q5 q6 q7 q8 q9 q10 e0 e1 e2 hA
    go_wp2
    all_goals (go_ret; refine ⟨?_, HB2.out⟩; rw [← HR.out]; have hP := HP.out; (repeat first | rw [if_pos (by omega)] | rw [if_neg (by omega)]); rfl)

set_option maxRecDepth 100000 in
set_option maxHeartbeats 4000000 in
theorem noM20_true (w : World) (y m d h mi sc mc : Int) (z : Int) (hu : uf y m d = -1) (hd : d = 1) (R : Int) (hR : (if ¬ (h = 0 ∧ mi = 0 ∧ sc = 0 ∧ mc = 0) then 2 else if ¬ (-720 ≤ z ∧ z ≤ 840) then 4 else -1) = R) : Calls Tryd.prog 51 #[mv y m d 2 h mi sc mc 0 true z] w fun e w' => e = .returned (.int .i64 R) ∧ Below w.heap.size w w' := by
  obtain ⟨W, hW⟩ : ∃ W, w.alloc (.cells #[.int .i64 y, .int .i64 m, .int .i64 d, .int .i64 2, .int .i64 h, .int .i64 mi, .int .i64 sc, .int .i64 mc, .int .i64 0, .bool true, .int .i64 z] 50) = W := ⟨_, rfl⟩
  obtain ⟨W1, hW1⟩ : ∃ W1, W.alloc (.cells #[.int .i64 y, .int .i64 m, .int .i64 d] 23) = W1 := ⟨_, rfl⟩
  have hsW : W.heap.size = w.heap.size + 1 := by rw [← hW]; simp
  have HB : Hid (Below w.heap.size w W1) := by
    show Below _ _ _
    rw [← hW1, ← hW]
    exact ((Below.refl _ _).alloc (Nat.le_refl _) _).alloc (by simp) _
  have HRW : Hid (W1.rowIs w.heap.size 50 11 (mf y m d 2 h mi sc mc 0 true z)) := by
    show W1.rowIs _ _ _ _
    rw [← hW1]
    refine World.rowIs.alloc ?_ _
    rw [← hW]; exact World.rowIs_alloc w _ 50 _ (row_lit _)
  have HRD : Hid (W1.rowIs (w.heap.size + 1) 23 3 (f3 y m d)) := by
    show W1.rowIs _ _ _ _
    rw [← hW1, ← hsW]
    exact World.rowIs_alloc W _ 23 _ (fun i hi => by
      rcases (by simp at hi; omega : i = 0 ∨ i = 1 ∨ i = 2) with rfl | rfl | rfl <;> rfl)
  have hA : W.rowIs w.heap.size 50 11 (mf y m d 2 h mi sc mc 0 true z) := by rw [← hW]; exact World.rowIs_alloc w _ 50 _ (row_lit _)
  have a0 : W.cell? ⟨w.heap.size, 0, none⟩ = some (.int .i64 y) := hA.cell (i := 0) (by omega)
  have a1 : W.cell? ⟨w.heap.size, 1, none⟩ = some (.int .i64 m) := hA.cell (i := 1) (by omega)
  have a2 : W.cell? ⟨w.heap.size, 2, none⟩ = some (.int .i64 d) := hA.cell (i := 2) (by omega)
  have a3 : W.cell? ⟨w.heap.size, 3, none⟩ = some (.int .i64 2) := hA.cell (i := 3) (by omega)
  have a4 : W.cell? ⟨w.heap.size, 4, none⟩ = some (.int .i64 h) := hA.cell (i := 4) (by omega)
  have a5 : W.cell? ⟨w.heap.size, 5, none⟩ = some (.int .i64 mi) := hA.cell (i := 5) (by omega)
  have a6 : W.cell? ⟨w.heap.size, 6, none⟩ = some (.int .i64 sc) := hA.cell (i := 6) (by omega)
  have a7 : W.cell? ⟨w.heap.size, 7, none⟩ = some (.int .i64 mc) := hA.cell (i := 7) (by omega)
  have a8 : W.cell? ⟨w.heap.size, 8, none⟩ = some (.int .i64 0) := hA.cell (i := 8) (by omega)
  have a9 : W.cell? ⟨w.heap.size, 9, none⟩ = some (.bool true) := hA.cell (i := 9) (by omega)
  have a10 : W.cell? ⟨w.heap.size, 10, none⟩ = some (.int .i64 z) := hA.cell (i := 10) (by omega)
  have q0 : W1.cell? ⟨w.heap.size, 0, none⟩ = some (.int .i64 y) := HRW.out.cell (i := 0) (by omega)
  have q1 : W1.cell? ⟨w.heap.size, 1, none⟩ = some (.int .i64 m) := HRW.out.cell (i := 1) (by omega)
  have q2 : W1.cell? ⟨w.heap.size, 2, none⟩ = some (.int .i64 d) := HRW.out.cell (i := 2) (by omega)
  have q3 : W1.cell? ⟨w.heap.size, 3, none⟩ = some (.int .i64 2) := HRW.out.cell (i := 3) (by omega)
  have q4 : W1.cell? ⟨w.heap.size, 4, none⟩ = some (.int .i64 h) := HRW.out.cell (i := 4) (by omega)
  have q5 : W1.cell? ⟨w.heap.size, 5, none⟩ = some (.int .i64 mi) := HRW.out.cell (i := 5) (by omega)
  have q6 : W1.cell? ⟨w.heap.size, 6, none⟩ = some (.int .i64 sc) := HRW.out.cell (i := 6) (by omega)
  have q7 : W1.cell? ⟨w.heap.size, 7, none⟩ = some (.int .i64 mc) := HRW.out.cell (i := 7) (by omega)
  have q8 : W1.cell? ⟨w.heap.size, 8, none⟩ = some (.int .i64 0) := HRW.out.cell (i := 8) (by omega)
  have q9 : W1.cell? ⟨w.heap.size, 9, none⟩ = some (.bool true) := HRW.out.cell (i := 9) (by omega)
  have q10 : W1.cell? ⟨w.heap.size, 10, none⟩ = some (.int .i64 z) := HRW.out.cell (i := 10) (by omega)
  have e0 : W1.cell? ⟨w.heap.size + 1, 0, none⟩ = some (.int .i64 y) := HRD.out.cell (i := 0) (by omega)
  have e1 : W1.cell? ⟨w.heap.size + 1, 1, none⟩ = some (.int .i64 m) := HRD.out.cell (i := 1) (by omega)
  have e2 : W1.cell? ⟨w.heap.size + 1, 2, none⟩ = some (.int .i64 d) := HRD.out.cell (i := 2) (by omega)
  have c35 := dayNo_any W1 y m d
  unfold mv
  unfold dv at c35
  rw [hu] at c35
  have HR : Hid _ := hR
  clear hR hu
  have hd0 : (d != 1) = false := by simpa using hd
  clear hd
  have hzz : (decide (z < -720) = true ∧ z < -720) ∨ (decide (z < -720) = false ∧ decide (840 < z) = true ∧ 840 < z) ∨ (decide (z < -720) = false ∧ decide (840 < z) = false ∧ -720 ≤ z ∧ z ≤ 840) := by
    by_cases h1 : z < -720
    · exact .inl ⟨by simpa using h1, h1⟩
    · by_cases h2 : 840 < z
      · exact .inr (.inl ⟨by simpa using h1, by simpa using h2, h2⟩)
      · exact .inr (.inr ⟨by simpa using h1, by simpa using h2, by omega, by omega⟩)
  rcases hzz with ⟨z1, hz⟩ | ⟨z1, z2, hz⟩ | ⟨z1, z2, hz⟩
  all_goals
    have HP : Hid _ := And.intro hz trivial
    clear hz
    go_enter Tryd.func51, Tryd.ntmps51
    go_wp2_with (go_at_call 35; refine Stop.mk ?_)
    refine Stop.out (c35.mono ?_)
    rintro e W2 ⟨rfl, hb2⟩
    have hR2 := row_on HRW.out hb2
    have hD2 := row_on HRD.out hb2
    have HR2 : Hid _ := hR2
    have HB2 : Hid (Below w.heap.size w W2) := HB.out.trans (hb2.mono HB.out.size)
    have u0 : W2.cell? ⟨w.heap.size, 0, none⟩ = some (.int .i64 y) := hR2.cell (i := 0) (by omega)
    have u1 : W2.cell? ⟨w.heap.size, 1, none⟩ = some (.int .i64 m) := hR2.cell (i := 1) (by omega)
    have u2 : W2.cell? ⟨w.heap.size, 2, none⟩ = some (.int .i64 d) := hR2.cell (i := 2) (by omega)
    have u3 : W2.cell? ⟨w.heap.size, 3, none⟩ = some (.int .i64 2) := hR2.cell (i := 3) (by omega)
    have u4 : W2.cell? ⟨w.heap.size, 4, none⟩ = some (.int .i64 h) := hR2.cell (i := 4) (by omega)
    have u5 : W2.cell? ⟨w.heap.size, 5, none⟩ = some (.int .i64 mi) := hR2.cell (i := 5) (by omega)
    have u6 : W2.cell? ⟨w.heap.size, 6, none⟩ = some (.int .i64 sc) := hR2.cell (i := 6) (by omega)
    have u7 : W2.cell? ⟨w.heap.size, 7, none⟩ = some (.int .i64 mc) := hR2.cell (i := 7) (by omega)
    have u8 : W2.cell? ⟨w.heap.size, 8, none⟩ = some (.int .i64 0) := hR2.cell (i := 8) (by omega)
    have u9 : W2.cell? ⟨w.heap.size, 9, none⟩ = some (.bool true) := hR2.cell (i := 9) (by omega)
    have u10 : W2.cell? ⟨w.heap.size, 10, none⟩ = some (.int .i64 z) := hR2.cell (i := 10) (by omega)
    have x0 : W2.cell? ⟨w.heap.size + 1, 1, none⟩ = some (.int .i64 m) := hD2.cell (i := 1) (by omega)
    have x1 : W2.cell? ⟨w.heap.size + 1, 2, none⟩ = some (.int .i64 d) := hD2.cell (i := 2) (by omega)
    clear hb2 hR2 hD2 c35 a0 a1 a2 a3 a4 a5 a6 a7 a8 a9 a10 q0 q1 q2 q3 q4 q5 q6 q7 q8 q9 q10 e0 e1 e2 hA
    go_wp2
    all_goals (go_ret; refine ⟨?_, HB2.out⟩; rw [← HR.out]; have hP := HP.out; (repeat first | rw [if_pos (by omega)] | rw [if_neg (by omega)]); rfl)

set_option maxRecDepth 100000 in
set_option maxHeartbeats 4000000 in
theorem noM20_false (w : World) (y m d h mi sc mc : Int) (z : Int) (hu : uf y m d = -1) (hd : d = 1) (R : Int) (hR : (if ¬ (h = 0 ∧ mi = 0 ∧ sc = 0 ∧ mc = 0) then 2 else if z ≠ 0 then 4 else -1) = R) : Calls Tryd.prog 51 #[mv y m d 2 h mi sc mc 0 false z] w fun e w' => e = .returned (.int .i64 R) ∧ Below w.heap.size w w' := by
  obtain ⟨W, hW⟩ : ∃ W, w.alloc (.cells #[.int .i64 y, .int .i64 m, .int .i64 d, .int .i64 2, .int .i64 h, .int .i64 mi, .int .i64 sc, .int .i64 mc, .int .i64 0, .bool false, .int .i64 z] 50) = W := ⟨_, rfl⟩
  obtain ⟨W1, hW1⟩ : ∃ W1, W.alloc (.cells #[.int .i64 y, .int .i64 m, .int .i64 d] 23) = W1 := ⟨_, rfl⟩
  have hsW : W.heap.size = w.heap.size + 1 := by rw [← hW]; simp
  have HB : Hid (Below w.heap.size w W1) := by
    show Below _ _ _
    rw [← hW1, ← hW]
    exact ((Below.refl _ _).alloc (Nat.le_refl _) _).alloc (by simp) _
  have HRW : Hid (W1.rowIs w.heap.size 50 11 (mf y m d 2 h mi sc mc 0 false z)) := by
    show W1.rowIs _ _ _ _
    rw [← hW1]
    refine World.rowIs.alloc ?_ _
    rw [← hW]; exact World.rowIs_alloc w _ 50 _ (row_lit _)
  have HRD : Hid (W1.rowIs (w.heap.size + 1) 23 3 (f3 y m d)) := by
    show W1.rowIs _ _ _ _
    rw [← hW1, ← hsW]
    exact World.rowIs_alloc W _ 23 _ (fun i hi => by
      rcases (by simp at hi; omega : i = 0 ∨ i = 1 ∨ i = 2) with rfl | rfl | rfl <;> rfl)
  have hA : W.rowIs w.heap.size 50 11 (mf y m d 2 h mi sc mc 0 false z) := by rw [← hW]; exact World.rowIs_alloc w _ 50 _ (row_lit _)
  have a0 : W.cell? ⟨w.heap.size, 0, none⟩ = some (.int .i64 y) := hA.cell (i := 0) (by omega)
  have a1 : W.cell? ⟨w.heap.size, 1, none⟩ = some (.int .i64 m) := hA.cell (i := 1) (by omega)
  have a2 : W.cell? ⟨w.heap.size, 2, none⟩ = some (.int .i64 d) := hA.cell (i := 2) (by omega)
  have a3 : W.cell? ⟨w.heap.size, 3, none⟩ = some (.int .i64 2) := hA.cell (i := 3) (by omega)
  have a4 : W.cell? ⟨w.heap.size, 4, none⟩ = some (.int .i64 h) := hA.cell (i := 4) (by omega)
  have a5 : W.cell? ⟨w.heap.size, 5, none⟩ = some (.int .i64 mi) := hA.cell (i := 5) (by omega)
  have a6 : W.cell? ⟨w.heap.size, 6, none⟩ = some (.int .i64 sc) := hA.cell (i := 6) (by omega)
  have a7 : W.cell? ⟨w.heap.size, 7, none⟩ = some (.int .i64 mc) := hA.cell (i := 7) (by omega)
  have a8 : W.cell? ⟨w.heap.size, 8, none⟩ = some (.int .i64 0) := hA.cell (i := 8) (by omega)
  have a9 : W.cell? ⟨w.heap.size, 9, none⟩ = some (.bool false) := hA.cell (i := 9) (by omega)
  have a10 : W.cell? ⟨w.heap.size, 10, none⟩ = some (.int .i64 z) := hA.cell (i := 10) (by omega)
  have q0 : W1.cell? ⟨w.heap.size, 0, none⟩ = some (.int .i64 y) := HRW.out.cell (i := 0) (by omega)
  have q1 : W1.cell? ⟨w.heap.size, 1, none⟩ = some (.int .i64 m) := HRW.out.cell (i := 1) (by omega)
  have q2 : W1.cell? ⟨w.heap.size, 2, none⟩ = some (.int .i64 d) := HRW.out.cell (i := 2) (by omega)
  have q3 : W1.cell? ⟨w.heap.size, 3, none⟩ = some (.int .i64 2) := HRW.out.cell (i := 3) (by omega)
  have q4 : W1.cell? ⟨w.heap.size, 4, none⟩ = some (.int .i64 h) := HRW.out.cell (i := 4) (by omega)
  have q5 : W1.cell? ⟨w.heap.size, 5, none⟩ = some (.int .i64 mi) := HRW.out.cell (i := 5) (by omega)
  have q6 : W1.cell? ⟨w.heap.size, 6, none⟩ = some (.int .i64 sc) := HRW.out.cell (i := 6) (by omega)
  have q7 : W1.cell? ⟨w.heap.size, 7, none⟩ = some (.int .i64 mc) := HRW.out.cell (i := 7) (by omega)
  have q8 : W1.cell? ⟨w.heap.size, 8, none⟩ = some (.int .i64 0) := HRW.out.cell (i := 8) (by omega)
  have q9 : W1.cell? ⟨w.heap.size, 9, none⟩ = some (.bool false) := HRW.out.cell (i := 9) (by omega)
  have q10 : W1.cell? ⟨w.heap.size, 10, none⟩ = some (.int .i64 z) := HRW.out.cell (i := 10) (by omega)
  have e0 : W1.cell? ⟨w.heap.size + 1, 0, none⟩ = some (.int .i64 y) := HRD.out.cell (i := 0) (by omega)
  have e1 : W1.cell? ⟨w.heap.size + 1, 1, none⟩ = some (.int .i64 m) := HRD.out.cell (i := 1) (by omega)
  have e2 : W1.cell? ⟨w.heap.size + 1, 2, none⟩ = some (.int .i64 d) := HRD.out.cell (i := 2) (by omega)
  have c35 := dayNo_any W1 y m d
  unfold mv
  unfold dv at c35
  rw [hu] at c35
  have HR : Hid _ := hR
  clear hR hu
  have hd0 : (d != 1) = false := by simpa using hd
  clear hd
  have hzz : (decide (z < -720) = true ∧ z < -720) ∨ (decide (z < -720) = false ∧ decide (840 < z) = true ∧ 840 < z) ∨ (decide (z < -720) = false ∧ decide (840 < z) = false ∧ (z != 0) = true ∧ z ≠ 0) ∨ (decide (z < -720) = false ∧ decide (840 < z) = false ∧ (z != 0) = false ∧ z = 0) := by
    by_cases h1 : z < -720
    · exact .inl ⟨by simpa using h1, h1⟩
    · by_cases h2 : 840 < z
      · exact .inr (.inl ⟨by simpa using h1, by simpa using h2, h2⟩)
      · by_cases h3 : z = 0
        · exact .inr (.inr (.inr ⟨by simpa using h1, by simpa using h2, by simpa using h3, h3⟩))
        · exact .inr (.inr (.inl ⟨by simpa using h1, by simpa using h2, by simpa using h3, h3⟩))
  rcases hzz with ⟨z1, hz⟩ | ⟨z1, z2, hz⟩ | ⟨z1, z2, z3, hz⟩ | ⟨z1, z2, z3, hz⟩
  all_goals
    have HP : Hid _ := And.intro hz trivial
    clear hz
    go_enter Tryd.func51, Tryd.ntmps51
    go_wp2_with (go_at_call 35; refine Stop.mk ?_)
    refine Stop.out (c35.mono ?_)
    rintro e W2 ⟨rfl, hb2⟩
    have hR2 := row_on HRW.out hb2
    have hD2 := row_on HRD.out hb2
    have HR2 : Hid _ := hR2
    have HB2 : Hid (Below w.heap.size w W2) := HB.out.trans (hb2.mono HB.out.size)
    have u0 : W2.cell? ⟨w.heap.size, 0, none⟩ = some (.int .i64 y) := hR2.cell (i := 0) (by omega)
    have u1 : W2.cell? ⟨w.heap.size, 1, none⟩ = some (.int .i64 m) := hR2.cell (i := 1) (by omega)
    have u2 : W2.cell? ⟨w.heap.size, 2, none⟩ = some (.int .i64 d) := hR2.cell (i := 2) (by omega)
    have u3 : W2.cell? ⟨w.heap.size, 3, none⟩ = some (.int .i64 2) := hR2.cell (i := 3) (by omega)
    have u4 : W2.cell? ⟨w.heap.size, 4, none⟩ = some (.int .i64 h) := hR2.cell (i := 4) (by omega)
    have u5 : W2.cell? ⟨w.heap.size, 5, none⟩ = some (.int .i64 mi) := hR2.cell (i := 5) (by omega)
    have u6 : W2.cell? ⟨w.heap.size, 6, none⟩ = some (.int .i64 sc) := hR2.cell (i := 6) (by omega)
    have u7 : W2.cell? ⟨w.heap.size, 7, none⟩ = some (.int .i64 mc) := hR2.cell (i := 7) (by omega)
    have u8 : W2.cell? ⟨w.heap.size, 8, none⟩ = some (.int .i64 0) := hR2.cell (i := 8) (by omega)
    have u9 : W2.cell? ⟨w.heap.size, 9, none⟩ = some (.bool false) := hR2.cell (i := 9) (by omega)
    have u10 : W2.cell? ⟨w.heap.size, 10, none⟩ = some (.int .i64 z) := hR2.cell (i := 10) (by omega)
    have x0 : W2.cell? ⟨w.heap.size + 1, 1, none⟩ = some (.int .i64 m) := hD2.cell (i := 1) (by omega)
    have x1 : W2.cell? ⟨w.heap.size + 1, 2, none⟩ = some (.int .i64 d) := hD2.cell (i := 2) (by omega)
    clear hb2 hR2 hD2 c35 a0 a1 a2 a3 a4 a5 a6 a7 a8 a9 a10 q0 q1 q2 q3 q4 q5 q6 q7 q8 q9 q10 e0 e1 e2 hA
    go_wp2
    all_goals (go_ret; refine ⟨?_, HB2.out⟩; rw [← HR.out]; have hP := HP.out; (repeat first | rw [if_pos (by omega)] | rw [if_neg (by omega)]); rfl)

set_option maxRecDepth 100000 in
set_option maxHeartbeats 4000000 in
theorem noM30_true (w : World) (y m d h mi sc mc : Int) (z : Int) (hu : uf y m d = -1) (R : Int) (hR : (if ¬ (h = 0 ∧ mi = 0 ∧ sc = 0 ∧ mc = 0) then 2 else if ¬ (-720 ≤ z ∧ z ≤ 840) then 4 else -1) = R) : Calls Tryd.prog 51 #[mv y m d 3 h mi sc mc 0 true z] w fun e w' => e = .returned (.int .i64 R) ∧ Below w.heap.size w w' := by
  obtain ⟨W, hW⟩ : ∃ W, w.alloc (.cells #[.int .i64 y, .int .i64 m, .int .i64 d, .int .i64 3, .int .i64 h, .int .i64 mi, .int .i64 sc, .int .i64 mc, .int .i64 0, .bool true, .int .i64 z] 50) = W := ⟨_, rfl⟩
  obtain ⟨W1, hW1⟩ : ∃ W1, W.alloc (.cells #[.int .i64 y, .int .i64 m, .int .i64 d] 23) = W1 := ⟨_, rfl⟩
  have hsW : W.heap.size = w.heap.size + 1 := by rw [← hW]; simp
  have HB : Hid (Below w.heap.size w W1) := by
    show Below _ _ _
    rw [← hW1, ← hW]
    exact ((Below.refl _ _).alloc (Nat.le_refl _) _).alloc (by simp) _
  have HRW : Hid (W1.rowIs w.heap.size 50 11 (mf y m d 3 h mi sc mc 0 true z)) := by
    show W1.rowIs _ _ _ _
    rw [← hW1]
    refine World.rowIs.alloc ?_ _
    rw [← hW]; exact World.rowIs_alloc w _ 50 _ (row_lit _)
  have HRD : Hid (W1.rowIs (w.heap.size + 1) 23 3 (f3 y m d)) := by
    show W1.rowIs _ _ _ _
    rw [← hW1, ← hsW]
    exact World.rowIs_alloc W _ 23 _ (fun i hi => by
      rcases (by simp at hi; omega : i = 0 ∨ i = 1 ∨ i = 2) with rfl | rfl | rfl <;> rfl)
  have hA : W.rowIs w.heap.size 50 11 (mf y m d 3 h mi sc mc 0 true z) := by rw [← hW]; exact World.rowIs_alloc w _ 50 _ (row_lit _)
  have a0 : W.cell? ⟨w.heap.size, 0, none⟩ = some (.int .i64 y) := hA.cell (i := 0) (by omega)
  have a1 : W.cell? ⟨w.heap.size, 1, none⟩ = some (.int .i64 m) := hA.cell (i := 1) (by omega)
  have a2 : W.cell? ⟨w.heap.size, 2, none⟩ = some (.int .i64 d) := hA.cell (i := 2) (by omega)
  have a3 : W.cell? ⟨w.heap.size, 3, none⟩ = some (.int .i64 3) := hA.cell (i := 3) (by omega)
  have a4 : W.cell? ⟨w.heap.size, 4, none⟩ = some (.int .i64 h) := hA.cell (i := 4) (by omega)
  have a5 : W.cell? ⟨w.heap.size, 5, none⟩ = some (.int .i64 mi) := hA.cell (i := 5) (by omega)
  have a6 : W.cell? ⟨w.heap.size, 6, none⟩ = some (.int .i64 sc) := hA.cell (i := 6) (by omega)
  have a7 : W.cell? ⟨w.heap.size, 7, none⟩ = some (.int .i64 mc) := hA.cell (i := 7) (by omega)
  have a8 : W.cell? ⟨w.heap.size, 8, none⟩ = some (.int .i64 0) := hA.cell (i := 8) (by omega)
  have a9 : W.cell? ⟨w.heap.size, 9, none⟩ = some (.bool true) := hA.cell (i := 9) (by omega)
  have a10 : W.cell? ⟨w.heap.size, 10, none⟩ = some (.int .i64 z) := hA.cell (i := 10) (by omega)
  have q0 : W1.cell? ⟨w.heap.size, 0, none⟩ = some (.int .i64 y) := HRW.out.cell (i := 0) (by omega)
  have q1 : W1.cell? ⟨w.heap.size, 1, none⟩ = some (.int .i64 m) := HRW.out.cell (i := 1) (by omega)
  have q2 : W1.cell? ⟨w.heap.size, 2, none⟩ = some (.int .i64 d) := HRW.out.cell (i := 2) (by omega)
  have q3 : W1.cell? ⟨w.heap.size, 3, none⟩ = some (.int .i64 3) := HRW.out.cell (i := 3) (by omega)
  have q4 : W1.cell? ⟨w.heap.size, 4, none⟩ = some (.int .i64 h) := HRW.out.cell (i := 4) (by omega)
  have q5 : W1.cell? ⟨w.heap.size, 5, none⟩ = some (.int .i64 mi) := HRW.out.cell (i := 5) (by omega)
  have q6 : W1.cell? ⟨w.heap.size, 6, none⟩ = some (.int .i64 sc) := HRW.out.cell (i := 6) (by omega)
  have q7 : W1.cell? ⟨w.heap.size, 7, none⟩ = some (.int .i64 mc) := HRW.out.cell (i := 7) (by omega)
  have q8 : W1.cell? ⟨w.heap.size, 8, none⟩ = some (.int .i64 0) := HRW.out.cell (i := 8) (by omega)
  have q9 : W1.cell? ⟨w.heap.size, 9, none⟩ = some (.bool true) := HRW.out.cell (i := 9) (by omega)
  have q10 : W1.cell? ⟨w.heap.size, 10, none⟩ = some (.int .i64 z) := HRW.out.cell (i := 10) (by omega)
  have e0 : W1.cell? ⟨w.heap.size + 1, 0, none⟩ = some (.int .i64 y) := HRD.out.cell (i := 0) (by omega)
  have e1 : W1.cell? ⟨w.heap.size + 1, 1, none⟩ = some (.int .i64 m) := HRD.out.cell (i := 1) (by omega)
  have e2 : W1.cell? ⟨w.heap.size + 1, 2, none⟩ = some (.int .i64 d) := HRD.out.cell (i := 2) (by omega)
  have c35 := dayNo_any W1 y m d
  unfold mv
  unfold dv at c35
  rw [hu] at c35
  have HR : Hid _ := hR
  clear hR hu
  have hzz : (decide (z < -720) = true ∧ z < -720) ∨ (decide (z < -720) = false ∧ decide (840 < z) = true ∧ 840 < z) ∨ (decide (z < -720) = false ∧ decide (840 < z) = false ∧ -720 ≤ z ∧ z ≤ 840) := by
    by_cases h1 : z < -720
    · exact .inl ⟨by simpa using h1, h1⟩
    · by_cases h2 : 840 < z
      · exact .inr (.inl ⟨by simpa using h1, by simpa using h2, h2⟩)
      · exact .inr (.inr ⟨by simpa using h1, by simpa using h2, by omega, by omega⟩)
  rcases hzz with ⟨z1, hz⟩ | ⟨z1, z2, hz⟩ | ⟨z1, z2, hz⟩
  all_goals
    have HP : Hid _ := And.intro hz trivial
    clear hz
    go_enter Tryd.func51, Tryd.ntmps51
    go_wp2_with (go_at_call 35; refine Stop.mk ?_)
    refine Stop.out (c35.mono ?_)
    rintro e W2 ⟨rfl, hb2⟩
    have hR2 := row_on HRW.out hb2
    have hD2 := row_on HRD.out hb2
    have HR2 : Hid _ := hR2
    have HB2 : Hid (Below w.heap.size w W2) := HB.out.trans (hb2.mono HB.out.size)
    have u0 : W2.cell? ⟨w.heap.size, 0, none⟩ = some (.int .i64 y) := hR2.cell (i := 0) (by omega)
    have u1 : W2.cell? ⟨w.heap.size, 1, none⟩ = some (.int .i64 m) := hR2.cell (i := 1) (by omega)
    have u2 : W2.cell? ⟨w.heap.size, 2, none⟩ = some (.int .i64 d) := hR2.cell (i := 2) (by omega)
    have u3 : W2.cell? ⟨w.heap.size, 3, none⟩ = some (.int .i64 3) := hR2.cell (i := 3) (by omega)
    have u4 : W2.cell? ⟨w.heap.size, 4, none⟩ = some (.int .i64 h) := hR2.cell (i := 4) (by omega)
    have u5 : W2.cell? ⟨w.heap.size, 5, none⟩ = some (.int .i64 mi) := hR2.cell (i := 5) (by omega)
    have u6 : W2.cell? ⟨w.heap.size, 6, none⟩ = some (.int .i64 sc) := hR2.cell (i := 6) (by omega)
    have u7 : W2.cell? ⟨w.heap.size, 7, none⟩ = some (.int .i64 mc) := hR2.cell (i := 7) (by omega)
    have u8 : W2.cell? ⟨w.heap.size, 8, none⟩ = some (.int .i64 0) := hR2.cell (i := 8) (by omega)
    have u9 : W2.cell? ⟨w.heap.size, 9, none⟩ = some (.bool true) := hR2.cell (i := 9) (by omega)
    have u10 : W2.cell? ⟨w.heap.size, 10, none⟩ = some (.int .i64 z) := hR2.cell (i := 10) (by omega)
    have x0 : W2.cell? ⟨w.heap.size + 1, 1, none⟩ = some (.int .i64 m) := hD2.cell (i := 1) (by omega)
    have x1 : W2.cell? ⟨w.heap.size + 1, 2, none⟩ = some (.int .i64 d) := hD2.cell (i := 2) (by omega)
    clear hb2 hR2 hD2 c35 a0 a1 a2 a3 a4 a5 a6 a7 a8 a9 a10 q0 q1 q2 q3 q4 q5 q6 q7 q8 q9 q10 e0 e1 e2 hA
    go_wp2
    all_goals (go_ret; refine ⟨?_, HB2.out⟩; rw [← HR.out]; have hP := HP.out; (repeat first | rw [if_pos (by omega)] | rw [if_neg (by omega)]); rfl)

set_option maxRecDepth 100000 in
set_option maxHeartbeats 4000000 in
theorem noM30_false (w : World) (y m d h mi sc mc : Int) (z : Int) (hu : uf y m d = -1) (R : Int) (hR : (if ¬ (h = 0 ∧ mi = 0 ∧ sc = 0 ∧ mc = 0) then 2 else if z ≠ 0 then 4 else -1) = R) : Calls Tryd.prog 51 #[mv y m d 3 h mi sc mc 0 false z] w fun e w' => e = .returned (.int .i64 R) ∧ Below w.heap.size w w' := by
  obtain ⟨W, hW⟩ : ∃ W, w.alloc (.cells #[.int .i64 y, .int .i64 m, .int .i64 d, .int .i64 3, .int .i64 h, .int .i64 mi, .int .i64 sc, .int .i64 mc, .int .i64 0, .bool false, .int .i64 z] 50) = W := ⟨_, rfl⟩
  obtain ⟨W1, hW1⟩ : ∃ W1, W.alloc (.cells #[.int .i64 y, .int .i64 m, .int .i64 d] 23) = W1 := ⟨_, rfl⟩
  have hsW : W.heap.size = w.heap.size + 1 := by rw [← hW]; simp
  have HB : Hid (Below w.heap.size w W1) := by
    show Below _ _ _
    rw [← hW1, ← hW]
    exact ((Below.refl _ _).alloc (Nat.le_refl _) _).alloc (by simp) _
  have HRW : Hid (W1.rowIs w.heap.size 50 11 (mf y m d 3 h mi sc mc 0 false z)) := by
    show W1.rowIs _ _ _ _
    rw [← hW1]
    refine World.rowIs.alloc ?_ _
    rw [← hW]; exact World.rowIs_alloc w _ 50 _ (row_lit _)
  have HRD : Hid (W1.rowIs (w.heap.size + 1) 23 3 (f3 y m d)) := by
    show W1.rowIs _ _ _ _
    rw [← hW1, ← hsW]
    exact World.rowIs_alloc W _ 23 _ (fun i hi => by
      rcases (by simp at hi; omega : i = 0 ∨ i = 1 ∨ i = 2) with rfl | rfl | rfl <;> rfl)
  have hA : W.rowIs w.heap.size 50 11 (mf y m d 3 h mi sc mc 0 false z) := by rw [← hW]; exact World.rowIs_alloc w _ 50 _ (row_lit _)
  have a0 : W.cell? ⟨w.heap.size, 0, none⟩ = some (.int .i64 y) := hA.cell (i := 0) (by omega)
  have a1 : W.cell? ⟨w.heap.size, 1, none⟩ = some (.int .i64 m) := hA.cell (i := 1) (by omega)
  have a2 : W.cell? ⟨w.heap.size, 2, none⟩ = some (.int .i64 d) := hA.cell (i := 2) (by omega)
  have a3 : W.cell? ⟨w.heap.size, 3, none⟩ = some (.int .i64 3) := hA.cell (i := 3) (by omega)
  have a4 : W.cell? ⟨w.heap.size, 4, none⟩ = some (.int .i64 h) := hA.cell (i := 4) (by omega)
  have a5 : W.cell? ⟨w.heap.size, 5, none⟩ = some (.int .i64 mi) := hA.cell (i := 5) (by omega)
  have a6 : W.cell? ⟨w.heap.size, 6, none⟩ = some (.int .i64 sc) := hA.cell (i := 6) (by omega)
  have a7 : W.cell? ⟨w.heap.size, 7, none⟩ = some (.int .i64 mc) := hA.cell (i := 7) (by omega)
  have a8 : W.cell? ⟨w.heap.size, 8, none⟩ = some (.int .i64 0) := hA.cell (i := 8) (by omega)
  have a9 : W.cell? ⟨w.heap.size, 9, none⟩ = some (.bool false) := hA.cell (i := 9) (by omega)
  have a10 : W.cell? ⟨w.heap.size, 10, none⟩ = some (.int .i64 z) := hA.cell (i := 10) (by omega)
  have q0 : W1.cell? ⟨w.heap.size, 0, none⟩ = some (.int .i64 y) := HRW.out.cell (i := 0) (by omega)
  have q1 : W1.cell? ⟨w.heap.size, 1, none⟩ = some (.int .i64 m) := HRW.out.cell (i := 1) (by omega)
  have q2 : W1.cell? ⟨w.heap.size, 2, none⟩ = some (.int .i64 d) := HRW.out.cell (i := 2) (by omega)
  have q3 : W1.cell? ⟨w.heap.size, 3, none⟩ = some (.int .i64 3) := HRW.out.cell (i := 3) (by omega)
  have q4 : W1.cell? ⟨w.heap.size, 4, none⟩ = some (.int .i64 h) := HRW.out.cell (i := 4) (by omega)
  have q5 : W1.cell? ⟨w.heap.size, 5, none⟩ = some (.int .i64 mi) := HRW.out.cell (i := 5) (by omega)
  have q6 : W1.cell? ⟨w.heap.size, 6, none⟩ = some (.int .i64 sc) := HRW.out.cell (i := 6) (by omega)
  have q7 : W1.cell? ⟨w.heap.size, 7, none⟩ = some (.int .i64 mc) := HRW.out.cell (i := 7) (by omega)
  have q8 : W1.cell? ⟨w.heap.size, 8, none⟩ = some (.int .i64 0) := HRW.out.cell (i := 8) (by omega)
  have q9 : W1.cell? ⟨w.heap.size, 9, none⟩ = some (.bool false) := HRW.out.cell (i := 9) (by omega)
  have q10 : W1.cell? ⟨w.heap.size, 10, none⟩ = some (.int .i64 z) := HRW.out.cell (i := 10) (by omega)
  have e0 : W1.cell? ⟨w.heap.size + 1, 0, none⟩ = some (.int .i64 y) := HRD.out.cell (i := 0) (by omega)
  have e1 : W1.cell? ⟨w.heap.size + 1, 1, none⟩ = some (.int .i64 m) := HRD.out.cell (i := 1) (by omega)
  have e2 : W1.cell? ⟨w.heap.size + 1, 2, none⟩ = some (.int .i64 d) := HRD.out.cell (i := 2) (by omega)
  have c35 := dayNo_any W1 y m d
  unfold mv
  unfold dv at c35
  rw [hu] at c35
  have HR : Hid _ := hR
  clear hR hu
  have hzz : (decide (z < -720) = true ∧ z < -720) ∨ (decide (z < -720) = false ∧ decide (840 < z) = true ∧ 840 < z) ∨ (decide (z < -720) = false ∧ decide (840 < z) = false ∧ (z != 0) = true ∧ z ≠ 0) ∨ (decide (z < -720) = false ∧ decide (840 < z) = false ∧ (z != 0) = false ∧ z = 0) := by
    by_cases h1 : z < -720
    · exact .inl ⟨by simpa using h1, h1⟩
    · by_cases h2 : 840 < z
      · exact .inr (.inl ⟨by simpa using h1, by simpa using h2, h2⟩)
      · by_cases h3 : z = 0
        · exact .inr (.inr (.inr ⟨by simpa using h1, by simpa using h2, by simpa using h3, h3⟩))
        · exact .inr (.inr (.inl ⟨by simpa using h1, by simpa using h2, by simpa using h3, h3⟩))
  rcases hzz with ⟨z1, hz⟩ | ⟨z1, z2, hz⟩ | ⟨z1, z2, z3, hz⟩ | ⟨z1, z2, z3, hz⟩
  all_goals
    have HP : Hid _ := And.intro hz trivial
    clear hz
    go_enter Tryd.func51, Tryd.ntmps51
    go_wp2_with (go_at_call 35; refine Stop.mk ?_)
    refine Stop.out (c35.mono ?_)
    rintro e W2 ⟨rfl, hb2⟩
    have hR2 := row_on HRW.out hb2
    have hD2 := row_on HRD.out hb2
    have HR2 : Hid _ := hR2
    have HB2 : Hid (Below w.heap.size w W2) := HB.out.trans (hb2.mono HB.out.size)
    have u0 : W2.cell? ⟨w.heap.size, 0, none⟩ = some (.int .i64 y) := hR2.cell (i := 0) (by omega)
    have u1 : W2.cell? ⟨w.heap.size, 1, none⟩ = some (.int .i64 m) := hR2.cell (i := 1) (by omega)
    have u2 : W2.cell? ⟨w.heap.size, 2, none⟩ = some (.int .i64 d) := hR2.cell (i := 2) (by omega)
    have u3 : W2.cell? ⟨w.heap.size, 3, none⟩ = some (.int .i64 3) := hR2.cell (i := 3) (by omega)
    have u4 : W2.cell? ⟨w.heap.size, 4, none⟩ = some (.int .i64 h) := hR2.cell (i := 4) (by omega)
    have u5 : W2.cell? ⟨w.heap.size, 5, none⟩ = some (.int .i64 mi) := hR2.cell (i := 5) (by omega)
    have u6 : W2.cell? ⟨w.heap.size, 6, none⟩ = some (.int .i64 sc) := hR2.cell (i := 6) (by omega)
    have u7 : W2.cell? ⟨w.heap.size, 7, none⟩ = some (.int .i64 mc) := hR2.cell (i := 7) (by omega)
    have u8 : W2.cell? ⟨w.heap.size, 8, none⟩ = some (.int .i64 0) := hR2.cell (i := 8) (by omega)
    have u9 : W2.cell? ⟨w.heap.size, 9, none⟩ = some (.bool false) := hR2.cell (i := 9) (by omega)
    have u10 : W2.cell? ⟨w.heap.size, 10, none⟩ = some (.int .i64 z) := hR2.cell (i := 10) (by omega)
    have x0 : W2.cell? ⟨w.heap.size + 1, 1, none⟩ = some (.int .i64 m) := hD2.cell (i := 1) (by omega)
    have x1 : W2.cell? ⟨w.heap.size + 1, 2, none⟩ = some (.int .i64 d) := hD2.cell (i := 2) (by omega)
    clear hb2 hR2 hD2 c35 a0 a1 a2 a3 a4 a5 a6 a7 a8 a9 a10 q0 q1 q2 q3 q4 q5 q6 q7 q8 q9 q10 e0 e1 e2 hA
    go_wp2
    all_goals (go_ret; refine ⟨?_, HB2.out⟩; rw [← HR.out]; have hP := HP.out; (repeat first | rw [if_pos (by omega)] | rw [if_neg (by omega)]); rfl)

set_option maxRecDepth 100000 in
set_option maxHeartbeats 4000000 in
theorem noM3p_true (w : World) (y m d h mi sc mc p : Int) (z : Int) (hu : uf y m d = -1) (TN : Int) (hTN : tN h mi sc mc p = TN) (hp : p ≠ 0) (R : Int) (hR : (if TN ≠ -1 then 2 else if ¬ (-720 ≤ z ∧ z ≤ 840) then 4 else -1) = R) : Calls Tryd.prog 51 #[mv y m d 3 h mi sc mc p true z] w fun e w' => e = .returned (.int .i64 R) ∧ Below w.heap.size w w' := by
  obtain ⟨W, hW⟩ : ∃ W, w.alloc (.cells #[.int .i64 y, .int .i64 m, .int .i64 d, .int .i64 3, .int .i64 h, .int .i64 mi, .int .i64 sc, .int .i64 mc, .int .i64 p, .bool true, .int .i64 z] 50) = W := ⟨_, rfl⟩
  obtain ⟨W1, hW1⟩ : ∃ W1, W.alloc (.cells #[.int .i64 y, .int .i64 m, .int .i64 d] 23) = W1 := ⟨_, rfl⟩
  have hsW : W.heap.size = w.heap.size + 1 := by rw [← hW]; simp
  have HB : Hid (Below w.heap.size w W1) := by
    show Below _ _ _
    rw [← hW1, ← hW]
    exact ((Below.refl _ _).alloc (Nat.le_refl _) _).alloc (by simp) _
  have HRW : Hid (W1.rowIs w.heap.size 50 11 (mf y m d 3 h mi sc mc p true z)) := by
    show W1.rowIs _ _ _ _
    rw [← hW1]
    refine World.rowIs.alloc ?_ _
    rw [← hW]; exact World.rowIs_alloc w _ 50 _ (row_lit _)
  have HRD : Hid (W1.rowIs (w.heap.size + 1) 23 3 (f3 y m d)) := by
    show W1.rowIs _ _ _ _
    rw [← hW1, ← hsW]
    exact World.rowIs_alloc W _ 23 _ (fun i hi => by
      rcases (by simp at hi; omega : i = 0 ∨ i = 1 ∨ i = 2) with rfl | rfl | rfl <;> rfl)
  have hA : W.rowIs w.heap.size 50 11 (mf y m d 3 h mi sc mc p true z) := by rw [← hW]; exact World.rowIs_alloc w _ 50 _ (row_lit _)
  have a0 : W.cell? ⟨w.heap.size, 0, none⟩ = some (.int .i64 y) := hA.cell (i := 0) (by omega)
  have a1 : W.cell? ⟨w.heap.size, 1, none⟩ = some (.int .i64 m) := hA.cell (i := 1) (by omega)
  have a2 : W.cell? ⟨w.heap.size, 2, none⟩ = some (.int .i64 d) := hA.cell (i := 2) (by omega)
  have a3 : W.cell? ⟨w.heap.size, 3, none⟩ = some (.int .i64 3) := hA.cell (i := 3) (by omega)
  have a4 : W.cell? ⟨w.heap.size, 4, none⟩ = some (.int .i64 h) := hA.cell (i := 4) (by omega)
  have a5 : W.cell? ⟨w.heap.size, 5, none⟩ = some (.int .i64 mi) := hA.cell (i := 5) (by omega)
  have a6 : W.cell? ⟨w.heap.size, 6, none⟩ = some (.int .i64 sc) := hA.cell (i := 6) (by omega)
  have a7 : W.cell? ⟨w.heap.size, 7, none⟩ = some (.int .i64 mc) := hA.cell (i := 7) (by omega)
  have a8 : W.cell? ⟨w.heap.size, 8, none⟩ = some (.int .i64 p) := hA.cell (i := 8) (by omega)
  have a9 : W.cell? ⟨w.heap.size, 9, none⟩ = some (.bool true) := hA.cell (i := 9) (by omega)
  have a10 : W.cell? ⟨w.heap.size, 10, none⟩ = some (.int .i64 z) := hA.cell (i := 10) (by omega)
  have q0 : W1.cell? ⟨w.heap.size, 0, none⟩ = some (.int .i64 y) := HRW.out.cell (i := 0) (by omega)
  have q1 : W1.cell? ⟨w.heap.size, 1, none⟩ = some (.int .i64 m) := HRW.out.cell (i := 1) (by omega)
  have q2 : W1.cell? ⟨w.heap.size, 2, none⟩ = some (.int .i64 d) := HRW.out.cell (i := 2) (by omega)
  have q3 : W1.cell? ⟨w.heap.size, 3, none⟩ = some (.int .i64 3) := HRW.out.cell (i := 3) (by omega)
  have q4 : W1.cell? ⟨w.heap.size, 4, none⟩ = some (.int .i64 h) := HRW.out.cell (i := 4) (by omega)
  have q5 : W1.cell? ⟨w.heap.size, 5, none⟩ = some (.int .i64 mi) := HRW.out.cell (i := 5) (by omega)
  have q6 : W1.cell? ⟨w.heap.size, 6, none⟩ = some (.int .i64 sc) := HRW.out.cell (i := 6) (by omega)
  have q7 : W1.cell? ⟨w.heap.size, 7, none⟩ = some (.int .i64 mc) := HRW.out.cell (i := 7) (by omega)
  have q8 : W1.cell? ⟨w.heap.size, 8, none⟩ = some (.int .i64 p) := HRW.out.cell (i := 8) (by omega)
  have q9 : W1.cell? ⟨w.heap.size, 9, none⟩ = some (.bool true) := HRW.out.cell (i := 9) (by omega)
  have q10 : W1.cell? ⟨w.heap.size, 10, none⟩ = some (.int .i64 z) := HRW.out.cell (i := 10) (by omega)
  have e0 : W1.cell? ⟨w.heap.size + 1, 0, none⟩ = some (.int .i64 y) := HRD.out.cell (i := 0) (by omega)
  have e1 : W1.cell? ⟨w.heap.size + 1, 1, none⟩ = some (.int .i64 m) := HRD.out.cell (i := 1) (by omega)
  have e2 : W1.cell? ⟨w.heap.size + 1, 2, none⟩ = some (.int .i64 d) := HRD.out.cell (i := 2) (by omega)
  have c35 := dayNo_any W1 y m d
  unfold mv
  unfold dv at c35
  rw [hu] at c35
  have HR : Hid _ := hR
  clear hR hu
  have c45 := fun W' => timeNo_any W' h mi sc mc p
  have hTi := tN_is h mi sc mc p
  rw [hTN] at c45 hTi
  unfold t5 at c45
  clear hTN
  have hp0 : (p == 0) = false := by simpa using hp
  have hp1 : (p != 0) = true := by simpa using hp
  have hTT : (decide ((0 : Int) ≤ TN) = true ∧ TN ≠ -1) ∨ (decide ((0 : Int) ≤ TN) = false ∧ TN = -1) := by
    by_cases h0 : TN = -1
    · exact .inr ⟨by simp; omega, h0⟩
    · exact .inl ⟨by simp; omega, h0⟩
  clear hp hTi
  have hzz : (decide (z < -720) = true ∧ z < -720) ∨ (decide (z < -720) = false ∧ decide (840 < z) = true ∧ 840 < z) ∨ (decide (z < -720) = false ∧ decide (840 < z) = false ∧ -720 ≤ z ∧ z ≤ 840) := by
    by_cases h1 : z < -720
    · exact .inl ⟨by simpa using h1, h1⟩
    · by_cases h2 : 840 < z
      · exact .inr (.inl ⟨by simpa using h1, by simpa using h2, h2⟩)
      · exact .inr (.inr ⟨by simpa using h1, by simpa using h2, by omega, by omega⟩)
  rcases hzz with ⟨z1, hz⟩ | ⟨z1, z2, hz⟩ | ⟨z1, z2, hz⟩
  all_goals
    rcases hTT with ⟨hTI, hTT⟩ | ⟨hTI, hTT⟩
    all_goals
      have HP : Hid _ := And.intro hz hTT
      clear hz hTT
      go_enter Tryd.func51, Tryd.ntmps51
      go_wp2_with (go_at_call 35; refine Stop.mk ?_)
      refine Stop.out (c35.mono ?_)
      rintro e W2 ⟨rfl, hb2⟩
      have hR2 := row_on HRW.out hb2
      have hD2 := row_on HRD.out hb2
      have HR2 : Hid _ := hR2
      have HB2 : Hid (Below w.heap.size w W2) := HB.out.trans (hb2.mono HB.out.size)
      have u0 : W2.cell? ⟨w.heap.size, 0, none⟩ = some (.int .i64 y) := hR2.cell (i := 0) (by omega)
      have u1 : W2.cell? ⟨w.heap.size, 1, none⟩ = some (.int .i64 m) := hR2.cell (i := 1) (by omega)
      have u2 : W2.cell? ⟨w.heap.size, 2, none⟩ = some (.int .i64 d) := hR2.cell (i := 2) (by omega)
      have u3 : W2.cell? ⟨w.heap.size, 3, none⟩ = some (.int .i64 3) := hR2.cell (i := 3) (by omega)
      have u4 : W2.cell? ⟨w.heap.size, 4, none⟩ = some (.int .i64 h) := hR2.cell (i := 4) (by omega)
      have u5 : W2.cell? ⟨w.heap.size, 5, none⟩ = some (.int .i64 mi) := hR2.cell (i := 5) (by omega)
      have u6 : W2.cell? ⟨w.heap.size, 6, none⟩ = some (.int .i64 sc) := hR2.cell (i := 6) (by omega)
      have u7 : W2.cell? ⟨w.heap.size, 7, none⟩ = some (.int .i64 mc) := hR2.cell (i := 7) (by omega)
      have u8 : W2.cell? ⟨w.heap.size, 8, none⟩ = some (.int .i64 p) := hR2.cell (i := 8) (by omega)
      have u9 : W2.cell? ⟨w.heap.size, 9, none⟩ = some (.bool true) := hR2.cell (i := 9) (by omega)
      have u10 : W2.cell? ⟨w.heap.size, 10, none⟩ = some (.int .i64 z) := hR2.cell (i := 10) (by omega)
      have x0 : W2.cell? ⟨w.heap.size + 1, 1, none⟩ = some (.int .i64 m) := hD2.cell (i := 1) (by omega)
      have x1 : W2.cell? ⟨w.heap.size + 1, 2, none⟩ = some (.int .i64 d) := hD2.cell (i := 2) (by omega)
      clear hb2 hR2 hD2 c35 a0 a1 a2 a3 a4 a5 a6 a7 a8 a9 a10 q0 q1 q2 q3 q4 q5 q6 q7 q8 q9 q10 e0 e1 e2 hA
      go_wp2_with (go_at_call 45; refine Stop.mk ?_)
      refine Stop.out ((c45 _).mono ?_)
      rintro e W5 ⟨rfl, hb5⟩
      have R5 := row_on HR2.out hb5
      have HB5 : Hid (Below w.heap.size w W5) := HB2.out.trans (hb5.mono HB2.out.size)
      have v9 : W5.cell? ⟨w.heap.size, 9, none⟩ = some (.bool true) := R5.cell (i := 9) (by omega)
      have v10 : W5.cell? ⟨w.heap.size, 10, none⟩ = some (.int .i64 z) := R5.cell (i := 10) (by omega)
      clear hb5 R5 c45
      go_wp2
      go_ret
      refine ⟨?_, HB5.out⟩
      rw [← HR.out]
      have hP := HP.out
      (repeat first | rw [if_pos (by omega)] | rw [if_neg (by omega)])
      rfl

set_option maxRecDepth 100000 in
set_option maxHeartbeats 4000000 in
theorem noM3p_false (w : World) (y m d h mi sc mc p : Int) (z : Int) (hu : uf y m d = -1) (TN : Int) (hTN : tN h mi sc mc p = TN) (hp : p ≠ 0) (R : Int) (hR : (if TN ≠ -1 then 2 else if z ≠ 0 then 4 else -1) = R) : Calls Tryd.prog 51 #[mv y m d 3 h mi sc mc p false z] w fun e w' => e = .returned (.int .i64 R) ∧ Below w.heap.size w w' := by
  obtain ⟨W, hW⟩ : ∃ W, w.alloc (.cells #[.int .i64 y, .int .i64 m, .int .i64 d, .int .i64 3, .int .i64 h, .int .i64 mi, .int .i64 sc, .int .i64 mc, .int .i64 p, .bool false, .int .i64 z] 50) = W := ⟨_, rfl⟩
  obtain ⟨W1, hW1⟩ : ∃ W1, W.alloc (.cells #[.int .i64 y, .int .i64 m, .int .i64 d] 23) = W1 := ⟨_, rfl⟩
  have hsW : W.heap.size = w.heap.size + 1 := by rw [← hW]; simp
  have HB : Hid (Below w.heap.size w W1) := by
    show Below _ _ _
    rw [← hW1, ← hW]
    exact ((Below.refl _ _).alloc (Nat.le_refl _) _).alloc (by simp) _
  have HRW : Hid (W1.rowIs w.heap.size 50 11 (mf y m d 3 h mi sc mc p false z)) := by
    show W1.rowIs _ _ _ _
    rw [← hW1]
    refine World.rowIs.alloc ?_ _
    rw [← hW]; exact World.rowIs_alloc w _ 50 _ (row_lit _)
  have HRD : Hid (W1.rowIs (w.heap.size + 1) 23 3 (f3 y m d)) := by
    show W1.rowIs _ _ _ _
    rw [← hW1, ← hsW]
    exact World.rowIs_alloc W _ 23 _ (fun i hi => by
      rcases (by simp at hi; omega : i = 0 ∨ i = 1 ∨ i = 2) with rfl | rfl | rfl <;> rfl)
  have hA : W.rowIs w.heap.size 50 11 (mf y m d 3 h mi sc mc p false z) := by rw [← hW]; exact World.rowIs_alloc w _ 50 _ (row_lit _)
  have a0 : W.cell? ⟨w.heap.size, 0, none⟩ = some (.int .i64 y) := hA.cell (i := 0) (by omega)
  have a1 : W.cell? ⟨w.heap.size, 1, none⟩ = some (.int .i64 m) := hA.cell (i := 1) (by omega)
  have a2 : W.cell? ⟨w.heap.size, 2, none⟩ = some (.int .i64 d) := hA.cell (i := 2) (by omega)
  have a3 : W.cell? ⟨w.heap.size, 3, none⟩ = some (.int .i64 3) := hA.cell (i := 3) (by omega)
  have a4 : W.cell? ⟨w.heap.size, 4, none⟩ = some (.int .i64 h) := hA.cell (i := 4) (by omega)
  have a5 : W.cell? ⟨w.heap.size, 5, none⟩ = some (.int .i64 mi) := hA.cell (i := 5) (by omega)
  have a6 : W.cell? ⟨w.heap.size, 6, none⟩ = some (.int .i64 sc) := hA.cell (i := 6) (by omega)
  have a7 : W.cell? ⟨w.heap.size, 7, none⟩ = some (.int .i64 mc) := hA.cell (i := 7) (by omega)
  have a8 : W.cell? ⟨w.heap.size, 8, none⟩ = some (.int .i64 p) := hA.cell (i := 8) (by omega)
  have a9 : W.cell? ⟨w.heap.size, 9, none⟩ = some (.bool false) := hA.cell (i := 9) (by omega)
  have a10 : W.cell? ⟨w.heap.size, 10, none⟩ = some (.int .i64 z) := hA.cell (i := 10) (by omega)
  have q0 : W1.cell? ⟨w.heap.size, 0, none⟩ = some (.int .i64 y) := HRW.out.cell (i := 0) (by omega)
  have q1 : W1.cell? ⟨w.heap.size, 1, none⟩ = some (.int .i64 m) := HRW.out.cell (i := 1) (by omega)
  have q2 : W1.cell? ⟨w.heap.size, 2, none⟩ = some (.int .i64 d) := HRW.out.cell (i := 2) (by omega)
  have q3 : W1.cell? ⟨w.heap.size, 3, none⟩ = some (.int .i64 3) := HRW.out.cell (i := 3) (by omega)
  have q4 : W1.cell? ⟨w.heap.size, 4, none⟩ = some (.int .i64 h) := HRW.out.cell (i := 4) (by omega)
  have q5 : W1.cell? ⟨w.heap.size, 5, none⟩ = some (.int .i64 mi) := HRW.out.cell (i := 5) (by omega)
  have q6 : W1.cell? ⟨w.heap.size, 6, none⟩ = some (.int .i64 sc) := HRW.out.cell (i := 6) (by omega)
  have q7 : W1.cell? ⟨w.heap.size, 7, none⟩ = some (.int .i64 mc) := HRW.out.cell (i := 7) (by omega)
  have q8 : W1.cell? ⟨w.heap.size, 8, none⟩ = some (.int .i64 p) := HRW.out.cell (i := 8) (by omega)
  have q9 : W1.cell? ⟨w.heap.size, 9, none⟩ = some (.bool false) := HRW.out.cell (i := 9) (by omega)
  have q10 : W1.cell? ⟨w.heap.size, 10, none⟩ = some (.int .i64 z) := HRW.out.cell (i := 10) (by omega)
  have e0 : W1.cell? ⟨w.heap.size + 1, 0, none⟩ = some (.int .i64 y) := HRD.out.cell (i := 0) (by omega)
  have e1 : W1.cell? ⟨w.heap.size + 1, 1, none⟩ = some (.int .i64 m) := HRD.out.cell (i := 1) (by omega)
  have e2 : W1.cell? ⟨w.heap.size + 1, 2, none⟩ = some (.int .i64 d) := HRD.out.cell (i := 2) (by omega)
  have c35 := dayNo_any W1 y m d
  unfold mv
  unfold dv at c35
  rw [hu] at c35
  have HR : Hid _ := hR
  clear hR hu
  have c45 := fun W' => timeNo_any W' h mi sc mc p
  have hTi := tN_is h mi sc mc p
  rw [hTN] at c45 hTi
  unfold t5 at c45
  clear hTN
  have hp0 : (p == 0) = false := by simpa using hp
  have hp1 : (p != 0) = true := by simpa using hp
  have hTT : (decide ((0 : Int) ≤ TN) = true ∧ TN ≠ -1) ∨ (decide ((0 : Int) ≤ TN) = false ∧ TN = -1) := by
    by_cases h0 : TN = -1
    · exact .inr ⟨by simp; omega, h0⟩
    · exact .inl ⟨by simp; omega, h0⟩
  clear hp hTi
  have hzz : (decide (z < -720) = true ∧ z < -720) ∨ (decide (z < -720) = false ∧ decide (840 < z) = true ∧ 840 < z) ∨ (decide (z < -720) = false ∧ decide (840 < z) = false ∧ (z != 0) = true ∧ z ≠ 0) ∨ (decide (z < -720) = false ∧ decide (840 < z) = false ∧ (z != 0) = false ∧ z = 0) := by
    by_cases h1 : z < -720
    · exact .inl ⟨by simpa using h1, h1⟩
    · by_cases h2 : 840 < z
      · exact .inr (.inl ⟨by simpa using h1, by simpa using h2, h2⟩)
      · by_cases h3 : z = 0
        · exact .inr (.inr (.inr ⟨by simpa using h1, by simpa using h2, by simpa using h3, h3⟩))
        · exact .inr (.inr (.inl ⟨by simpa using h1, by simpa using h2, by simpa using h3, h3⟩))
  rcases hzz with ⟨z1, hz⟩ | ⟨z1, z2, hz⟩ | ⟨z1, z2, z3, hz⟩ | ⟨z1, z2, z3, hz⟩
  all_goals
    rcases hTT with ⟨hTI, hTT⟩ | ⟨hTI, hTT⟩
    all_goals
      have HP : Hid _ := And.intro hz hTT
      clear hz hTT
      go_enter Tryd.func51, Tryd.ntmps51
      go_wp2_with (go_at_call 35; refine Stop.mk ?_)
      refine Stop.out (c35.mono ?_)
      rintro e W2 ⟨rfl, hb2⟩
      have hR2 := row_on HRW.out hb2
      have hD2 := row_on HRD.out hb2
      have HR2 : Hid _ := hR2
      have HB2 : Hid (Below w.heap.size w W2) := HB.out.trans (hb2.mono HB.out.size)
      have u0 : W2.cell? ⟨w.heap.size, 0, none⟩ = some (.int .i64 y) := hR2.cell (i := 0) (by omega)
      have u1 : W2.cell? ⟨w.heap.size, 1, none⟩ = some (.int .i64 m) := hR2.cell (i := 1) (by omega)
      have u2 : W2.cell? ⟨w.heap.size, 2, none⟩ = some (.int .i64 d) := hR2.cell (i := 2) (by omega)
      have u3 : W2.cell? ⟨w.heap.size, 3, none⟩ = some (.int .i64 3) := hR2.cell (i := 3) (by omega)
      have u4 : W2.cell? ⟨w.heap.size, 4, none⟩ = some (.int .i64 h) := hR2.cell (i := 4) (by omega)
      have u5 : W2.cell? ⟨w.heap.size, 5, none⟩ = some (.int .i64 mi) := hR2.cell (i := 5) (by omega)
      have u6 : W2.cell? ⟨w.heap.size, 6, none⟩ = some (.int .i64 sc) := hR2.cell (i := 6) (by omega)
      have u7 : W2.cell? ⟨w.heap.size, 7, none⟩ = some (.int .i64 mc) := hR2.cell (i := 7) (by omega)
      have u8 : W2.cell? ⟨w.heap.size, 8, none⟩ = some (.int .i64 p) := hR2.cell (i := 8) (by omega)
      have u9 : W2.cell? ⟨w.heap.size, 9, none⟩ = some (.bool false) := hR2.cell (i := 9) (by omega)
      have u10 : W2.cell? ⟨w.heap.size, 10, none⟩ = some (.int .i64 z) := hR2.cell (i := 10) (by omega)
      have x0 : W2.cell? ⟨w.heap.size + 1, 1, none⟩ = some (.int .i64 m) := hD2.cell (i := 1) (by omega)
      have x1 : W2.cell? ⟨w.heap.size + 1, 2, none⟩ = some (.int .i64 d) := hD2.cell (i := 2) (by omega)
      clear hb2 hR2 hD2 c35 a0 a1 a2 a3 a4 a5 a6 a7 a8 a9 a10 q0 q1 q2 q3 q4 q5 q6 q7 q8 q9 q10 e0 e1 e2 hA
      go_wp2_with (go_at_call 45; refine Stop.mk ?_)
      refine Stop.out ((c45 _).mono ?_)
      rintro e W5 ⟨rfl, hb5⟩
      have R5 := row_on HR2.out hb5
      have HB5 : Hid (Below w.heap.size w W5) := HB2.out.trans (hb5.mono HB2.out.size)
      have v9 : W5.cell? ⟨w.heap.size, 9, none⟩ = some (.bool false) := R5.cell (i := 9) (by omega)
      have v10 : W5.cell? ⟨w.heap.size, 10, none⟩ = some (.int .i64 z) := R5.cell (i := 10) (by omega)
      clear hb5 R5 c45
      go_wp2
      go_ret
      refine ⟨?_, HB5.out⟩
      rw [← HR.out]
      have hP := HP.out
      (repeat first | rw [if_pos (by omega)] | rw [if_neg (by omega)])
      rfl

theorem momentNo_any (w : World) (y m d dp h mi sc mc p : Int) (zd : Bool) (z : Int) : Calls Tryd.prog 51 #[mv y m d dp h mi sc mc p zd z] w fun e w' => e = .returned (.int .i64 (mN y m d dp h mi sc mc p zd z)) ∧ Below w.heap.size w w' := by
  unfold mN
  by_cases hu : uf y m d = -1
  · by_cases h1 : dp < 1
    · rw [if_neg (by omega), if_pos (.inl h1)]
      exact noMd w y m d dp h mi sc mc p zd z hu h1
    · by_cases h3 : 3 < dp
      · rw [if_neg (by omega), if_pos (.inr h3)]
        exact noMe w y m d dp h mi sc mc p zd z hu h3
      · have hz : ∀ (a : Int), (if (zd = true ∧ ¬ (-720 ≤ z ∧ z ≤ 840)) ∨ (zd = false ∧ z ≠ 0) then (4 : Int) else -1) = if zd = true then (if ¬ (-720 ≤ z ∧ z ≤ 840) then 4 else -1) else (if z ≠ 0 then 4 else -1) := fun _ => by cases zd <;> simp
        rw [hz 0]
        have htp : p = 0 → tN h mi sc mc p ≠ -1 := fun h0 ht => by
          obtain ⟨_, _, _, _, pn, _, _, _, _, rfl, _, _, _, _, h1, _⟩ := tN_ok ht
          omega
        rcases (by omega : dp = 1 ∨ dp = 2 ∨ dp = 3) with rfl | rfl | rfl
        · by_cases hm : m = 1
          · by_cases hd : d = 1
            · rw [if_neg (by omega), if_neg (by omega)]
              by_cases hp : p = 0
              · subst hp
                cases zd with
                | true => exact noM10_true w y m d h mi sc mc z hu hm hd _ (by simp)
                | false => exact noM10_false w y m d h mi sc mc z hu hm hd _ (by simp)
              · rw [if_pos ⟨fun h => hp h.2.2.2.2, .inl (by omega)⟩]
                exact noMf w y m d h mi sc mc p zd z hu hm hd hp
            · rw [if_pos (by omega)]
              exact noMb w y m d h mi sc mc p zd z hu hd
          · rw [if_pos (by omega)]
            exact noMa w y m d h mi sc mc p zd z hu hm
        · by_cases hd : d = 1
          · rw [if_neg (by omega), if_neg (by omega)]
            by_cases hp : p = 0
            · subst hp
              cases zd with
              | true => exact noM20_true w y m d h mi sc mc z hu hd _ (by simp)
              | false => exact noM20_false w y m d h mi sc mc z hu hd _ (by simp)
            · rw [if_pos ⟨fun h => hp h.2.2.2.2, .inl (by omega)⟩]
              exact noMg w y m d h mi sc mc p zd z hu hd hp
          · rw [if_pos (by omega)]
            exact noMc w y m d h mi sc mc p zd z hu hd
        · rw [if_neg (by omega), if_neg (by omega)]
          by_cases hp : p = 0
          · have ht := htp hp
            subst hp
            cases zd with
            | true => exact noM30_true w y m d h mi sc mc z hu _ (by simp [ht])
            | false => exact noM30_false w y m d h mi sc mc z hu _ (by simp [ht])
          · cases zd with
            | true => exact noM3p_true w y m d h mi sc mc p z hu _ rfl hp _ (by simp [hp])
            | false => exact noM3p_false w y m d h mi sc mc p z hu _ rfl hp _ (by simp [hp])
  · rw [if_pos (.inl hu)]
    exact noMz w y m d dp h mi sc mc p zd z hu
end Go.Proofs.YtggdlagopgpnhaaDoor
