import Derived.Test.YtgdemlebohlolaaGreatDoorQTm
/-
  DERIVED. The document's ParseTime.
-/
namespace Go.Proofs.YtgdemlebohlolaaGreatDoor.Tm
open Go Go.Proofs Go.RowKit

def tv (S : Mst) : Value := .agg #[.int .i64 (S.h : Int), .int .i64 (S.mi : Int), .int .i64 (S.sc : Int), .int .i64 (S.mc : Int), .int .i64 (S.p : Int)]

def Rne (v : Value) (p : Nat) : Prop := ∀ g k c, v = .agg #[.slice (some ⟨g, 0, none⟩) 1 k, c] → g ≠ p
theorem RErr.grown {w w' : World} {p : Nat} {v : Value} {o : Option (Int × Int)} (h : RErr w v o) (hne : Rne v p) (hg : w.grownBy w' (some p)) : RErr w' v o := by
  cases o with
  | none => exact h
  | some x =>
    obtain ⟨g, k, rfl, h0, h1⟩ := h
    have hn := hne g k _ rfl
    exact ⟨g, k, rfl, hg.cell h0 (by simpa using hn), hg.cell h1 (by simpa using hn)⟩
theorem RErr.ne {w : World} {p : Nat} {v c : Value} {o : Option (Int × Int)} (h : RErr w v o) (hc : w.cell? ⟨p, 0, none⟩ = some c) (hs : ∀ s, c ≠ .string s) : Rne v p := by
  intro g k c' hv e
  subst e
  cases o with
  | none =>
    have h2 : v = .agg #[.slice none 0 0, .int .i64 0] := h
    rw [h2] at hv
    simp at hv
  | some x =>
    obtain ⟨g', k', h1, h0, _⟩ := h
    rw [h1] at hv
    simp at hv
    obtain ⟨⟨rfl, _⟩, _⟩ := hv
    rw [hc] at h0
    exact hs _ (Option.some.inj h0)

/-- The results' two blocks. -/
structure MN (w wx : World) (t : TypeId) (n : Nat) (f : Nat → Value) : Prop where
  r : wx.rowIs w.heap.size t n f
  e : wx.rowIs (w.heap.size + 1) 30 2 fN
  b : Below w.heap.size w wx
theorem MN.on {w wx wy : World} {t : TypeId} {n : Nat} {f : Nat → Value} (h : MN w wx t n f) (hb : Below wx.heap.size wx wy) : MN w wy t n f :=
  ⟨row_on h.r hb, row_on h.e hb, h.b.trans (hb.mono h.b.size)⟩
theorem MN.start (w : World) (c : Array Value) (t : TypeId) : MN w ((w.alloc (.cells c t)).alloc (.cells #[.slice none 0 0, .int .i64 0] 30)) t c.size (fun k => c.getD k undef) := by
  refine ⟨(World.rowIs_alloc w _ t _ (row_lit _)).alloc _, ?_, (((Below.refl _ _).alloc (Nat.le_refl _) _).alloc (by simp) _)⟩
  have := World.rowIs_alloc (w.alloc (.cells c t)) #[.slice none 0 0, .int .i64 0] 30 fN (fun i hi => by
      rcases (by simp at hi; omega : i = 0 ∨ i = 1) with rfl | rfl <;> rfl)
  simpa using this

theorem clO_none {i h m s : Nat} (hc : clC h m s = 0) : clO i h m s = none := by
  unfold clC at hc
  unfold clO
  split at hc
  · cases hc
  · rw [if_neg (by omega), if_neg (by omega), if_neg (by omega)]
theorem clO_some {i h m s : Nat} (hc : clC h m s ≠ 0) : clC h m s = 101 ∧ clO i h m s = some (clA i h m s, 101) := by
  unfold clC at hc ⊢
  unfold clO clA
  split at hc
  · rename_i hh
    rw [if_pos hh]
    refine ⟨rfl, ?_⟩
    split
    · rfl
    · split
      · rfl
      · split
        · rfl
        · omega
  · exact absurd rfl hc

/-- What the clock tells, and what the program tells. -/
theorem time_both (w : World) (s : ByteArray) (hs : s.size ≤ 140737488351232) :
    (∃ (T : Value) (c a : Int), (∃ h m sc mc p : Nat, T = t5 h m sc mc p) ∧ Calls Tryz.prog 47 #[.string s, .int .i64 0, .int .i64 (s.size : Int)] w (PostK w T c a) ∧ c ≠ 0 ∧ rdO s (timeS s) = some (a, c)) ∨
    (Calls Tryz.prog 47 #[.string s, .int .i64 0, .int .i64 (s.size : Int)] w (PostK w (tv (timeS s)) 0 0) ∧ rdO s (timeS s) = none) := by
  have hb := clock_both w s 0 s.size hs (by omega) (Nat.le_refl _) (isD_past (by omega)) (by unfold nx; rw [if_pos (.inr (by omega))]; decide) st0 rfl rfl rfl rfl rfl
  have ht : timeS s = ck6 s st0 := rfl
  rcases hb with ⟨p, hc, ha, hb⟩ | ⟨h, m, sc, mc, p, hc, hS⟩
  · left
    refine ⟨_, _, _, ⟨0, 0, 0, 0, 0, rfl⟩, hc, by decide, ?_⟩
    unfold rdO fmO
    rw [ht, ha, if_pos hb]
    rfl
  · by_cases h0 : clC h m sc = 0
    · right
      refine ⟨?_, ?_⟩
      · have hA : clA 0 h m sc = 0 := by
          unfold clC at h0
          unfold clA
          split at h0
          · cases h0
          · rw [if_neg (by omega), if_neg (by omega), if_neg (by omega)]
        rw [h0, hA] at hc
        rw [ht, hS]
        exact hc
      · unfold rdO fmO
        rw [ht, hS, clO_none h0]
        simp [st0]
    · left
      obtain ⟨h1, h2⟩ := clO_some (i := 0) h0
      refine ⟨_, _, _, ⟨h, m, sc, mc, p, rfl⟩, hc, h0, ?_⟩
      unfold rdO fmO
      rw [ht, hS, h2, h1]
      simp [st0]

set_option maxRecDepth 100000 in
set_option maxHeartbeats 1000000 in
theorem parse17_any (w : World) (s : ByteArray) (hs : s.size ≤ 140737488351232) : Calls Tryz.prog 27 #[.string s] w (PostF w (tv (rdM s (timeS s))) (rdO s (timeS s))) := by
  obtain ⟨q, hq⟩ : ∃ q, w.heap.size = q := ⟨_, rfl⟩
  obtain ⟨W2, hW2⟩ : ∃ W2, (w.alloc (.cells #[.int .i64 0, .int .i64 0, .int .i64 0, .int .i64 0, .int .i64 0] 63)).alloc (.cells #[.slice none 0 0, .int .i64 0] 30) = W2 := ⟨_, rfl⟩
  have HM : Hid (MN w W2 63 5 z5) := by show MN w W2 63 5 z5; rw [← hW2]; exact MN.start w _ 63
  have HW2 : Hid _ := hW2
  clear hW2
  unfold rdM
  rcases time_both W2 s hs with ⟨T, c, a, ⟨h, m, sc, mc, p, hT⟩, c42, hc0, ho⟩ | ⟨c42, ho⟩
  · rw [ho, if_neg (by simp)]
    have hcI : (c != 0) = true := by simpa using hc0
    have c32 := fun W => no_any a c W
    clear ho hc0
    subst hT
    unfold t5 at c42
    go_enter Tryz.func27, Tryz.ntmps27
    go_wp2_with (go_at_call 47; refine Stop.mk ?_)
    rw [HW2.out]
    refine Stop.out (c42.mono ?_)
    rintro e W4 ⟨rfl, hb4⟩
    have HM4 : Hid (MN w W4 63 5 z5) := HM.out.on hb4
    obtain ⟨W5, hW5⟩ : ∃ W5, W4.alloc (.cells #[.int .i64 (h : Int), .int .i64 (m : Int), .int .i64 (sc : Int), .int .i64 (mc : Int), .int .i64 (p : Int)] 63) = W5 := ⟨_, rfl⟩
    have HM5 : Hid (MN w W5 63 5 z5) := hW5 ▸ HM4.out.on ((Below.refl _ _).alloc (Nat.le_refl _) _)
    clear c42 hb4 HM HM4 HW2
    go_wp2_with (go_at_call 45; refine Stop.mk ?_)
    refine Stop.out ((c32 _).mono ?_)
    rintro e W6 ⟨v, rfl, hv, hb6⟩
    have HM6 : Hid (MN w W6 63 5 z5) := HM5.out.on hb6
    have hR := HM6.out.r
    have hE := HM6.out.e
    rw [hq] at hR hE
    have r0 : W6.cell? ⟨q, 0, none⟩ = some (.int .i64 0) := hR.cell (i := 0) (by omega)
    have r1 : W6.cell? ⟨q, 1, none⟩ = some (.int .i64 0) := hR.cell (i := 1) (by omega)
    have r2 : W6.cell? ⟨q, 2, none⟩ = some (.int .i64 0) := hR.cell (i := 2) (by omega)
    have r3 : W6.cell? ⟨q, 3, none⟩ = some (.int .i64 0) := hR.cell (i := 3) (by omega)
    have r4 : W6.cell? ⟨q, 4, none⟩ = some (.int .i64 0) := hR.cell (i := 4) (by omega)
    have s0 : W6.cell? ⟨q + 1, 0, none⟩ = some (.slice none 0 0) := hE.cell (i := 0) (by omega)
    have s1 : W6.cell? ⟨q + 1, 1, none⟩ = some (.int .i64 0) := hE.cell (i := 1) (by omega)
    have rf := fun i => hR.frozen i
    have sf := fun i => hE.frozen i
    have n1 : Hid (Rne v q) := hv.ne r0 (fun s => by simp)
    have n2 : Hid (Rne v (q + 1)) := hv.ne s0 (fun s => by simp)
    have HV : Hid (RErr W6 v (some (a, c))) := hv
    have HB6 : Hid (Below q w W6) := by have := HM6.out.b; rw [hq] at this; exact this
    obtain ⟨g, k, rfl, _, _⟩ := hv
    clear c32 hb6 HM5 HM6 hW5 hR hE
    go_wp2
    refine bodyPost_ret (v := .tuple #[tv zeroS, .agg #[.slice (some ⟨g, 0, none⟩) 1 k, .int .i64 c]]) (by simp [results, Tryz.results27, go_sem, tv, zeroS, r0, r1, r2, r3, r4, s0, s1]) rfl ⟨_, rfl, ?_, ?_⟩
    · exact (HV.out.grown n1.out (grown_set (grown_set (grown_set (grown_set (grown_set (grown_refl _ _) 0 _) 1 _) 2 _) 3 _) 4 _)).grown n2.out (grown_set (grown_set (grown_refl _ _) 0 _) 1 _)
    · rw [hq]
      exact (((((((HB6.out).setCell (p := ⟨q, 0, none⟩) (Nat.le_refl _) _).setCell (p := ⟨q, 1, none⟩) (Nat.le_refl _) _).setCell (p := ⟨q, 2, none⟩) (Nat.le_refl _) _).setCell (p := ⟨q, 3, none⟩) (Nat.le_refl _) _).setCell (p := ⟨q, 4, none⟩) (Nat.le_refl _) _).setCell (p := ⟨q + 1, 0, none⟩) (Nat.le_succ _) _).setCell (p := ⟨q + 1, 1, none⟩) (Nat.le_succ _) _
  · rw [ho, if_pos rfl]
    obtain ⟨FS, hFS⟩ : ∃ FS, timeS s = FS := ⟨_, rfl⟩
    rw [hFS] at c42 ⊢
    have c34 := fun W => none34_any W
    clear ho hFS
    unfold tv at c42
    go_enter Tryz.func27, Tryz.ntmps27
    go_wp2_with (go_at_call 47; refine Stop.mk ?_)
    rw [HW2.out]
    refine Stop.out (c42.mono ?_)
    rintro e W4 ⟨rfl, hb4⟩
    have HM4 : Hid (MN w W4 63 5 z5) := HM.out.on hb4
    obtain ⟨B, hB⟩ : ∃ B, W4.heap.size = B := ⟨_, rfl⟩
    obtain ⟨W5, hW5⟩ : ∃ W5, W4.alloc (.cells #[.int .i64 (FS.h : Int), .int .i64 (FS.mi : Int), .int .i64 (FS.sc : Int), .int .i64 (FS.mc : Int), .int .i64 (FS.p : Int)] 63) = W5 := ⟨_, rfl⟩
    have HM5 : Hid (MN w W5.drew 63 5 z5) := by
      have h : MN w W5 63 5 z5 := hW5 ▸ HM4.out.on ((Below.refl _ _).alloc (Nat.le_refl _) _)
      exact ⟨h.r, h.e, h.b.drew⟩
    have HD5 : Hid (W5.drew.rowIs B 63 5 (fun k => #[Value.int .i64 (FS.h : Int), .int .i64 (FS.mi : Int), .int .i64 (FS.sc : Int), .int .i64 (FS.mc : Int), .int .i64 (FS.p : Int)].getD k undef)) := by
      have h : W5.rowIs B 63 5 (fun k => #[Value.int .i64 (FS.h : Int), .int .i64 (FS.mi : Int), .int .i64 (FS.sc : Int), .int .i64 (FS.mc : Int), .int .i64 (FS.p : Int)].getD k undef) := by
        rw [← hW5, ← hB]
        exact World.rowIs_alloc W4 _ 63 _ (row_lit _)
      exact h
    clear c42 hb4 HM HM4 HW2
    go_wp2
    have e0 : W5.cell? ⟨B, 0, none⟩ = some (.int .i64 (FS.h : Int)) := HD5.out.cell (i := 0) (by omega)
    have e1 : W5.cell? ⟨B, 1, none⟩ = some (.int .i64 (FS.mi : Int)) := HD5.out.cell (i := 1) (by omega)
    have e2 : W5.cell? ⟨B, 2, none⟩ = some (.int .i64 (FS.sc : Int)) := HD5.out.cell (i := 2) (by omega)
    have e3 : W5.cell? ⟨B, 3, none⟩ = some (.int .i64 (FS.mc : Int)) := HD5.out.cell (i := 3) (by omega)
    have e4 : W5.cell? ⟨B, 4, none⟩ = some (.int .i64 (FS.p : Int)) := HD5.out.cell (i := 4) (by omega)
    clear hW5
    go_region_with (first | (go_at_call 16; refine (c34 _).mono ?_; rintro e W10 ⟨rfl, hb10⟩; have M10 := MN.on HM5.out hb10; have D10 := row_on HD5.out hb10; have g0 : W10.cell? ⟨B, 0, none⟩ = some (.int .i64 (FS.h : Int)) := D10.cell (i := 0) (by omega); have g1 : W10.cell? ⟨B, 1, none⟩ = some (.int .i64 (FS.mi : Int)) := D10.cell (i := 1) (by omega); have g2 : W10.cell? ⟨B, 2, none⟩ = some (.int .i64 (FS.sc : Int)) := D10.cell (i := 2) (by omega); have g3 : W10.cell? ⟨B, 3, none⟩ = some (.int .i64 (FS.mc : Int)) := D10.cell (i := 3) (by omega); have g4 : W10.cell? ⟨B, 4, none⟩ = some (.int .i64 (FS.p : Int)) := D10.cell (i := 4) (by omega); have hR := M10.r; have hE := M10.e; rw [hq] at hR hE; have r0 : W10.cell? ⟨q, 0, none⟩ = some (.int .i64 0) := hR.cell (i := 0) (by omega); have r1 : W10.cell? ⟨q, 1, none⟩ = some (.int .i64 0) := hR.cell (i := 1) (by omega); have r2 : W10.cell? ⟨q, 2, none⟩ = some (.int .i64 0) := hR.cell (i := 2) (by omega); have r3 : W10.cell? ⟨q, 3, none⟩ = some (.int .i64 0) := hR.cell (i := 3) (by omega); have r4 : W10.cell? ⟨q, 4, none⟩ = some (.int .i64 0) := hR.cell (i := 4) (by omega); have s0 : W10.cell? ⟨q + 1, 0, none⟩ = some (.slice none 0 0) := hE.cell (i := 0) (by omega); have s1 : W10.cell? ⟨q + 1, 1, none⟩ = some (.int .i64 0) := hE.cell (i := 1) (by omega); have rf := fun i => hR.frozen i; have sf := fun i => hE.frozen i) | fail)
    all_goals
      have hB10 := M10.b
      rw [hq] at hB10
      go_wp2
      refine bodyPost_ret (v := .tuple #[tv FS, .agg #[.slice none 0 0, .int .i64 0]]) (by simp [results, Tryz.results27, go_sem, tv, r0, r1, r2, r3, r4, s0, s1]) rfl ⟨_, rfl, rfl, ?_⟩
      rw [hq]
      exact (((((((hB10).setCell (p := ⟨q, 0, none⟩) (Nat.le_refl _) _).setCell (p := ⟨q, 1, none⟩) (Nat.le_refl _) _).setCell (p := ⟨q, 2, none⟩) (Nat.le_refl _) _).setCell (p := ⟨q, 3, none⟩) (Nat.le_refl _) _).setCell (p := ⟨q, 4, none⟩) (Nat.le_refl _) _).setCell (p := ⟨q + 1, 0, none⟩) (Nat.le_succ _) _).setCell (p := ⟨q + 1, 1, none⟩) (Nat.le_succ _) _
end Go.Proofs.YtgdemlebohlolaaGreatDoor.Tm
