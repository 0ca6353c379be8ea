import Derived.Test.YtohojghndnfgdaaGreatDoorPc
import Derived.Deep.RegionWith
/-
  DERIVED. A group, read: the walk.
-/
namespace Go.Proofs.YtohojghndnfgdaaGreatDoor
open Go Go.Proofs Go.RowKit

structure GI (w wx : World) (B : Nat) (G : ByteArray) (p : Nat) (acc : List ByteArray) : Prop where
  res : wx.rowIs B 39 5 (f5 [])
  prt : wx.rowIs (B + 1) 39 5 (f5 acc)
  it : wx.heap[B + 2]? = some (.stringIter G p)
  bel : Below B w wx
theorem GI.on {w wx wy : World} {B : Nat} {G : ByteArray} {p : Nat} {acc : List ByteArray} (h : GI w wx B G p acc) (hb : Below wx.heap.size wx wy) : GI w wy B G p acc :=
  ⟨h.res.of_block (hb.block _ h.res.lt), h.prt.of_block (hb.block _ h.prt.lt), (hb.block _ (Array.getElem?_eq_some_iff.1 h.it).1).trans h.it, h.bel.trans (hb.mono (Nat.le_of_lt h.res.lt))⟩
theorem GI.step {w wx : World} {B : Nat} {G : ByteArray} {p : Nat} {acc : List ByteArray} (h : GI w wx B G p acc) (p' : Nat) : GI w (wx.iterAt (B + 2) G p') B G p' acc :=
  ⟨h.res.of_block (by rw [Lib.iterAt_other]; omega), h.prt.of_block (by rw [Lib.iterAt_other]; omega), Lib.iterAt_heap wx (B + 2) G p p' h.it, Lib.below_iterAt h.bel (k := B + 2) (by omega) G p'⟩
theorem GI.put {w wx : World} {B : Nat} {G : ByteArray} {p : Nat} {acc : List ByteArray} (h : GI w wx B G p acc) (x : ByteArray) : GI w (wx.setCell ⟨B + 1, acc.length, none⟩ (.string x)) B G p (acc ++ [x]) := by
  refine ⟨h.res.setOther (by show B ≠ B + 1; omega) _, row5_next h.prt x, ?_, h.bel.setCell (p := ⟨B + 1, acc.length, none⟩) (by show B ≤ B + 1; omega) _⟩
  rw [Below.heap_setCell wx ⟨B + 1, acc.length, none⟩ _ (B + 2) (by show B + 2 ≠ B + 1; omega)]
  exact h.it
theorem GI.facts {w wx : World} {B : Nat} {G : ByteArray} {p : Nat} {acc : List ByteArray} (h : GI w wx B G p acc) :
    wx.cell? ⟨B, 0, none⟩ = some (.string ⟨#[]⟩) ∧ wx.cell? ⟨B, 1, none⟩ = some (.string ⟨#[]⟩) ∧ wx.cell? ⟨B, 2, none⟩ = some (.string ⟨#[]⟩) ∧ wx.cell? ⟨B, 3, none⟩ = some (.string ⟨#[]⟩) ∧ wx.cell? ⟨B, 4, none⟩ = some (.string ⟨#[]⟩) ∧
    wx.cell? ⟨B + 1, 0, none⟩ = some (.string (t5 acc 0)) ∧ wx.cell? ⟨B + 1, 1, none⟩ = some (.string (t5 acc 1)) ∧ wx.cell? ⟨B + 1, 2, none⟩ = some (.string (t5 acc 2)) ∧ wx.cell? ⟨B + 1, 3, none⟩ = some (.string (t5 acc 3)) ∧ wx.cell? ⟨B + 1, 4, none⟩ = some (.string (t5 acc 4)) ∧ (∀ i, wx.frozen? ⟨B, i, none⟩ = false) ∧ (∀ i, wx.frozen? ⟨B + 1, i, none⟩ = false) :=
  ⟨h.res.cell (i := 0) (by omega), h.res.cell (i := 1) (by omega), h.res.cell (i := 2) (by omega), h.res.cell (i := 3) (by omega), h.res.cell (i := 4) (by omega), h.prt.cell (i := 0) (by omega), h.prt.cell (i := 1) (by omega), h.prt.cell (i := 2) (by omega), h.prt.cell (i := 3) (by omega), h.prt.cell (i := 4) (by omega), fun i => h.res.frozen i, fun i => h.prt.frozen i⟩
theorem PErr.strset {W : World} {v : Value} {o : Option (Int × Int)} (h : PErr W v o) {B : Nat} {x : ByteArray} (h0 : W.cell? ⟨B, 2, none⟩ = some (.string x)) (i : Nat) (u : Value) : PErr (W.setCell ⟨B, i, none⟩ u) v o := by
  cases o with
  | none => exact h
  | some y =>
    obtain ⟨q, rfl, h1, h2, h3⟩ := h
    have hne : q ≠ B := by rintro rfl; rw [h0] at h3; simp at h3
    have hb : (W.setCell ⟨B, i, none⟩ u).heap[q]? = W.heap[q]? := Below.heap_setCell W ⟨B, i, none⟩ u q hne
    exact ⟨q, rfl, (World.cell?_of_block (w := W) hb).trans h1, (World.cell?_of_block (w := W) hb).trans h2, (World.cell?_of_block (w := W) hb).trans h3⟩
def put5 (W : World) (B : Nat) (L : List ByteArray) : World := ((((W.setCell ⟨B, 0, none⟩ (.string (t5 L 0))).setCell ⟨B, 1, none⟩ (.string (t5 L 1))).setCell ⟨B, 2, none⟩ (.string (t5 L 2))).setCell ⟨B, 3, none⟩ (.string (t5 L 3))).setCell ⟨B, 4, none⟩ (.string (t5 L 4))
theorem put5_all {w W : World} {B : Nat} (hr : W.rowIs B 39 5 (f5 [])) (L : List ByteArray) (hb : Below B w W) :
    (W.setCell ⟨B, 0, none⟩ (.string (t5 L 0))).cell? ⟨B, 0, none⟩ = some (.string (t5 L 0)) ∧ ((W.setCell ⟨B, 0, none⟩ (.string (t5 L 0))).setCell ⟨B, 1, none⟩ (.string (t5 L 1))).cell? ⟨B, 1, none⟩ = some (.string (t5 L 1)) ∧ (((W.setCell ⟨B, 0, none⟩ (.string (t5 L 0))).setCell ⟨B, 1, none⟩ (.string (t5 L 1))).setCell ⟨B, 2, none⟩ (.string (t5 L 2))).cell? ⟨B, 2, none⟩ = some (.string (t5 L 2)) ∧ ((((W.setCell ⟨B, 0, none⟩ (.string (t5 L 0))).setCell ⟨B, 1, none⟩ (.string (t5 L 1))).setCell ⟨B, 2, none⟩ (.string (t5 L 2))).setCell ⟨B, 3, none⟩ (.string (t5 L 3))).cell? ⟨B, 3, none⟩ = some (.string (t5 L 3)) ∧ (put5 W B L).cell? ⟨B, 4, none⟩ = some (.string (t5 L 4)) ∧
    (∀ {v o}, PErr W v o → PErr (put5 W B L) v o) ∧ Below B w (put5 W B L) := by
  have r1 := hr.set 0 (.string (t5 L 0))
  have r2 := r1.set 1 (.string (t5 L 1))
  have r3 := r2.set 2 (.string (t5 L 2))
  have r4 := r3.set 3 (.string (t5 L 3))
  have r5 := r4.set 4 (.string (t5 L 4))
  refine ⟨r1.cell (i := 0) (by omega), r2.cell (i := 1) (by omega), r3.cell (i := 2) (by omega), r4.cell (i := 3) (by omega), r5.cell (i := 4) (by omega), fun h => ?_, ((((hb.setCell (p := ⟨B, 0, none⟩) (Nat.le_refl _) _).setCell (p := ⟨B, 1, none⟩) (Nat.le_refl _) _).setCell (p := ⟨B, 2, none⟩) (Nat.le_refl _) _).setCell (p := ⟨B, 3, none⟩) (Nat.le_refl _) _).setCell (p := ⟨B, 4, none⟩) (Nat.le_refl _) _⟩
  exact ((((h.strset (hr.cell (i := 2) (by omega)) 0 _).strset (r1.cell (i := 2) (by omega)) 1 _).strset (r2.cell (i := 2) (by omega)) 2 _).strset (r3.cell (i := 2) (by omega)) 3 _).strset (r4.cell (i := 2) (by omega)) 4 _

/-- What readGroup leaves. -/
def PostG (w : World) (G : ByteArray) (at' : Nat) (e : Ending) (w' : World) : Prop := ∃ L v, e = .returned (.tuple #[.agg (a5 L), v]) ∧ PErr w' v ((gR G).1.map fun x => ((at' : Int) + (x.1 : Int), x.2)) ∧ Below w.heap.size w w' ∧ ((gR G).1 = none → L = (gR G).2)
theorem row5_new (w : World) : (w.alloc (.cells #[.string ⟨#[]⟩, .string ⟨#[]⟩, .string ⟨#[]⟩, .string ⟨#[]⟩, .string ⟨#[]⟩] 39)).rowIs w.heap.size 39 5 (f5 []) :=
  World.rowIs_alloc w #[.string ⟨#[]⟩, .string ⟨#[]⟩, .string ⟨#[]⟩, .string ⟨#[]⟩, .string ⟨#[]⟩] 39 (f5 []) (fun i hi => by
    have h3 : i = 0 ∨ i = 1 ∨ i = 2 ∨ i = 3 ∨ i = 4 := by simp at hi; omega
    rcases h3 with rfl | rfl | rfl | rfl | rfl <;> rfl)
theorem gR_bad {G : ByteArray} {x : Nat × Int} (h : scn G G.size 0 0 0 [] = (some x, [])) : (gR G).1 = some x := by
  unfold gR
  rw [h, if_pos (by simp)]
theorem gR_long {G : ByteArray} {L : List ByteArray} (h : scn G G.size 0 0 0 [] = (none, L)) (h2 : 64 < rn G 0) : (gR G).1 = some (0, 103) := by
  unfold gR
  rw [h, if_neg (by simp), if_pos h2]
theorem gR_ok {G : ByteArray} {L : List ByteArray} (h : scn G G.size 0 0 0 [] = (none, L)) (h2 : ¬ 64 < rn G 0) : gR G = (none, L) := by
  unfold gR
  rw [h, if_neg (by simp), if_neg h2]

set_option maxRecDepth 100000 in
set_option maxHeartbeats 2000000 in
theorem read11_any (w : World) (G : ByteArray) (hs : G.size ≤ 140737488351232) (at' : Nat) (ha : at' ≤ 281474976702464) : Calls Tryz.prog 21 #[.string G, .int .i64 (at' : Int)] w (PostG w G at') := by
  obtain ⟨B, hB⟩ : ∃ B, w.heap.size = B := ⟨_, rfl⟩
  obtain ⟨S, hS0⟩ : ∃ S, scn G G.size 0 0 0 [] = S := ⟨_, rfl⟩
  have HS0 : Hid (scn G G.size 0 0 0 [] = S) := hS0
  clear hS0
  go_enter Tryz.func21, Tryz.ntmps21
  go_wp2
  go_loopg [7, 8, 9] G.size (fun g s7 s8 s9 wx => ∃ (p fr n : Nat) (acc : List ByteArray), s7 = .int .i64 (acc.length : Int) ∧ s8 = .int .i64 (fr : Int) ∧ s9 = .int .i64 (n : Int) ∧ g + p = G.size ∧ fr ≤ p ∧ acc.length ≤ 4 ∧ n ≤ p ∧ Hid (GI w wx B G p acc) ∧ Hid (scn G (G.size - p) p acc.length fr acc = S) ∧ Hid (n + rn G p = rn G 0))
  case atStart =>
    refine ⟨0, 0, 0, [], rfl, rfl, rfl, by omega, by omega, by show 0 ≤ 4; omega, by omega, ?_, HS0, by show _ = _; omega⟩
    have r1 := row5_new w
    have r2 := row5_new (w.alloc (.cells #[.string ⟨#[]⟩, .string ⟨#[]⟩, .string ⟨#[]⟩, .string ⟨#[]⟩, .string ⟨#[]⟩] 39))
    rw [World.size_alloc, hB] at r2
    rw [hB] at r1
    have hi := World.iter_heap ((w.alloc (.cells #[.string ⟨#[]⟩, .string ⟨#[]⟩, .string ⟨#[]⟩, .string ⟨#[]⟩, .string ⟨#[]⟩] 39)).alloc (.cells #[.string ⟨#[]⟩, .string ⟨#[]⟩, .string ⟨#[]⟩, .string ⟨#[]⟩, .string ⟨#[]⟩] 39)) G 0
    rw [World.size_alloc, World.size_alloc, hB] at hi
    exact ⟨(r1.alloc _).alloc _, r2.alloc _, hi, (((Below.refl _ w).alloc (by omega) _).alloc (by simp; omega) _).alloc (by simp; omega) _⟩
  case round =>
    obtain ⟨p, fr, n, acc, rfl, rfl, rfl, hg, hfr, hc4, hnp, HG, HS, HR⟩ := hrel
    by_cases hp : p < G.size
    · have hnx : ∀ ty, (Instr.next (.pointer (some ⟨B + 2, 0, none⟩)) true ty).run Tryz.prog wr = _ := fun ty => Lib.run_next_any_at wr (B + 2) G p ty HG.out.it hp
      have hw1 : 1 ≤ (Utf8.decode G p).2 := oneW_pos G p hp
      have hrs := rn_step G p hp
      have HG1 : Hid (GI w (wr.iterAt (B + 2) G (p + (Utf8.decode G p).2)) B G (p + (Utf8.decode G p).2) acc) := HG.out.step _
      have HR2 : Hid (n + 1 + rn G (p + (Utf8.decode G p).2) = rn G 0) := by have := HR.out; show _ = _; omega
      have hpB : (at' : Int) + (p : Int) ≤ 562949953404928 := by omega
      have hwr : IntKind.i64.wrap ((at' : Int) + (p : Int)) = (at' : Int) + (p : Int) := by rw [IntKind.wrap_i64]; omega
      have hle := fun h => (rune_hi G p hp h).2.1
      have HS2 : Hid (scn G ((G.size - (p + 1)) + 1) p acc.length fr acc = S) := by have := HS.out; rw [show G.size - p = (G.size - (p + 1)) + 1 by omega] at this; exact this
      have hlo := rune_lo G p hp
      have hhi := rune_hi G p hp
      have hd1 := decode_le G p
      by_cases hr : (Utf8.decode G p).2 = 1 ∧ (G.get! p).toNat < 128
      · have e1 := hlo hr
        have e2 := hr.1
        obtain ⟨b, hb⟩ : ∃ b, (G.get! p).toNat = b := ⟨_, rfl⟩
        have hb128 : b < 128 := by rw [← hb]; exact hr.2
        have h2 := HS2.out
        rw [scn, hb] at h2
        rw [hb] at e1
        rw [e1, e2] at hnx
        rw [e2] at HG1 HR2
        generalize wr.iterAt (B + 2) G (p + 1) = W1 at *
        clear hlo hhi hle e1 e2 hr hw1 hrs HS2 hd1 HG HR HS
        have c24 := isBarred_any W1 (b : Int)
        by_cases hbar : barI (b : Int) = true
        · rw [if_pos hbar] at h2
          rw [hbar] at c24
          clear hbar
          skip
          obtain ⟨q0, q1, q2, q3, q4, s0, s1, s2, s3, s4, qf, sf⟩ := HG1.out.facts
          have c9 := fun W => refusal_any ((at' : Int) + (p : Int)) 100 W
          have HE : Hid ((gR G).1 = some (p, 100)) := gR_bad (HS0.out.trans h2.symm)
          clear h2
          go_wp2_with (go_at_call 43; refine Stop.mk ?_)
          refine Stop.out (c24.mono ?_)
          rintro e W ⟨rfl, rfl⟩
          clear c24
          go_wp2
          go_region_with (go_at_call 15; refine (c9 _).mono ?_; rintro e W3 ⟨v, rfl, hv, hb⟩; have hb3 : Below (W1).heap.size (W1) W3 := ⟨hb.os, hb.tape, hb.output, hb.size, hb.block⟩; clear hb; have HG3 : Hid (GI w W3 B G (p + 1) acc) := HG1.out.on hb3; obtain ⟨p0, p1, p2, p3, p4, t0, t1, t2, t3, t4, pf, tf⟩ := HG3.out.facts; have HV3 : Hid (PErr W3 v (some (((at' : Int) + (p : Int)), 100))) := hv; clear hv hb3)
          all_goals
            go_wp2
            obtain ⟨k0, k1, k2, k3, k4, kp, kb⟩ := put5_all HG3.out.res acc HG3.out.bel
            unfold put5 at *
            refine bodyPost_ret (v := .tuple #[.agg (a5 acc), v]) (by simp [results, Tryz.results21, go_sem, a5, k0, k1, k2, k3, k4]) rfl ⟨acc, v, rfl, ?_, ?_, fun hh => by rw [HE.out] at hh; cases hh⟩
            · rw [HE.out]; exact kp HV3.out
            · rw [hB]; exact kb
        · rw [if_neg hbar] at h2
          have hbar' : barI (b : Int) = false := by cases hh : barI (b : Int) with | true => exact absurd hh hbar | false => rfl
          rw [hbar'] at c24
          clear hbar hbar'
          by_cases h94 : b = 94
          · rw [if_pos h94] at h2
            have e94 : ((b : Int) != 94) = false := by rw [h94]; rfl
            by_cases h4 : acc.length = 4
            · rw [if_pos h4] at h2
              have e4 : ((acc.length : Int) == 4) = true := by rw [h4]; rfl
              clear h94 h4
              skip
              obtain ⟨q0, q1, q2, q3, q4, s0, s1, s2, s3, s4, qf, sf⟩ := HG1.out.facts
              have c9 := fun W => refusal_any ((at' : Int) + (p : Int)) 104 W
              have HE : Hid ((gR G).1 = some (p, 104)) := gR_bad (HS0.out.trans h2.symm)
              clear h2
              go_wp2_with (go_at_call 43; refine Stop.mk ?_)
              refine Stop.out (c24.mono ?_)
              rintro e W ⟨rfl, rfl⟩
              clear c24
              go_wp2
              go_region_with (go_at_call 15; refine (c9 _).mono ?_; rintro e W3 ⟨v, rfl, hv, hb⟩; have hb3 : Below (W1).heap.size (W1) W3 := ⟨hb.os, hb.tape, hb.output, hb.size, hb.block⟩; clear hb; have HG3 : Hid (GI w W3 B G (p + 1) acc) := HG1.out.on hb3; obtain ⟨p0, p1, p2, p3, p4, t0, t1, t2, t3, t4, pf, tf⟩ := HG3.out.facts; have HV3 : Hid (PErr W3 v (some (((at' : Int) + (p : Int)), 104))) := hv; clear hv hb3)
              all_goals
                go_wp2
                obtain ⟨k0, k1, k2, k3, k4, kp, kb⟩ := put5_all HG3.out.res acc HG3.out.bel
                unfold put5 at *
                refine bodyPost_ret (v := .tuple #[.agg (a5 acc), v]) (by simp [results, Tryz.results21, go_sem, a5, k0, k1, k2, k3, k4]) rfl ⟨acc, v, rfl, ?_, ?_, fun hh => by rw [HE.out] at hh; cases hh⟩
                · rw [HE.out]; exact kp HV3.out
                · rw [hB]; exact kb
            · rw [if_neg h4] at h2
              have e4 : ((acc.length : Int) == 4) = false := by simpa using (by omega : ¬ (acc.length : Int) = 4)
              obtain ⟨x, hx⟩ : ∃ x, G.extract fr p = x := ⟨_, rfl⟩
              rw [hx] at h2
              have HS3 : Hid (scn G (G.size - (p + 1)) (p + 1) (acc ++ [x]).length (p + 1) (acc ++ [x]) = S) := by show _ = _; rw [List.length_append, List.length_singleton]; exact h2
              have HG2 : Hid (GI w (W1.setCell ⟨B + 1, acc.length, none⟩ (.string x)) B G (p + 1) (acc ++ [x])) := HG1.out.put x
              have k0 : W1.cell? ⟨B + 1, acc.length, none⟩ = some (.string (t5 acc acc.length)) := HG1.out.prt.cell (by omega)
              have kf : ∀ i, W1.frozen? ⟨B + 1, i, none⟩ = false := fun i => HG1.out.prt.frozen i
              have b1 : (fr : Int) ≤ (p : Int) := by omega
              have b2 : (p : Int) ≤ (G.size : Int) := by omega
              have b3 : (acc.length : Int) < 5 := by omega
              have hl3 : (acc ++ [x]).length ≤ 4 := by rw [List.length_append, List.length_singleton]; omega
              have hl4 : (((acc ++ [x]).length : Nat) : Int) = (acc.length : Int) + 1 := by rw [List.length_append, List.length_singleton]; omega
              have HL4 : Hid ((((acc ++ [x]).length : Nat) : Int) = (acc.length : Int) + 1) := hl4
              clear h94 h4 h2 hl4 HG1
              go_wp2_with (go_at_call 43; refine Stop.mk ?_)
              refine Stop.out (c24.mono ?_)
              rintro e W ⟨rfl, rfl⟩
              clear c24
              go_wp2
              go_roundg (G.size - (p + 1))
              case measure => omega
              case rel => exact ⟨p + 1, p + 1, n + 1, acc ++ [x], by rw [HL4.out], by first | rfl | simp, by first | rfl | simp, by omega, by omega, hl3, by omega, HG2, HS3, HR2⟩
          · rw [if_neg h94] at h2
            have e94 : ((b : Int) != 94) = true := by simpa using (by omega : ¬ (b : Int) = 94)
            have HS3 : Hid (scn G (G.size - (p + 1)) (p + 1) acc.length fr acc = S) := h2
            clear h94 h2
            go_wp2_with (go_at_call 43; refine Stop.mk ?_)
            refine Stop.out (c24.mono ?_)
            rintro e W ⟨rfl, rfl⟩
            clear c24
            go_wp2
            go_roundg (G.size - (p + 1))
            case measure => omega
            case rel => exact ⟨p + 1, fr, n + 1, acc, rfl, rfl, by first | rfl | simp, by omega, by omega, hc4, by omega, HG1, HS3, HR2⟩
      · obtain ⟨h3, h4, h5⟩ := hhi hr
        have HS3 : Hid (scn G (G.size - (p + (Utf8.decode G p).2)) (p + (Utf8.decode G p).2) acc.length fr acc = S) := by
          have := HS.out
          rw [show G.size - p = (G.size - (p + (Utf8.decode G p).2)) + (Utf8.decode G p).2 by omega, scn_skip G _ _ _ _ _ _ h3] at this
          exact this
        clear hlo hhi hle hr h3 hrs HS2 HG HR HS
        generalize (Utf8.decode G p).1 = d1 at *
        generalize (Utf8.decode G p).2 = d2 at *
        generalize wr.iterAt (B + 2) G (p + d2) = W1 at *
        have c24 := isBarred_any W1 (d1 : Int)
        rw [bar_hi h5] at c24
        have e94 : ((d1 : Int) != 94) = true := by simpa using (by omega : ¬ (d1 : Int) = 94)
        go_wp2_with (go_at_call 43; refine Stop.mk ?_)
        refine Stop.out (c24.mono ?_)
        rintro e W ⟨rfl, rfl⟩
        clear c24
        go_wp2
        go_roundg (G.size - (p + d2))
        case measure => omega
        case rel => exact ⟨p + d2, fr, n + 1, acc, rfl, rfl, by first | rfl | simp, by omega, by omega, hc4, by omega, HG1, HS3, HR2⟩
    · have hnx : ∀ ty, (Instr.next (.pointer (some ⟨B + 2, 0, none⟩)) true ty).run Tryz.prog wr = _ := fun ty => Lib.run_next_end_at wr (B + 2) G p ty HG.out.it hp
      have hn : n = rn G 0 := by have := HR.out; rw [rn_end G p hp] at this; omega
      have hS := HS.out
      rw [show G.size - p = 0 by omega, scn] at hS
      have hps : p = G.size := by omega
      obtain ⟨x, hx⟩ : ∃ x, G.extract fr G.size = x := ⟨_, rfl⟩
      rw [hx] at hS
      have HG2 : Hid (GI w (wr.setCell ⟨B + 1, acc.length, none⟩ (.string x)) B G p (acc ++ [x])) := HG.out.put x
      have k0 : wr.cell? ⟨B + 1, acc.length, none⟩ = some (.string (t5 acc acc.length)) := HG.out.prt.cell (by omega)
      have kf : ∀ i, wr.frozen? ⟨B + 1, i, none⟩ = false := fun i => HG.out.prt.frozen i
      have b1 : (fr : Int) ≤ (G.size : Int) := by omega
      have b3 : (acc.length : Int) < 5 := by omega
      have HSS : Hid (scn G G.size 0 0 0 [] = (none, acc ++ [x])) := HS0.out.trans hS.symm
      have HN : Hid (n = rn G 0) := hn
      clear hn hS HS HR hps HG
      generalize acc ++ [x] = L at *
      go_upto_region 15 with fail
      obtain ⟨W2, hW2⟩ : ∃ W2, wr.setCell ⟨B + 1, acc.length, none⟩ (.string x) = W2 := ⟨_, rfl⟩
      rw [hW2] at HG2 ⊢
      clear hW2 k0 kf
      by_cases h64 : 64 < n
      · have h64I : (64 : Int) < (n : Int) := by omega
        have HG1 : Hid (GI w W2 B G p L) := HG2.out
        obtain ⟨q0, q1, q2, q3, q4, s0, s1, s2, s3, s4, qf, sf⟩ := HG1.out.facts
        have c9 := fun W => refusal_any (at' : Int) 103 W
        have HE : Hid ((gR G).1 = some (0, 103)) := gR_long HSS.out (by rw [← HN.out]; exact h64)
        go_wp2
        go_region_with (go_at_call 15; refine (c9 _).mono ?_; rintro e W3 ⟨v, rfl, hv, hb⟩; have hb3 : Below (W2).heap.size (W2) W3 := ⟨hb.os, hb.tape, hb.output, hb.size, hb.block⟩; clear hb; have HG3 : Hid (GI w W3 B G p L) := HG1.out.on hb3; obtain ⟨p0, p1, p2, p3, p4, t0, t1, t2, t3, t4, pf, tf⟩ := HG3.out.facts; have HV3 : Hid (PErr W3 v (some ((at' : Int), 103))) := hv; clear hv hb3)
        all_goals
          go_wp2
          obtain ⟨k0, k1, k2, k3, k4, kp, kb⟩ := put5_all HG3.out.res L HG3.out.bel
          unfold put5 at *
          refine bodyPost_ret (v := .tuple #[.agg (a5 L), v]) (by simp [results, Tryz.results21, go_sem, a5, k0, k1, k2, k3, k4]) rfl ⟨L, v, rfl, ?_, ?_, fun hh => by rw [HE.out] at hh; cases hh⟩
          · rw [HE.out]; exact kp (by simpa using HV3.out)
          · rw [hB]; exact kb
      · have h64I : ¬ ((64 : Int) < (n : Int)) := by omega
        have hgr := gR_ok HSS.out (by rw [← HN.out]; exact h64)
        have HGR : Hid (gR G = (none, L)) := hgr
        obtain ⟨q0, q1, q2, q3, q4, s0, s1, s2, s3, s4, qf, sf⟩ := HG2.out.facts
        clear hgr h64
        go_wp2
        obtain ⟨k0, k1, k2, k3, k4, kp, kb⟩ := put5_all HG2.out.res L HG2.out.bel
        unfold put5 at *
        refine bodyPost_ret (v := .tuple #[.agg (a5 L), .nilIface]) (by simp [results, Tryz.results21, go_sem, a5, k0, k1, k2, k3, k4]) rfl ⟨L, .nilIface, rfl, (by rw [HGR.out]; exact rfl), ?_, fun _ => (by rw [HGR.out])⟩
        · rw [hB]; exact kb
end Go.Proofs.YtohojghndnfgdaaGreatDoor
