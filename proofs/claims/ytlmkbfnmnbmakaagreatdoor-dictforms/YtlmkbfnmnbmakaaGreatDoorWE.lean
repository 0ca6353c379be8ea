
import Derived.Test.YtlmkbfnmnbmakaaGreatDoorWD
import Derived.Lib.QuietBelow
/-
  DERIVED. The same nodes; lent nodes are as they were.
-/
namespace Go.Proofs.YtlmkbfnmnbmakaaGreatDoor.Wk
open Go Go.Proofs Go.RowKit Go.Sort

set_option maxRecDepth 100000 in
set_option maxHeartbeats 1000000 in
theorem nodes_same (w : World) (a1 a2 : Option Addr) (n c1 c2 : Nat) (L : List Nd) (h1 : NV w a1 n c1 L) (h2 : NV w a2 n c2 L) : Calls Tryz.prog 19 #[.slice a1 n c1, .slice a2 n c2] w fun e w' => e = .returned (.bool true) ∧ ∃ m, w' = w.drewN m := by
  have H1 : Hid (NV w a1 n c1 L) := h1
  have H2 : Hid (NV w a2 n c2 L) := h2
  have HN : Hid (n = L.length) := h1.len
  have hsm := h1.small
  clear h1 h2
  go_enter Tryz.func19, Tryz.ntmps19
  go_wp2
  go_loopw [5] (fun s5 wx => ∃ i : Nat, s5 = .int .i64 (i : Int) ∧ i ≤ n ∧ ∃ m, wx = w.drewN m) (fun s5 _ => n - (intOf s5).toNat)
  case atStart => exact ⟨0, rfl, by omega, 0, rfl⟩
  case round =>
    obtain ⟨i, rfl, hi22, m, rfl⟩ := hrel
    by_cases hin : i < n
    · have hil : i < L.length := by rw [← HN.out]; exact hin
      obtain ⟨b1, o1, rfl, l1⟩ := H1.out.lies (by omega)
      obtain ⟨b2, o2, rfl, l2⟩ := H2.out.lies (by omega)
      obtain ⟨a0, a1, a2, a3⟩ := l1 i hil
      obtain ⟨b0, b1', b2', b3⟩ := l2 i hil
      have hI : (i : Int) < (n : Int) := by omega
      generalize L[i]'hil = q at a0 a1 a2 a3 b0 b1' b2' b3
      clear l1 l2
      go_wp2
      go_quiet (fail)
      go_wp2
      go_roundw
      case rel => exact ⟨i + 1, by go_num, by omega, _, rfl⟩
      case measure => simp [intOf]; omega
    · obtain rfl : i = n := by omega
      have hI : ¬ (i : Int) < (i : Int) := by omega
      go_wp2
      go_ret
      exact ⟨rfl, _, rfl⟩

theorem NV.drw {w : World} {a : Option Addr} {n cap : Nat} {L : List Nd} (h : NV w a n cap L) (m : Nat) : NV (w.drewN m) a n cap L := h.on (below_drw (Below.refl _ _) m)
theorem Lent.nv {g base : Nat} {L : List Nd} {w : World} (h : Lent g L base w) (hs : L.length ≤ 3518437208780) (hz : ∀ x ∈ L, -9223372036854775808 ≤ x.n ∧ x.n ≤ 9223372036854775807) : NV w (some ⟨g, 0, none⟩) L.length (L.length + 1) L := by
  refine ⟨rfl, by omega, hs, fun _ => ⟨g, 0, rfl, fun i hi => ?_⟩, hz⟩
  have hg : ∀ k, k < 4 → w.cell? ⟨g, 0 + i * 4 + k, none⟩ = ((L[i]'hi).cs)[k]? := fun k hk => by
    rw [Nat.zero_add]
    refine (World.ownsRow.cellAt h (i * 4 + k) (by omega)).trans ?_
    rw [nds_get (L ++ [mrk]) i (by simp; omega) k hk, List.getElem_append_left hi]
  exact ⟨hg 0 (by decide), hg 1 (by decide), hg 2 (by decide), hg 3 (by decide)⟩
theorem Lent.mark {g base : Nat} {L : List Nd} {w : World} (h : Lent g L base w) : w.cell? ⟨g, L.length * 4, none⟩ = some (.int .u32 2882382797) ∧ w.cell? ⟨g, L.length * 4 + 1, none⟩ = some (.int .i64 0) ∧ w.cell? ⟨g, L.length * 4 + 2, none⟩ = some (.int .i64 7) ∧ w.cell? ⟨g, L.length * 4 + 3, none⟩ = some (.string ⟨#[109, 97, 114, 107]⟩) := by
  have hg : ∀ k, k < 4 → w.cell? ⟨g, L.length * 4 + k, none⟩ = (mrk.cs)[k]? := fun k hk => by
    refine (World.ownsRow.cellAt h (L.length * 4 + k) (by omega)).trans ?_
    rw [nds_get (L ++ [mrk]) L.length (by simp) k hk, List.getElem_append_right (Nat.le_refl _)]
    simp
  exact ⟨hg 0 (by decide), hg 1 (by decide), hg 2 (by decide), hg 3 (by decide)⟩
theorem hmix : Tryz.prog.follows .mixedOrders = true := by kernel_rfl

set_option maxRecDepth 100000 in
set_option maxHeartbeats 2000000 in
theorem kept_any (w : World) (g base : Nat) (a : Option Addr) (n cap : Nat) (L : List Nd) (h : NV w a n cap L) (hl : Lent g L base w) : Calls Tryz.prog 8 #[.slice (some ⟨g, 0, none⟩) n (n + 1), .slice a n cap] w fun e w' => e = .returned (.bool true) ∧ Below w.heap.size w w' := by
  have hn := h.len
  have c11 := nodes_same w (some ⟨g, 0, none⟩) a n (n + 1) cap L (by rw [hn]; exact hl.nv (by have := h.small; omega) h.num) h
  obtain ⟨m0, m1, m2, m3⟩ := hl.mark
  rw [← hn] at m0 m1 m2 m3
  have hsm := h.small
  have hnI : (n : Int) < (n : Int) + 1 := by omega
  have hnJ : (n : Int) + 1 ≤ (n : Int) + 1 := by omega
  clear hn h hl
  go_enter Tryz.func8, Tryz.ntmps8
  go_wp2_with (go_at_call 19; refine StopF.out ?_)
  refine ⟨Calls.mono c11 ?_⟩
  rintro e W ⟨rfl, m, rfl⟩
  clear c11
  go_wp2
  obtain ⟨W1, hW1⟩ : ∃ W1, W1 = w.drewN m := ⟨_, rfl⟩
  have HB1 : Hid (Below w.heap.size w W1) := by rw [hW1]; exact below_drw (Below.refl _ _) m
  have hs1 : w.heap.size ≤ W1.heap.size := HB1.out.size
  have hgl : g < w.heap.size := cell_lt m0
  replace m0 := (HB1.out.cell (p := ⟨g, n * 4, none⟩) hgl).trans m0
  replace m1 := (HB1.out.cell (p := ⟨g, n * 4 + 1, none⟩) hgl).trans m1
  replace m2 := (HB1.out.cell (p := ⟨g, n * 4 + 2, none⟩) hgl).trans m2
  replace m3 := (HB1.out.cell (p := ⟨g, n * 4 + 3, none⟩) hgl).trans m3
  rw [← hW1]
  clear hW1
  have k0 := fun d os => cell_regrown m0 d os
  have k1 := fun d os => cell_regrown m1 d os
  have k2 := fun d os => cell_regrown m2 d os
  have k3 := fun d os => cell_regrown m3 d os
  have cM : ∀ d os, Calls Tryz.prog 10 #[] (grow (redrawn W1 d) os) fun x w'' => x = .returned (.agg #[.int .u32 2882382797, .int .i64 0, .int .i64 7, .string ⟨#[109, 97, 114, 107]⟩]) ∧ ∃ p : Regrown, w'' = grow (redrawn W1 p.d) p.os := fun d os => Calls.regrown_of (marker_any _)
  refine wp_region_quiet_below hmix (by kernel_rfl) ?_
  repeat (quiet_step (first | exact cM _ _))
  refine wpQuiet_nil ?_
  intro _ hw'
  obtain ⟨⟨dq, osq⟩, hw''⟩ := hw'
  subst hw''
  have hBW := below_regrown W1 dq osq
  have HB : Hid (Below w.heap.size w (grow (redrawn W1 dq) osq)) := HB1.out.trans (hBW.mono hs1)
  clear cM hBW k0 k1 k2 k3
  go_wp2
  go_ret
  exact ⟨rfl, HB.out⟩
end Go.Proofs.YtlmkbfnmnbmakaaGreatDoor.Wk
