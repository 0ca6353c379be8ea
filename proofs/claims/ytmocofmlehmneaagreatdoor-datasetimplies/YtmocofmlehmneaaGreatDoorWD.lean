import Derived.Test.YtmocofmlehmneaaGreatDoorWA
import Derived.WideMake
import Derived.Room.AppendFits
import Derived.Lib.QuietBelow
/-
  DERIVED. Nodes that are lent, with a mark behind them.
-/
namespace Go.Proofs.YtmocofmlehmneaaGreatDoor.Wk
open Go Go.Proofs Go.RowKit

theorem info34 : (Tryz.prog.info? 42).map (fun i => (i.zero, i.size, i.bytes)) = some (some (.agg #[.int .u32 0, .int .i64 0, .int .i64 0, .string ⟨#[]⟩]), 4, 40) := by kernel_rfl
theorem info22 : (Tryz.prog.info? 22).map (fun i => (i.zero, i.size, i.bytes)) = some (some (.slice none 0 0), 1, 24) := by kernel_rfl
def mrk : Nd := ⟨2882382797, 0, 7, ⟨#[109, 97, 114, 107]⟩⟩

set_option maxRecDepth 100000 in
theorem marker_any (w : World) : Calls Tryz.prog 12 #[] w fun e w' => e = .returned (.agg #[.int .u32 2882382797, .int .i64 0, .int .i64 7, .string ⟨#[109, 97, 114, 107]⟩]) ∧ Below w.heap.size w w' := by
  go_enter Tryz.func12, Tryz.ntmps12
  go_wp2
  refine bodyPost_ret (v := .agg #[.int .u32 2882382797, .int .i64 0, .int .i64 7, .string ⟨#[109, 97, 114, 107]⟩]) (by simp [results, Tryz.results12, go_sem]) rfl ⟨rfl, (Below.refl _ _).alloc (Nat.le_refl _) _⟩

theorem take_nds {L : List Nd} {k : Nat} (h : k < L.length) : nds (L.take (k + 1)) = nds (L.take k) ++ (L[k]'h).cs := by
  rw [List.take_add_one, List.getElem?_eq_getElem h, nds_append]
  congr 1
theorem cs_one (a : Nd) : ∀ u ∈ a.cs, u.oneCell' = true := by
  intro u hu
  simp [Nd.cs] at hu
  rcases hu with rfl | rfl | rfl | rfl <;> rfl

/-- What was lent: the nodes in block g, a mark behind them. -/
def Lent (g : Nat) (L : List Nd) (base : Nat) (w : World) : Prop := w.ownsRow base 42 4 (.slice (some ⟨g, 0, none⟩) (L.length + 1) (L.length + 1)) (L.length + 1) (nds (L ++ [mrk]))

set_option maxRecDepth 100000 in
set_option maxHeartbeats 2000000 in
theorem lend_any (w : World) (a : Option Addr) (n cap : Nat) (L : List Nd) (h : NV w a n cap L) : Calls Tryz.prog 4 #[.slice a n cap] w fun e w' => e = .returned (.slice (some ⟨w.heap.size, 0, none⟩) n (n + 1)) ∧ Lent w.heap.size L w.heap.size w' ∧ Below w.heap.size w w' := by
  have HV : Hid (NV w a n cap L) := h
  have HN : Hid (n = L.length) := h.len
  have hsm := h.small
  clear h
  unfold Lent
  rw [← HN.out]
  obtain ⟨i0, hi, hz0, hz1, hz2⟩ := info_parts info34
  obtain ⟨B, hB⟩ : ∃ B, w.heap.size = B := ⟨_, rfl⟩
  rw [hB]
  have HB : Hid (B = w.heap.size) := hB.symm
  go_enter Tryz.func4, Tryz.ntmps4
  go_wp2_with (first | (at_make; refine wpList_make_own _ rfl _ _ 22 rfl B 42 i0 _ 4 Tryz.underlying22 hi hz0 hz1 .i64 .i64 _ (n + 1) rfl rfl ?_ ?_ ?_ ?_ ?_) | fail)
  · omega
  · rw [hz2]; omega
  · unfold maxLen; omega
  · omega
  · intro w1 hown1 hgrow1
    have hbe1 : Below B w w1 := (Below.refl B w).grown hgrow1 (by omega) (by simp)
    clear hgrow1
    go_wp2
    go_loopw [3, 4] (fun v i wr => ∃ k : Nat, k ≤ n ∧ i = .int .i64 k ∧ v = .slice (some ⟨B, 0, none⟩) k (n + 1) ∧ Hid (wr.ownsRow B 42 4 (.slice (some ⟨B, 0, none⟩) k (n + 1)) k (nds (L.take k))) ∧ Hid (Below B w wr)) (fun _ i _ => n - (intOf i).toNat)
    case atStart => exact ⟨0, Nat.zero_le _, rfl, rfl, hown1, hbe1⟩
    case round =>
      clear hown1 hbe1
      obtain ⟨k, hk, rfl, rfl, HO, HE⟩ := hrel
      have HBr : Hid (B ≤ wr.heap.size) := by have := HE.out.size; rw [HB.out]; exact this
      by_cases hkn : k < n
      · have hkl : k < L.length := by rw [← HN.out]; exact hkn
        obtain ⟨b, off, rfl, hb⟩ := HV.out.lies (by omega)
        have hb' := hb k hkl
        obtain ⟨q, hq⟩ : ∃ q, L[k]'hkl = q := ⟨_, rfl⟩
        have HT := take_nds hkl
        rw [hq] at hb' HT
        obtain ⟨c0, c1, c2, c3⟩ := hb'
        have hbl : b < B := by rw [HB.out]; exact cell_lt c0
        replace c0 := (HE.out.cell (p := ⟨b, off + k * 4, none⟩) hbl).trans c0
        replace c1 := (HE.out.cell (p := ⟨b, off + k * 4 + 1, none⟩) hbl).trans c1
        replace c2 := (HE.out.cell (p := ⟨b, off + k * 4 + 2, none⟩) hbl).trans c2
        replace c3 := (HE.out.cell (p := ⟨b, off + k * 4 + 3, none⟩) hbl).trans c3
        have HTk : Hid (nds (L.take (k + 1)) = nds (L.take k) ++ q.cs) := HT
        have hkI : (k : Int) < (n : Int) := by omega
        clear hb HT hq
        go_wp2_with (first | (at_builtin; refine wpList_append_fits _ rfl _ _ 22 rfl B 42 i0 4 Tryz.underlying22 hi hz1 B k (n + 1) _ rfl (HO.out.alloc _) ⟨wr.heap.size, 0, none⟩ 1 1 q.cs rfl rfl (news_new rfl _ _) (cs_one q) (by omega) ?_) | fail)
        intro w2 hown' hgrow
        have HB2 : Hid (Below B w w2) := (HE.out.alloc HBr.out _).grown hgrow (by have := HBr.out; rw [size_alloc]; omega) (fun j hj => by cases hj; exact Nat.le_refl _)
        have HO2 : Hid (w2.ownsRow B 42 4 (.slice (some ⟨B, 0, none⟩) (k + 1) (n + 1)) (k + 1) (nds (L.take (k + 1)))) := by rw [HTk.out]; exact hown'
        clear hgrow hown'
        go_wp2
        go_roundw
        case rel => exact ⟨k + 1, by omega, by go_num, rfl, HO2, HB2⟩
        case measure => simp [intOf]; omega
      · obtain rfl : k = n := by omega
        have HO3 : Hid (wr.ownsRow B 42 4 (.slice (some ⟨B, 0, none⟩) k (k + 1)) k (nds L)) := by
          have := HO.out
          rw [HN.out, List.take_length, ← HN.out] at this
          exact this
        have hkI : ¬ (k : Int) < (k : Int) := by omega
        go_wp2_with (first | (go_at_call 12; refine Calls.mono (marker_any _) ?_; rintro e W ⟨rfl, hb⟩; have HBW : Hid (Below B w W) := HE.out.trans (hb.mono HBr.out); have HOW : Hid (W.ownsRow B 42 4 (.slice (some ⟨B, 0, none⟩) k (k + 1)) k (nds L)) := ownsRow_below HO3.out hb (Nat.le_refl _); have HBs : Hid (B ≤ W.heap.size) := Nat.le_trans HBr.out hb.size; clear hb) | (at_builtin; refine Stop.mk ?_))
        refine Stop.out (wpList_append_fits _ rfl _ _ 22 rfl B 42 i0 4 Tryz.underlying22 hi hz1 B k (k + 1) _ rfl (HOW.out.alloc _) ⟨W.heap.size, 0, none⟩ 1 1 mrk.cs rfl rfl (news_new rfl _ _) (cs_one mrk) (by omega) ?_)
        intro w2 hown' hgrow
        have HB2 : Hid (Below B w w2) := (HBW.out.alloc HBs.out _).grown hgrow (by have := HBs.out; rw [size_alloc]; omega) (fun j hj => by cases hj; exact Nat.le_refl _)
        have HO2 : Hid (w2.ownsRow B 42 4 (.slice (some ⟨B, 0, none⟩) (k + 1) (k + 1)) (k + 1) (nds (L ++ [mrk]))) := by rw [nds_append]; exact hown'
        clear hgrow hown'
        go_wp2
        go_ret
        exact ⟨rfl, HO2.out, HB2.out⟩
end Go.Proofs.YtmocofmlehmneaaGreatDoor.Wk

/-
  DERIVED. The same nodes; lent nodes are as they were.
-/
namespace Go.Proofs.YtmocofmlehmneaaGreatDoor.Wk
open Go Go.Proofs Go.RowKit Go.Sort

set_option maxRecDepth 100000 in
set_option maxHeartbeats 1000000 in
theorem nodes_same (w : World) (a1 a2 : Option Addr) (n c1 c2 : Nat) (L : List Nd) (h1 : NV w a1 n c1 L) (h2 : NV w a2 n c2 L) : Calls Tryz.prog 8 #[.slice a1 n c1, .slice a2 n c2] w fun e w' => e = .returned (.bool true) ∧ ∃ m, w' = w.drewN m := by
  have H1 : Hid (NV w a1 n c1 L) := h1
  have H2 : Hid (NV w a2 n c2 L) := h2
  have HN : Hid (n = L.length) := h1.len
  have hsm := h1.small
  clear h1 h2
  go_enter Tryz.func8, Tryz.ntmps8
  go_wp2
  go_loopw [5] (fun s5 wx => ∃ i : Nat, s5 = .int .i64 (i : Int) ∧ i ≤ n ∧ ∃ m, wx = w.drewN m) (fun s5 _ => n - (intOf s5).toNat)
  case atStart => exact ⟨0, rfl, by omega, 0, rfl⟩
  case round =>
    obtain ⟨i, rfl, hi22, m, rfl⟩ := hrel
    by_cases hin : i < n
    · have hil : i < L.length := by rw [← HN.out]; exact hin
      obtain ⟨b1, o1, rfl, l1⟩ := H1.out.lies (by omega)
      obtain ⟨b2, o2, rfl, l2⟩ := H2.out.lies (by omega)
      obtain ⟨a0, a1, a2, a3⟩ := l1 i hil
      obtain ⟨b0, b1', b2', b3⟩ := l2 i hil
      have hI : (i : Int) < (n : Int) := by omega
      generalize L[i]'hil = q at a0 a1 a2 a3 b0 b1' b2' b3
      clear l1 l2
      go_wp2
      go_quiet (fail)
      go_wp2
      go_roundw
      case rel => exact ⟨i + 1, by go_num, by omega, _, rfl⟩
      case measure => simp [intOf]; omega
    · obtain rfl : i = n := by omega
      have hI : ¬ (i : Int) < (i : Int) := by omega
      go_wp2
      go_ret
      exact ⟨rfl, _, rfl⟩

theorem NV.drw {w : World} {a : Option Addr} {n cap : Nat} {L : List Nd} (h : NV w a n cap L) (m : Nat) : NV (w.drewN m) a n cap L := h.on (below_drw (Below.refl _ _) m)
theorem Lent.nv {g base : Nat} {L : List Nd} {w : World} (h : Lent g L base w) (hs : L.length ≤ 3518437208780) (hz : ∀ x ∈ L, -9223372036854775808 ≤ x.n ∧ x.n ≤ 9223372036854775807) : NV w (some ⟨g, 0, none⟩) L.length (L.length + 1) L := by
  refine ⟨rfl, by omega, hs, fun _ => ⟨g, 0, rfl, fun i hi => ?_⟩, hz⟩
  have hg : ∀ k, k < 4 → w.cell? ⟨g, 0 + i * 4 + k, none⟩ = ((L[i]'hi).cs)[k]? := fun k hk => by
    rw [Nat.zero_add]
    refine (World.ownsRow.cellAt h (i * 4 + k) (by omega)).trans ?_
    rw [nds_get (L ++ [mrk]) i (by simp; omega) k hk, List.getElem_append_left hi]
  exact ⟨hg 0 (by decide), hg 1 (by decide), hg 2 (by decide), hg 3 (by decide)⟩
theorem Lent.mark {g base : Nat} {L : List Nd} {w : World} (h : Lent g L base w) : w.cell? ⟨g, L.length * 4, none⟩ = some (.int .u32 2882382797) ∧ w.cell? ⟨g, L.length * 4 + 1, none⟩ = some (.int .i64 0) ∧ w.cell? ⟨g, L.length * 4 + 2, none⟩ = some (.int .i64 7) ∧ w.cell? ⟨g, L.length * 4 + 3, none⟩ = some (.string ⟨#[109, 97, 114, 107]⟩) := by
  have hg : ∀ k, k < 4 → w.cell? ⟨g, L.length * 4 + k, none⟩ = (mrk.cs)[k]? := fun k hk => by
    refine (World.ownsRow.cellAt h (L.length * 4 + k) (by omega)).trans ?_
    rw [nds_get (L ++ [mrk]) L.length (by simp) k hk, List.getElem_append_right (Nat.le_refl _)]
    simp
  exact ⟨hg 0 (by decide), hg 1 (by decide), hg 2 (by decide), hg 3 (by decide)⟩
theorem hmix : Tryz.prog.follows .mixedOrders = true := by kernel_rfl

set_option maxRecDepth 100000 in
set_option maxHeartbeats 2000000 in
theorem kept_any (w : World) (g base : Nat) (a : Option Addr) (n cap : Nat) (L : List Nd) (h : NV w a n cap L) (hl : Lent g L base w) : Calls Tryz.prog 9 #[.slice (some ⟨g, 0, none⟩) n (n + 1), .slice a n cap] w fun e w' => e = .returned (.bool true) ∧ Below w.heap.size w w' := by
  have hn := h.len
  have c11 := nodes_same w (some ⟨g, 0, none⟩) a n (n + 1) cap L (by rw [hn]; exact hl.nv (by have := h.small; omega) h.num) h
  obtain ⟨m0, m1, m2, m3⟩ := hl.mark
  rw [← hn] at m0 m1 m2 m3
  have hsm := h.small
  have hnI : (n : Int) < (n : Int) + 1 := by omega
  have hnJ : (n : Int) + 1 ≤ (n : Int) + 1 := by omega
  clear hn h hl
  go_enter Tryz.func9, Tryz.ntmps9
  go_wp2_with (go_at_call 8; refine StopF.out ?_)
  refine ⟨Calls.mono c11 ?_⟩
  rintro e W ⟨rfl, m, rfl⟩
  clear c11
  go_wp2
  obtain ⟨W1, hW1⟩ : ∃ W1, W1 = w.drewN m := ⟨_, rfl⟩
  have HB1 : Hid (Below w.heap.size w W1) := by rw [hW1]; exact below_drw (Below.refl _ _) m
  have hs1 : w.heap.size ≤ W1.heap.size := HB1.out.size
  have hgl : g < w.heap.size := cell_lt m0
  replace m0 := (HB1.out.cell (p := ⟨g, n * 4, none⟩) hgl).trans m0
  replace m1 := (HB1.out.cell (p := ⟨g, n * 4 + 1, none⟩) hgl).trans m1
  replace m2 := (HB1.out.cell (p := ⟨g, n * 4 + 2, none⟩) hgl).trans m2
  replace m3 := (HB1.out.cell (p := ⟨g, n * 4 + 3, none⟩) hgl).trans m3
  rw [← hW1]
  clear hW1
  have k0 := fun d os => cell_regrown m0 d os
  have k1 := fun d os => cell_regrown m1 d os
  have k2 := fun d os => cell_regrown m2 d os
  have k3 := fun d os => cell_regrown m3 d os
  have cM : ∀ d os, Calls Tryz.prog 12 #[] (grow (redrawn W1 d) os) fun x w'' => x = .returned (.agg #[.int .u32 2882382797, .int .i64 0, .int .i64 7, .string ⟨#[109, 97, 114, 107]⟩]) ∧ ∃ p : Regrown, w'' = grow (redrawn W1 p.d) p.os := fun d os => Calls.regrown_of (marker_any _)
  refine wp_region_quiet_below hmix (by kernel_rfl) ?_
  repeat (quiet_step (first | exact cM _ _))
  refine wpQuiet_nil ?_
  intro _ hw'
  obtain ⟨⟨dq, osq⟩, hw''⟩ := hw'
  subst hw''
  have hBW := below_regrown W1 dq osq
  have HB : Hid (Below w.heap.size w (grow (redrawn W1 dq) osq)) := HB1.out.trans (hBW.mono hs1)
  clear cM hBW k0 k1 k2 k3
  go_wp2
  go_ret
  exact ⟨rfl, HB.out⟩
end Go.Proofs.YtmocofmlehmneaaGreatDoor.Wk
