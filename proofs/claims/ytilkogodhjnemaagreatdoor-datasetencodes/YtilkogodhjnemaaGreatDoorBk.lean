import Derived.Test.YtilkogodhjnemaaGreatDoorWA
import Derived.WideMake
import Derived.Room.AppendFits
import Derived.Lib.QuietBelow
import Derived.Test.YtilkogodhjnemaaGreatDoorIe
import Derived.Test.YtilkogodhjnemaaGreatDoorEa
import Derived.Test.YtilkogodhjnemaaGreatDoorBj
/-
  DERIVED. Nodes that are lent, with a mark behind them.
-/
namespace Go.Proofs.YtilkogodhjnemaaGreatDoor.Wk
open Go Go.Proofs Go.RowKit

theorem info34 : (Tryz.prog.info? 47).map (fun i => (i.zero, i.size, i.bytes)) = some (some (.agg #[.int .u32 0, .int .i64 0, .int .i64 0, .string ⟨#[]⟩]), 4, 40) := by kernel_rfl
theorem info22 : (Tryz.prog.info? 22).map (fun i => (i.zero, i.size, i.bytes)) = some (some (.slice none 0 0), 1, 24) := by kernel_rfl
def mrk : Nd := ⟨2882382797, 0, 7, ⟨#[109, 97, 114, 107]⟩⟩

set_option maxRecDepth 100000 in
theorem marker_any (w : World) : Calls Tryz.prog 13 #[] w fun e w' => e = .returned (.agg #[.int .u32 2882382797, .int .i64 0, .int .i64 7, .string ⟨#[109, 97, 114, 107]⟩]) ∧ Below w.heap.size w w' := by
  go_enter Tryz.func13, Tryz.ntmps13
  go_wp2
  refine bodyPost_ret (v := .agg #[.int .u32 2882382797, .int .i64 0, .int .i64 7, .string ⟨#[109, 97, 114, 107]⟩]) (by simp [results, Tryz.results13, go_sem]) rfl ⟨rfl, (Below.refl _ _).alloc (Nat.le_refl _) _⟩

theorem take_nds {L : List Nd} {k : Nat} (h : k < L.length) : nds (L.take (k + 1)) = nds (L.take k) ++ (L[k]'h).cs := by
  rw [List.take_add_one, List.getElem?_eq_getElem h, nds_append]
  congr 1
theorem cs_one (a : Nd) : ∀ u ∈ a.cs, u.oneCell' = true := by
  intro u hu
  simp [Nd.cs] at hu
  rcases hu with rfl | rfl | rfl | rfl <;> rfl

/-- What was lent: the nodes in block g, a mark behind them. -/
def Lent (g : Nat) (L : List Nd) (base : Nat) (w : World) : Prop := w.ownsRow base 47 4 (.slice (some ⟨g, 0, none⟩) (L.length + 1) (L.length + 1)) (L.length + 1) (nds (L ++ [mrk]))

set_option maxRecDepth 100000 in
set_option maxHeartbeats 2000000 in
theorem lend_any (w : World) (a : Option Addr) (n cap : Nat) (L : List Nd) (h : NV w a n cap L) : Calls Tryz.prog 4 #[.slice a n cap] w fun e w' => e = .returned (.slice (some ⟨w.heap.size, 0, none⟩) n (n + 1)) ∧ Lent w.heap.size L w.heap.size w' ∧ Below w.heap.size w w' := by
  have HV : Hid (NV w a n cap L) := h
  have HN : Hid (n = L.length) := h.len
  have hsm := h.small
  clear h
  unfold Lent
  rw [← HN.out]
  obtain ⟨i0, hi, hz0, hz1, hz2⟩ := info_parts info34
  obtain ⟨B, hB⟩ : ∃ B, w.heap.size = B := ⟨_, rfl⟩
  rw [hB]
  have HB : Hid (B = w.heap.size) := hB.symm
  go_enter Tryz.func4, Tryz.ntmps4
  go_wp2_with (first | (at_make; refine wpList_make_own _ rfl _ _ 22 rfl B 47 i0 _ 4 Tryz.underlying22 hi hz0 hz1 .i64 .i64 _ (n + 1) rfl rfl ?_ ?_ ?_ ?_ ?_) | fail)
  · omega
  · rw [hz2]; omega
  · unfold maxLen; omega
  · omega
  · intro w1 hown1 hgrow1
    have hbe1 : Below B w w1 := (Below.refl B w).grown hgrow1 (by omega) (by simp)
    clear hgrow1
    go_wp2
    go_loopw [3, 4] (fun v i wr => ∃ k : Nat, k ≤ n ∧ i = .int .i64 k ∧ v = .slice (some ⟨B, 0, none⟩) k (n + 1) ∧ Hid (wr.ownsRow B 47 4 (.slice (some ⟨B, 0, none⟩) k (n + 1)) k (nds (L.take k))) ∧ Hid (Below B w wr)) (fun _ i _ => n - (intOf i).toNat)
    case atStart => exact ⟨0, Nat.zero_le _, rfl, rfl, hown1, hbe1⟩
    case round =>
      clear hown1 hbe1
      obtain ⟨k, hk, rfl, rfl, HO, HE⟩ := hrel
      have HBr : Hid (B ≤ wr.heap.size) := by have := HE.out.size; rw [HB.out]; exact this
      by_cases hkn : k < n
      · have hkl : k < L.length := by rw [← HN.out]; exact hkn
        obtain ⟨b, off, rfl, hb⟩ := HV.out.lies (by omega)
        have hb' := hb k hkl
        obtain ⟨q, hq⟩ : ∃ q, L[k]'hkl = q := ⟨_, rfl⟩
        have HT := take_nds hkl
        rw [hq] at hb' HT
        obtain ⟨c0, c1, c2, c3⟩ := hb'
        have hbl : b < B := by rw [HB.out]; exact cell_lt c0
        replace c0 := (HE.out.cell (p := ⟨b, off + k * 4, none⟩) hbl).trans c0
        replace c1 := (HE.out.cell (p := ⟨b, off + k * 4 + 1, none⟩) hbl).trans c1
        replace c2 := (HE.out.cell (p := ⟨b, off + k * 4 + 2, none⟩) hbl).trans c2
        replace c3 := (HE.out.cell (p := ⟨b, off + k * 4 + 3, none⟩) hbl).trans c3
        have HTk : Hid (nds (L.take (k + 1)) = nds (L.take k) ++ q.cs) := HT
        have hkI : (k : Int) < (n : Int) := by omega
        clear hb HT hq
        go_wp2_with (first | (at_builtin; refine wpList_append_fits _ rfl _ _ 22 rfl B 47 i0 4 Tryz.underlying22 hi hz1 B k (n + 1) _ rfl (HO.out.alloc _) ⟨wr.heap.size, 0, none⟩ 1 1 q.cs rfl rfl (news_new rfl _ _) (cs_one q) (by omega) ?_) | fail)
        intro w2 hown' hgrow
        have HB2 : Hid (Below B w w2) := (HE.out.alloc HBr.out _).grown hgrow (by have := HBr.out; rw [size_alloc]; omega) (fun j hj => by cases hj; exact Nat.le_refl _)
        have HO2 : Hid (w2.ownsRow B 47 4 (.slice (some ⟨B, 0, none⟩) (k + 1) (n + 1)) (k + 1) (nds (L.take (k + 1)))) := by rw [HTk.out]; exact hown'
        clear hgrow hown'
        go_wp2
        go_roundw
        case rel => exact ⟨k + 1, by omega, by go_num, rfl, HO2, HB2⟩
        case measure => simp [intOf]; omega
      · obtain rfl : k = n := by omega
        have HO3 : Hid (wr.ownsRow B 47 4 (.slice (some ⟨B, 0, none⟩) k (k + 1)) k (nds L)) := by
          have := HO.out
          rw [HN.out, List.take_length, ← HN.out] at this
          exact this
        have hkI : ¬ (k : Int) < (k : Int) := by omega
        go_wp2_with (first | (go_at_call 13; refine Calls.mono (marker_any _) ?_; rintro e W ⟨rfl, hb⟩; have HBW : Hid (Below B w W) := HE.out.trans (hb.mono HBr.out); have HOW : Hid (W.ownsRow B 47 4 (.slice (some ⟨B, 0, none⟩) k (k + 1)) k (nds L)) := ownsRow_below HO3.out hb (Nat.le_refl _); have HBs : Hid (B ≤ W.heap.size) := Nat.le_trans HBr.out hb.size; clear hb) | (at_builtin; refine Stop.mk ?_))
        refine Stop.out (wpList_append_fits _ rfl _ _ 22 rfl B 47 i0 4 Tryz.underlying22 hi hz1 B k (k + 1) _ rfl (HOW.out.alloc _) ⟨W.heap.size, 0, none⟩ 1 1 mrk.cs rfl rfl (news_new rfl _ _) (cs_one mrk) (by omega) ?_)
        intro w2 hown' hgrow
        have HB2 : Hid (Below B w w2) := (HBW.out.alloc HBs.out _).grown hgrow (by have := HBs.out; rw [size_alloc]; omega) (fun j hj => by cases hj; exact Nat.le_refl _)
        have HO2 : Hid (w2.ownsRow B 47 4 (.slice (some ⟨B, 0, none⟩) (k + 1) (k + 1)) (k + 1) (nds (L ++ [mrk]))) := by rw [nds_append]; exact hown'
        clear hgrow hown'
        go_wp2
        go_ret
        exact ⟨rfl, HO2.out, HB2.out⟩
end Go.Proofs.YtilkogodhjnemaaGreatDoor.Wk

/-
  DERIVED. The same nodes; lent nodes are as they were.
-/
namespace Go.Proofs.YtilkogodhjnemaaGreatDoor.Wk
open Go Go.Proofs Go.RowKit Go.Sort

set_option maxRecDepth 100000 in
set_option maxHeartbeats 1000000 in
theorem nodes_same (w : World) (a1 a2 : Option Addr) (n c1 c2 : Nat) (L : List Nd) (h1 : NV w a1 n c1 L) (h2 : NV w a2 n c2 L) : Calls Tryz.prog 25 #[.slice a1 n c1, .slice a2 n c2] w fun e w' => e = .returned (.bool true) ∧ ∃ m, w' = w.drewN m := by
  have H1 : Hid (NV w a1 n c1 L) := h1
  have H2 : Hid (NV w a2 n c2 L) := h2
  have HN : Hid (n = L.length) := h1.len
  have hsm := h1.small
  clear h1 h2
  go_enter Tryz.func25, Tryz.ntmps25
  go_wp2
  go_loopw [5] (fun s5 wx => ∃ i : Nat, s5 = .int .i64 (i : Int) ∧ i ≤ n ∧ ∃ m, wx = w.drewN m) (fun s5 _ => n - (intOf s5).toNat)
  case atStart => exact ⟨0, rfl, by omega, 0, rfl⟩
  case round =>
    obtain ⟨i, rfl, hi22, m, rfl⟩ := hrel
    by_cases hin : i < n
    · have hil : i < L.length := by rw [← HN.out]; exact hin
      obtain ⟨b1, o1, rfl, l1⟩ := H1.out.lies (by omega)
      obtain ⟨b2, o2, rfl, l2⟩ := H2.out.lies (by omega)
      obtain ⟨a0, a1, a2, a3⟩ := l1 i hil
      obtain ⟨b0, b1', b2', b3⟩ := l2 i hil
      have hI : (i : Int) < (n : Int) := by omega
      generalize L[i]'hil = q at a0 a1 a2 a3 b0 b1' b2' b3
      clear l1 l2
      go_wp2
      go_quiet (fail)
      go_wp2
      go_roundw
      case rel => exact ⟨i + 1, by go_num, by omega, _, rfl⟩
      case measure => simp [intOf]; omega
    · obtain rfl : i = n := by omega
      have hI : ¬ (i : Int) < (i : Int) := by omega
      go_wp2
      go_ret
      exact ⟨rfl, _, rfl⟩

theorem NV.drw {w : World} {a : Option Addr} {n cap : Nat} {L : List Nd} (h : NV w a n cap L) (m : Nat) : NV (w.drewN m) a n cap L := h.on (below_drw (Below.refl _ _) m)
theorem Lent.nv {g base : Nat} {L : List Nd} {w : World} (h : Lent g L base w) (hs : L.length ≤ 3518437208780) (hz : ∀ x ∈ L, -9223372036854775808 ≤ x.n ∧ x.n ≤ 9223372036854775807) : NV w (some ⟨g, 0, none⟩) L.length (L.length + 1) L := by
  refine ⟨rfl, by omega, hs, fun _ => ⟨g, 0, rfl, fun i hi => ?_⟩, hz⟩
  have hg : ∀ k, k < 4 → w.cell? ⟨g, 0 + i * 4 + k, none⟩ = ((L[i]'hi).cs)[k]? := fun k hk => by
    rw [Nat.zero_add]
    refine (World.ownsRow.cellAt h (i * 4 + k) (by omega)).trans ?_
    rw [nds_get (L ++ [mrk]) i (by simp; omega) k hk, List.getElem_append_left hi]
  exact ⟨hg 0 (by decide), hg 1 (by decide), hg 2 (by decide), hg 3 (by decide)⟩
theorem Lent.mark {g base : Nat} {L : List Nd} {w : World} (h : Lent g L base w) : w.cell? ⟨g, L.length * 4, none⟩ = some (.int .u32 2882382797) ∧ w.cell? ⟨g, L.length * 4 + 1, none⟩ = some (.int .i64 0) ∧ w.cell? ⟨g, L.length * 4 + 2, none⟩ = some (.int .i64 7) ∧ w.cell? ⟨g, L.length * 4 + 3, none⟩ = some (.string ⟨#[109, 97, 114, 107]⟩) := by
  have hg : ∀ k, k < 4 → w.cell? ⟨g, L.length * 4 + k, none⟩ = (mrk.cs)[k]? := fun k hk => by
    refine (World.ownsRow.cellAt h (L.length * 4 + k) (by omega)).trans ?_
    rw [nds_get (L ++ [mrk]) L.length (by simp) k hk, List.getElem_append_right (Nat.le_refl _)]
    simp
  exact ⟨hg 0 (by decide), hg 1 (by decide), hg 2 (by decide), hg 3 (by decide)⟩
theorem hmix : Tryz.prog.follows .mixedOrders = true := by kernel_rfl

set_option maxRecDepth 100000 in
set_option maxHeartbeats 2000000 in
theorem kept_any (w : World) (g base : Nat) (a : Option Addr) (n cap : Nat) (L : List Nd) (h : NV w a n cap L) (hl : Lent g L base w) : Calls Tryz.prog 10 #[.slice (some ⟨g, 0, none⟩) n (n + 1), .slice a n cap] w fun e w' => e = .returned (.bool true) ∧ Below w.heap.size w w' := by
  have hn := h.len
  have c11 := nodes_same w (some ⟨g, 0, none⟩) a n (n + 1) cap L (by rw [hn]; exact hl.nv (by have := h.small; omega) h.num) h
  obtain ⟨m0, m1, m2, m3⟩ := hl.mark
  rw [← hn] at m0 m1 m2 m3
  have hsm := h.small
  have hnI : (n : Int) < (n : Int) + 1 := by omega
  have hnJ : (n : Int) + 1 ≤ (n : Int) + 1 := by omega
  clear hn h hl
  go_enter Tryz.func10, Tryz.ntmps10
  go_wp2_with (go_at_call 25; refine StopF.out ?_)
  refine ⟨Calls.mono c11 ?_⟩
  rintro e W ⟨rfl, m, rfl⟩
  clear c11
  go_wp2
  obtain ⟨W1, hW1⟩ : ∃ W1, W1 = w.drewN m := ⟨_, rfl⟩
  have HB1 : Hid (Below w.heap.size w W1) := by rw [hW1]; exact below_drw (Below.refl _ _) m
  have hs1 : w.heap.size ≤ W1.heap.size := HB1.out.size
  have hgl : g < w.heap.size := cell_lt m0
  replace m0 := (HB1.out.cell (p := ⟨g, n * 4, none⟩) hgl).trans m0
  replace m1 := (HB1.out.cell (p := ⟨g, n * 4 + 1, none⟩) hgl).trans m1
  replace m2 := (HB1.out.cell (p := ⟨g, n * 4 + 2, none⟩) hgl).trans m2
  replace m3 := (HB1.out.cell (p := ⟨g, n * 4 + 3, none⟩) hgl).trans m3
  rw [← hW1]
  clear hW1
  have k0 := fun d os => cell_regrown m0 d os
  have k1 := fun d os => cell_regrown m1 d os
  have k2 := fun d os => cell_regrown m2 d os
  have k3 := fun d os => cell_regrown m3 d os
  have cM : ∀ d os, Calls Tryz.prog 13 #[] (grow (redrawn W1 d) os) fun x w'' => x = .returned (.agg #[.int .u32 2882382797, .int .i64 0, .int .i64 7, .string ⟨#[109, 97, 114, 107]⟩]) ∧ ∃ p : Regrown, w'' = grow (redrawn W1 p.d) p.os := fun d os => Calls.regrown_of (marker_any _)
  refine wp_region_quiet_below hmix (by kernel_rfl) ?_
  repeat (quiet_step (first | exact cM _ _))
  refine wpQuiet_nil ?_
  intro _ hw'
  obtain ⟨⟨dq, osq⟩, hw''⟩ := hw'
  subst hw''
  have hBW := below_regrown W1 dq osq
  have HB : Hid (Below w.heap.size w (grow (redrawn W1 dq) osq)) := HB1.out.trans (hBW.mono hs1)
  clear cM hBW k0 k1 k2 k3
  go_wp2
  go_ret
  exact ⟨rfl, HB.out⟩
end Go.Proofs.YtilkogodhjnemaaGreatDoor.Wk

/-
  DERIVED. Lists of lists of nodes, each in memory of its own.
-/
namespace Go.Proofs.YtilkogodhjnemaaGreatDoor.Wk
open Go Go.Proofs Go.RowKit

theorem app22 {w : World} {ops : Array Oper} {rest : List Oper} {o : Oper} {a : Act} {Q : Exit → Act → World → Prop} (hgd : o.guard = none) (s x : Operand)
    (ho : o.op = .call { callee := .builtin .append, args := #[s, x], argTypes := #[22, 22] }) (base : Nat) (v : Value) (n : Nat) (xs : List Value) (hs : a.eval s = v) (hown : w.ownsRow base 47 4 v n xs)
    (ad : Addr) (m c : Nat) (news : List Value) (hx : a.eval x = .slice (some ad) m c) (hl : news.length = m * 4) (hnews : ∀ j u, news[j]? = some u → w.cell? (ad.add j) = some u) (h1 : ∀ u ∈ news, u.oneCell' = true) (hm : 0 < m) (hsm : n + m ≤ 3518437208883) (hbase : base ≤ w.heap.size)
    (h : ∀ g cap w', w'.ownsRow base 47 4 (.slice (some ⟨g, 0, none⟩) (n + m) cap) (n + m) (xs ++ news) → w.grownBy w' v.ownBlock → (v.ownBlock = some g ∨ g = w.heap.size) → g < w'.heap.size → wpList Tryz.prog ops Q rest (a.put o.dst (.slice (some ⟨g, 0, none⟩) (n + m) cap)) w') : wpList Tryz.prog ops Q (o :: rest) a w := by
  obtain ⟨i0, hi, hz0, hz1, hz2⟩ := info_parts info34
  exact wpList_append_lies w hgd s x 22 ho base 47 i0 _ 4 40 Tryz.underlying22 hi hz0 hz1 hz2 rfl (by decide) v n xs hs hown ad m c news hx hl hnews h1 hm (by unfold maxLen; omega) (by omega) hbase _ rfl h
/-- A copy of nodes, perhaps of none. -/
theorem copy22 {w : World} {ops : Array Oper} {rest : List Oper} {o : Oper} {a : Act} {Q : Exit → Act → World → Prop} (hgd : o.guard = none) (s x : Operand)
    (ho : o.op = .call { callee := .builtin .append, args := #[s, x], argTypes := #[22, 22] }) (hs : a.eval s = .slice none 0 0)
    (ad : Addr) (c : Nat) (M : List Nd) (hx : a.eval x = .slice (some ad) M.length c) (hnews : ∀ j u, (nds M)[j]? = some u → w.cell? (ad.add j) = some u) (hsm : M.length ≤ 10000000)
    (h : ∀ u w', w'.ownsRow w.heap.size 47 4 u M.length (nds M) → Below w.heap.size w w' → (M = [] → u = .slice none 0 0) → (M ≠ [] → ∃ g cap, u = .slice (some ⟨g, 0, none⟩) M.length cap) → wpList Tryz.prog ops Q rest (a.put o.dst u) w') : wpList Tryz.prog ops Q (o :: rest) a w := by
  obtain ⟨i0, hi, hz0, hz1, hz2⟩ := info_parts info34
  refine wpList_append_own w hgd s x 22 ho w.heap.size 47 i0 _ 4 40 Tryz.underlying22 hi hz0 hz1 hz2 rfl (by decide) (.slice none 0 0) 0 [] hs (World.ownsRow_nil _ _ _ _) ad M.length c (nds M) hx (nds_len M) hnews (nds_one M) (by unfold maxLen; omega) (by omega) (Nat.le_refl _) ?_
  intro v' w' ho' hg' hn'
  rw [Nat.zero_add] at ho'
  refine h v' w' ho' ((Below.refl _ _).grown hg' (Nat.le_refl _) (fun k hk => by cases hk)) (fun e => hn'.2 ⟨rfl, by rw [e]; rfl⟩) (fun e => ?_)
  rcases ho'.2 with ⟨hv, -⟩ | ⟨g, cap, cur, hv, -⟩
  · exact absurd (List.length_eq_zero_iff.1 (hn'.1 hv).2) e
  · exact ⟨g, cap, hv⟩

end Go.Proofs.YtilkogodhjnemaaGreatDoor.Wk

/-
  DERIVED. What is implied, said in one line.
-/
namespace Go.Proofs.YtilkogodhjnemaaGreatDoor
open Go Go.Proofs Go.RowKit
open Wk (Nd NV)

theorem run_ok : ∀ (L : List Nd) (i : Nat) (st : List Lv), i ≤ 4096 → (runL elemOk itemOk i st L).2 = true → L.length + i ≤ 4096 ∧ ∀ x ∈ L, x.v = 29 ∨ x.v = 18 ∨ x.s.size ≤ 65534
  | [], i, st, hi, _ => ⟨by simpa using hi, fun x hx => by simp at hx⟩
  | a :: L, i, st, hi, h => by
    rw [runL] at h
    split at h
    · cases h
    · rename_i hn
      have hi40 : i ≠ 4096 := fun e => hn (.inl e)
      have hr : rightL elemOk itemOk a st = true := by
        rcases hb : rightL elemOk itemOk a st with _ | _
        · exact absurd (.inr hb) hn
        · rfl
      obtain ⟨h1, h2⟩ := run_ok L (i + 1) _ (by omega) h
      refine ⟨by simp; omega, fun x hx => ?_⟩
      rcases List.mem_cons.1 hx with rfl | hx
      · unfold rightL at hr
        split at hr
        · simp only [Bool.and_eq_true, itemOk, decide_eq_true_eq] at hr
          exact .inl hr.1.2.1
        · simp only [Bool.and_eq_true, elemOk] at hr
          have h3 := hr.1.2.2
          unfold bodyO at h3
          split at h3
          · rename_i hv; exact .inr (.inl hv)
          · simp only [Bool.and_eq_true, decide_eq_true_eq] at h3
            exact .inr (.inr h3.2.2.1)
      · exact h2 x hx
theorem res_ok {L : List Nd} (h : (res L).2 = true) : L.length ≤ 4096 ∧ ∀ x ∈ L, x.v = 29 ∨ x.v = 18 ∨ x.s.size ≤ 65534 := by
  have := run_ok L 0 [(0, 0)] (by omega) h
  exact ⟨by omega, this.2⟩

theorem own_at {w : World} {base g n cap : Nat} {L : List Nd} (h : w.ownsRow base 47 4 (.slice (some ⟨g, 0, none⟩) n cap) n (Wk.nds L)) (hn : n = L.length) {i : Nat} (hi : i < L.length) : w.cell? ⟨g, i * 4, none⟩ = some (.int .u32 (L[i]'hi).t) ∧ w.cell? ⟨g, i * 4 + 1, none⟩ = some (.int .i64 (L[i]'hi).v) ∧ w.cell? ⟨g, i * 4 + 2, none⟩ = some (.int .i64 (L[i]'hi).n) ∧ w.cell? ⟨g, i * 4 + 3, none⟩ = some (.string (L[i]'hi).s) := by
  have hg : ∀ k, k < 4 → w.cell? ⟨g, i * 4 + k, none⟩ = ((L[i]'hi).cs)[k]? := fun k hk => (World.ownsRow.cellAt h (i * 4 + k) (by omega)).trans (Wk.nds_get L i hi k hk)
  exact ⟨hg 0 (by decide), hg 1 (by decide), hg 2 (by decide), hg 3 (by decide)⟩
end Go.Proofs.YtilkogodhjnemaaGreatDoor

/-
  DERIVED. Faults with one link; the size of a data set: the program's.
-/
namespace Go.Proofs.YtilkogodhjnemaaGreatDoor
open Go Go.Proofs Go.RowKit
open Wk (Nd NV goN nxt)

/-- The syntax by its number. -/
def encS (s : Int) : Enc := encOf (decide (s = 2))
/-- What is refused. -/
def errOf (s : Int) (L : List Nd) : Option (List Lk × Int) :=
  if s ≠ 1 ∧ s ≠ 2 then some ([(dsB, 0)], 120)
  else if (res L).2 = false then some ([(dsB, ((res L).1 : Int)), (dcB, ((res L).1 : Int))], 5)
  else if 1048576 < (encS s).szP L then some ([(dsB, 1048576)], 121) else none
def siz (s : Int) (L : List Nd) : Nat := if (errOf s L).isSome = true then 0 else (encS s).szP L
def outB (s : Int) (L : List Nd) : List UInt8 := if (errOf s L).isSome = true then [] else (encS s).wP L
/-- The program's error. -/
def PErr (w : World) (v : Value) (o : Option (List Lk × Int)) : Prop := (o = none ∧ v = .nilIface) ∨ ∃ ls c, o = some (ls, c) ∧ Chain w ls c v
theorem PErr.on {w w' : World} {v : Value} {o : Option (List Lk × Int)} (h : PErr w v o) (hb : Below w.heap.size w w') : PErr w' v o := by
  rcases h with h | ⟨ls, c, h1, h2⟩
  · exact .inl h
  · exact .inr ⟨ls, c, h1, h2.on hb⟩
theorem err_bad {s : Int} {L : List Nd} (h : s ≠ 1 ∧ s ≠ 2) : errOf s L = some ([(dsB, 0)], 120) := by unfold errOf; rw [if_pos h]
theorem err_form {s : Int} {L : List Nd} (h : ¬ (s ≠ 1 ∧ s ≠ 2)) (hr : (res L).2 = false) : errOf s L = some ([(dsB, ((res L).1 : Int)), (dcB, ((res L).1 : Int))], 5) := by unfold errOf; rw [if_neg h, if_pos hr]
theorem err_long {s : Int} {L : List Nd} (h : ¬ (s ≠ 1 ∧ s ≠ 2)) (hr : (res L).2 = true) (hl : 1048576 < (encS s).szP L) : errOf s L = some ([(dsB, 1048576)], 121) := by unfold errOf; rw [if_neg h, if_neg (by rw [hr]; decide), if_pos hl]
theorem err_none {s : Int} {L : List Nd} (h : ¬ (s ≠ 1 ∧ s ≠ 2)) (hr : (res L).2 = true) (hl : ¬ 1048576 < (encS s).szP L) : errOf s L = none := by unfold errOf; rw [if_neg h, if_neg (by rw [hr]; decide), if_neg hl]
theorem res_wf {L : List Nd} (h : (res L).2 = true) : wf elemOk itemOk L.length false L := run_wf0 elem_n item_n L.length L 0 0 0 (Nat.le_refl _) h
theorem res_good {L : List Nd} (h : (res L).2 = true) : Good L := wf_good _ _ _ (res_wf h)

set_option maxRecDepth 100000 in
theorem refuseN_any (w : World) (a c : Int) : Calls Tryz.prog 18 #[.int .i64 a, .iface 57 (.int .i64 c)] w fun e w' => ∃ ve, e = .returned ve ∧ Hid (Chain w' [(dsB, a)] c ve) ∧ Hid (Below w.heap.size w w') := by
  go_enter Tryz.func18, Tryz.ntmps18
  go_wp2
  go_ret
  exact ⟨_, rfl, ⟨w.heap.size, _, rfl, by simp [dsB], by simp, by simp, rfl⟩, (Below.refl _ _).alloc (Nat.le_refl _) _⟩
set_option maxRecDepth 100000 in
theorem syntax_I (w : World) : Calls Tryz.prog 14 #[.int .i64 1] w fun e w' => e = .returned (.tuple #[.iface 68 (.agg #[]), .nilIface]) ∧ w = w' := by
  go_enter Tryz.func14, Tryz.ntmps14
  go_wp2
  exact bodyPost_ret (by simp [results, Tryz.results14, go_sem]) rfl ⟨rfl, rfl⟩
set_option maxRecDepth 100000 in
theorem syntax_E (w : World) : Calls Tryz.prog 14 #[.int .i64 2] w fun e w' => e = .returned (.tuple #[.iface 69 (.agg #[]), .nilIface]) ∧ w = w' := by
  go_enter Tryz.func14, Tryz.ntmps14
  go_wp2
  exact bodyPost_ret (by simp [results, Tryz.results14, go_sem]) rfl ⟨rfl, rfl⟩
set_option maxRecDepth 100000 in
theorem syntax_no (w : World) (s : Int) (h : s ≠ 1 ∧ s ≠ 2) : Calls Tryz.prog 14 #[.int .i64 s] w fun e w' => ∃ q, e = .returned (.tuple #[.nilIface, .iface 72 (.pointer (some ⟨q, 0, none⟩))]) ∧ Hid (Chain w' [(dsB, 0)] 120 (.iface 72 (.pointer (some ⟨q, 0, none⟩)))) ∧ Hid (Below w.heap.size w w') := by
  have b1 : (s == 1) = false := beq_eq_false_iff_ne.2 h.1
  have b2 : (s == 2) = false := beq_eq_false_iff_ne.2 h.2
  have c := refuseN_any w 0 120
  clear h
  go_enter Tryz.func14, Tryz.ntmps14
  go_wp2_with (go_at_call 18; refine StopB.out ?_)
  refine ⟨Calls.mono c ?_⟩
  rintro e W1 ⟨ve, rfl, hc, hb⟩
  obtain ⟨q, u, rfl, hr⟩ := hc.out
  clear hr
  go_wp2
  exact bodyPost_ret (v := .tuple #[.nilIface, .iface 72 (.pointer (some ⟨q, 0, none⟩))]) (by simp [results, Tryz.results14, go_sem]) rfl ⟨q, rfl, hc, hb⟩
end Go.Proofs.YtilkogodhjnemaaGreatDoor
