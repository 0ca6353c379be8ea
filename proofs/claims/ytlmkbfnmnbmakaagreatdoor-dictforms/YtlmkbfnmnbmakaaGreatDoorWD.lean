
import Derived.Test.YtlmkbfnmnbmakaaGreatDoorWA
import Derived.WideMake
import Derived.Room.AppendFits
/-
  DERIVED. Nodes that are lent, with a mark behind them.
-/
namespace Go.Proofs.YtlmkbfnmnbmakaaGreatDoor.Wk
open Go Go.Proofs Go.RowKit

theorem info34 : (Tryz.prog.info? 37).map (fun i => (i.zero, i.size, i.bytes)) = some (some (.agg #[.int .u32 0, .int .i64 0, .int .i64 0, .string ⟨#[]⟩]), 4, 40) := by kernel_rfl
theorem info22 : (Tryz.prog.info? 22).map (fun i => (i.zero, i.size, i.bytes)) = some (some (.slice none 0 0), 1, 24) := by kernel_rfl
def mrk : Nd := ⟨2882382797, 0, 7, ⟨#[109, 97, 114, 107]⟩⟩

set_option maxRecDepth 100000 in
theorem marker_any (w : World) : Calls Tryz.prog 10 #[] w fun e w' => e = .returned (.agg #[.int .u32 2882382797, .int .i64 0, .int .i64 7, .string ⟨#[109, 97, 114, 107]⟩]) ∧ Below w.heap.size w w' := by
  go_enter Tryz.func10, Tryz.ntmps10
  go_wp2
  refine bodyPost_ret (v := .agg #[.int .u32 2882382797, .int .i64 0, .int .i64 7, .string ⟨#[109, 97, 114, 107]⟩]) (by simp [results, Tryz.results10, go_sem]) rfl ⟨rfl, (Below.refl _ _).alloc (Nat.le_refl _) _⟩

theorem take_nds {L : List Nd} {k : Nat} (h : k < L.length) : nds (L.take (k + 1)) = nds (L.take k) ++ (L[k]'h).cs := by
  rw [List.take_add_one, List.getElem?_eq_getElem h, nds_append]
  congr 1
theorem cs_one (a : Nd) : ∀ u ∈ a.cs, u.oneCell' = true := by
  intro u hu
  simp [Nd.cs] at hu
  rcases hu with rfl | rfl | rfl | rfl <;> rfl

/-- What was lent: the nodes in block g, a mark behind them. -/
def Lent (g : Nat) (L : List Nd) (base : Nat) (w : World) : Prop := w.ownsRow base 37 4 (.slice (some ⟨g, 0, none⟩) (L.length + 1) (L.length + 1)) (L.length + 1) (nds (L ++ [mrk]))

set_option maxRecDepth 100000 in
set_option maxHeartbeats 2000000 in
theorem lend_any (w : World) (a : Option Addr) (n cap : Nat) (L : List Nd) (h : NV w a n cap L) : Calls Tryz.prog 4 #[.slice a n cap] w fun e w' => e = .returned (.slice (some ⟨w.heap.size, 0, none⟩) n (n + 1)) ∧ Lent w.heap.size L w.heap.size w' ∧ Below w.heap.size w w' := by
  have HV : Hid (NV w a n cap L) := h
  have HN : Hid (n = L.length) := h.len
  have hsm := h.small
  clear h
  unfold Lent
  rw [← HN.out]
  obtain ⟨i0, hi, hz0, hz1, hz2⟩ := info_parts info34
  obtain ⟨B, hB⟩ : ∃ B, w.heap.size = B := ⟨_, rfl⟩
  rw [hB]
  have HB : Hid (B = w.heap.size) := hB.symm
  go_enter Tryz.func4, Tryz.ntmps4
  go_wp2_with (first | (at_make; refine wpList_make_own _ rfl _ _ 22 rfl B 37 i0 _ 4 Tryz.underlying22 hi hz0 hz1 .i64 .i64 _ (n + 1) rfl rfl ?_ ?_ ?_ ?_ ?_) | fail)
  · omega
  · rw [hz2]; omega
  · unfold maxLen; omega
  · omega
  · intro w1 hown1 hgrow1
    have hbe1 : Below B w w1 := (Below.refl B w).grown hgrow1 (by omega) (by simp)
    clear hgrow1
    go_wp2
    go_loopw [3, 4] (fun v i wr => ∃ k : Nat, k ≤ n ∧ i = .int .i64 k ∧ v = .slice (some ⟨B, 0, none⟩) k (n + 1) ∧ Hid (wr.ownsRow B 37 4 (.slice (some ⟨B, 0, none⟩) k (n + 1)) k (nds (L.take k))) ∧ Hid (Below B w wr)) (fun _ i _ => n - (intOf i).toNat)
    case atStart => exact ⟨0, Nat.zero_le _, rfl, rfl, hown1, hbe1⟩
    case round =>
      clear hown1 hbe1
      obtain ⟨k, hk, rfl, rfl, HO, HE⟩ := hrel
      have HBr : Hid (B ≤ wr.heap.size) := by have := HE.out.size; rw [HB.out]; exact this
      by_cases hkn : k < n
      · have hkl : k < L.length := by rw [← HN.out]; exact hkn
        obtain ⟨b, off, rfl, hb⟩ := HV.out.lies (by omega)
        have hb' := hb k hkl
        obtain ⟨q, hq⟩ : ∃ q, L[k]'hkl = q := ⟨_, rfl⟩
        have HT := take_nds hkl
        rw [hq] at hb' HT
        obtain ⟨c0, c1, c2, c3⟩ := hb'
        have hbl : b < B := by rw [HB.out]; exact cell_lt c0
        replace c0 := (HE.out.cell (p := ⟨b, off + k * 4, none⟩) hbl).trans c0
        replace c1 := (HE.out.cell (p := ⟨b, off + k * 4 + 1, none⟩) hbl).trans c1
        replace c2 := (HE.out.cell (p := ⟨b, off + k * 4 + 2, none⟩) hbl).trans c2
        replace c3 := (HE.out.cell (p := ⟨b, off + k * 4 + 3, none⟩) hbl).trans c3
        have HTk : Hid (nds (L.take (k + 1)) = nds (L.take k) ++ q.cs) := HT
        have hkI : (k : Int) < (n : Int) := by omega
        clear hb HT hq
        go_wp2_with (first | (at_builtin; refine wpList_append_fits _ rfl _ _ 22 rfl B 37 i0 4 Tryz.underlying22 hi hz1 B k (n + 1) _ rfl (HO.out.alloc _) ⟨wr.heap.size, 0, none⟩ 1 1 q.cs rfl rfl (news_new rfl _ _) (cs_one q) (by omega) ?_) | fail)
        intro w2 hown' hgrow
        have HB2 : Hid (Below B w w2) := (HE.out.alloc HBr.out _).grown hgrow (by have := HBr.out; rw [size_alloc]; omega) (fun j hj => by cases hj; exact Nat.le_refl _)
        have HO2 : Hid (w2.ownsRow B 37 4 (.slice (some ⟨B, 0, none⟩) (k + 1) (n + 1)) (k + 1) (nds (L.take (k + 1)))) := by rw [HTk.out]; exact hown'
        clear hgrow hown'
        go_wp2
        go_roundw
        case rel => exact ⟨k + 1, by omega, by go_num, rfl, HO2, HB2⟩
        case measure => simp [intOf]; omega
      · obtain rfl : k = n := by omega
        have HO3 : Hid (wr.ownsRow B 37 4 (.slice (some ⟨B, 0, none⟩) k (k + 1)) k (nds L)) := by
          have := HO.out
          rw [HN.out, List.take_length, ← HN.out] at this
          exact this
        have hkI : ¬ (k : Int) < (k : Int) := by omega
        go_wp2_with (first | (go_at_call 10; refine Calls.mono (marker_any _) ?_; rintro e W ⟨rfl, hb⟩; have HBW : Hid (Below B w W) := HE.out.trans (hb.mono HBr.out); have HOW : Hid (W.ownsRow B 37 4 (.slice (some ⟨B, 0, none⟩) k (k + 1)) k (nds L)) := ownsRow_below HO3.out hb (Nat.le_refl _); have HBs : Hid (B ≤ W.heap.size) := Nat.le_trans HBr.out hb.size; clear hb) | (at_builtin; refine Stop.mk ?_))
        refine Stop.out (wpList_append_fits _ rfl _ _ 22 rfl B 37 i0 4 Tryz.underlying22 hi hz1 B k (k + 1) _ rfl (HOW.out.alloc _) ⟨W.heap.size, 0, none⟩ 1 1 mrk.cs rfl rfl (news_new rfl _ _) (cs_one mrk) (by omega) ?_)
        intro w2 hown' hgrow
        have HB2 : Hid (Below B w w2) := (HBW.out.alloc HBs.out _).grown hgrow (by have := HBs.out; rw [size_alloc]; omega) (fun j hj => by cases hj; exact Nat.le_refl _)
        have HO2 : Hid (w2.ownsRow B 37 4 (.slice (some ⟨B, 0, none⟩) (k + 1) (k + 1)) (k + 1) (nds (L ++ [mrk]))) := by rw [nds_append]; exact hown'
        clear hgrow hown'
        go_wp2
        go_ret
        exact ⟨rfl, HO2.out, HB2.out⟩
end Go.Proofs.YtlmkbfnmnbmakaaGreatDoor.Wk
