import Derived.Test.YtilkogodhjnemaaGreatDoorCh
import Derived.Test.YtilkogodhjnemaaGreatDoorDe
import Derived.Test.YtilkogodhjnemaaGreatDoorAs
/-
  DERIVED. Faults in chains, held against each other.
-/
namespace Go.Proofs.YtilkogodhjnemaaGreatDoor
open Go Go.Proofs Go.RowKit

/-- Links lie there. -/
def LkAt (w : World) (g : Nat) (ls : List Lk) : Prop := ∀ i (h : i < ls.length), w.cell? ⟨g, i * 2, none⟩ = some (.string (ls[i]'h).1) ∧ w.cell? ⟨g, i * 2 + 1, none⟩ = some (.int .i64 (ls[i]'h).2)
theorem LkAt.on {w w' : World} {g : Nat} {ls : List Lk} (h : LkAt w g ls) (hb : Below w.heap.size w w') : LkAt w' g ls := fun i hi => ⟨(hb.cell (Rp.cell_lt (h i hi).1)).trans (h i hi).1, (hb.cell (Rp.cell_lt (h i hi).2)).trans (h i hi).2⟩
theorem lk_own {w : World} {base g n cap : Nat} {ls : List Lk} (h : w.ownsRow base 84 2 (.slice (some ⟨g, 0, none⟩) n cap) n (lkc ls)) (hn : n = ls.length) : LkAt w g ls := fun i hi => by
  have h1 := World.ownsRow.cellAt h
  exact ⟨(h1 (i * 2) (by omega)).trans (lkc_get ls i hi).1, (h1 (i * 2 + 1) (by omega)).trans (lkc_get ls i hi).2⟩

set_option maxRecDepth 100000 in
set_option maxHeartbeats 2000000 in
theorem same_chain (w : World) (ls : List Lk) (g h cg ch k : Nat) (c : Int) (hk : k = ls.length) (hs : k ≤ 100) (hg : LkAt w g ls) (hh : LkAt w h ls) :
    Calls Tryz.prog 24 #[.agg #[.slice (some ⟨g, 0, none⟩) k cg, .int .i64 c], .agg #[.slice (some ⟨h, 0, none⟩) k ch, .int .i64 c]] w fun e w' => e = .returned (.bool true) ∧ Hid (Below w.heap.size w w') := by
  have HG : Hid (LkAt w g ls) := hg
  have HH : Hid (LkAt w h ls) := hh
  have HK : Hid (k = ls.length) := hk
  clear hg hh hk
  obtain ⟨W1, hW1⟩ : ∃ W1, (w.alloc (.cells #[.slice (some ⟨g, 0, none⟩) k cg, .int .i64 c] 34)).alloc (.cells #[.slice (some ⟨h, 0, none⟩) k ch, .int .i64 c] 34) = W1 := ⟨_, rfl⟩
  have HB1 : Hid (Below w.heap.size w W1) := by rw [← hW1]; exact ((Below.refl _ _).alloc (Nat.le_refl _) _).alloc (by simp) _
  have a0 : W1.cell? ⟨w.heap.size, 0, none⟩ = some (.slice (some ⟨g, 0, none⟩) k cg) := by rw [← hW1]; simp
  have a1 : W1.cell? ⟨w.heap.size, 1, none⟩ = some (.int .i64 c) := by rw [← hW1]; simp
  have b0 : W1.cell? ⟨w.heap.size + 1, 0, none⟩ = some (.slice (some ⟨h, 0, none⟩) k ch) := by rw [← hW1]; simp
  have b1 : W1.cell? ⟨w.heap.size + 1, 1, none⟩ = some (.int .i64 c) := by rw [← hW1]; simp
  go_enter Tryz.func24, Tryz.ntmps24
  go_wp2
  clear hW1
  go_loopw [5] (fun x5 wr => ∃ i : Nat, x5 = .int .i64 (i : Int) ∧ i ≤ k ∧ ∃ m, wr = W1.drewN m) (fun x5 _ => 200 - (intOf x5).toNat)
  case atStart => exact ⟨0, rfl, by omega, 0, rfl⟩
  case round =>
    obtain ⟨i, rfl, hi, m, rfl⟩ := hrel
    by_cases hlt : i < k
    · have hltI : (i : Int) < (k : Int) := by omega
      have hil : i < ls.length := by rw [← HK.out]; exact hlt
      obtain ⟨x0, x1⟩ := HG.out.on HB1.out i hil
      obtain ⟨y0, y1⟩ := HH.out.on HB1.out i hil
      generalize ls[i]'hil = q at x0 x1 y0 y1
      go_wp2
      go_quiet (fail)
      go_wp2
      go_roundw
      case rel => exact ⟨i + 1, by go_num, by omega, _, rfl⟩
      case measure => simp [intOf]; omega
    · have hltI : ¬ (i : Int) < (k : Int) := by omega
      go_wp2
      go_ret
      exact ⟨rfl, Wk.below_drw HB1.out _⟩

set_option maxRecDepth 100000 in
set_option maxHeartbeats 2000000 in
theorem is_chain (w : World) (ls : List Lk) (c : Int) (v : Value) (g cg k : Nat) (h : Chain w ls c v) (hc : c ≠ 0) (hk : k = ls.length) (h1 : 0 < k) (h11 : k ≤ 11) (hg : LkAt w g ls) :
    Calls Tryz.prog 8 #[v, .agg #[.slice (some ⟨g, 0, none⟩) k cg, .int .i64 c]] w fun e w' => e = .returned (.bool true) ∧ Below w.heap.size w w' := by
  obtain ⟨W1, hW1⟩ : ∃ W1, w.alloc (.cells #[.slice (some ⟨g, 0, none⟩) k cg, .int .i64 c] 34) = W1 := ⟨_, rfl⟩
  have hb1 : Below w.heap.size w W1 := hW1 ▸ (Below.refl _ _).alloc (Nat.le_refl _) _
  have hs1 : w.heap.size < W1.heap.size := by rw [← hW1]; simp
  have a0 : W1.cell? ⟨w.heap.size, 0, none⟩ = some (.slice (some ⟨g, 0, none⟩) k cg) := by rw [← hW1]; simp
  have a1 : W1.cell? ⟨w.heap.size, 1, none⟩ = some (.int .i64 c) := by rw [← hW1]; simp
  have ht := told_any W1 ls c v (h.on hb1) hc (by omega) (by omega)
  rw [← hk] at ht
  have HG1 : Hid (LkAt W1 g ls) := hg.on hb1
  have HB1 : Hid (Below w.heap.size w W1) := hb1
  have HK : Hid (k = ls.length) := hk
  clear h hg hk hb1 hc
  go_enter Tryz.func8, Tryz.ntmps8
  go_wp2_with (go_at_call 23; refine StopF.out ?_)
  refine ⟨Calls.mono ht ?_⟩
  rintro e W2 ⟨g4, cap4, rfl, hb2, ho2⟩
  have e0 := (hb2.out.cell (p := ⟨w.heap.size, 0, none⟩) hs1).trans a0
  have e1 := (hb2.out.cell (p := ⟨w.heap.size, 1, none⟩) hs1).trans a1
  have hs2 : w.heap.size < W2.heap.size := Nat.lt_of_lt_of_le hs1 hb2.out.size
  have HG2 : Hid (LkAt W2 g ls) := HG1.out.on hb2.out
  have HL2 : Hid (LkAt W2 g4 ls) := lk_own ho2.out HK.out
  have HB2 : Hid (Below w.heap.size w W2) := HB1.out.trans (hb2.out.mono HB1.out.size)
  clear ht hb2 ho2 a0 a1 hW1
  have hb3 : Below W2.heap.size W2 (W2.alloc (.cells #[.slice (some ⟨g4, 0, none⟩) k cap4, .int .i64 c] 34)) := (Below.refl _ _).alloc (Nat.le_refl _) _
  have c27 := same_chain (W2.alloc (.cells #[.slice (some ⟨g4, 0, none⟩) k cap4, .int .i64 c] 34)) ls g g4 cg cap4 k c HK.out (by omega) (HG2.out.on hb3) (HL2.out.on hb3)
  go_wp2_with (go_at_call 24; refine StopF.out ?_)
  refine ⟨Calls.mono c27 ?_⟩
  rintro e W3 ⟨rfl, hb4⟩
  go_wp2
  go_ret
  exact ⟨rfl, HB2.out.trans ((hb3.trans (hb4.out.mono hb3.size)).mono HB2.out.size)⟩
end Go.Proofs.YtilkogodhjnemaaGreatDoor

/-
  DERIVED. A list that is no data set, refused by the layer above, by both.
-/
namespace Go.Proofs.YtilkogodhjnemaaGreatDoor
open Go Go.Proofs Go.RowKit
open Wk (Nd NV)

def dsB : ByteArray := { data := #[100, 97, 116, 97, 115, 101, 116] }
def dcB : ByteArray := { data := #[100, 105, 99, 116] }
/-- What the library's variable holds. -/
def EG (w : World) : Prop := w.cell? ⟨0, 0, none⟩ = some (.iface 133 (.agg #[.pointer (some ⟨9, 27, none⟩)]))
theorem EG.on {w w' : World} (h : EG w) (hb : Below w.heap.size w w') : EG w' := (hb.cell (Rp.cell_lt h)).trans h
/-- The layer's error, or none. -/
def PD (w : World) (v : Value) (r : Nat × Bool) : Prop := (r.2 = true ∧ v = .nilIface) ∨ (r.2 = false ∧ Chain w [(dsB, (r.1 : Int)), (dcB, (r.1 : Int))] 5 v)
theorem PD.on {w w' : World} {v : Value} {r : Nat × Bool} (h : PD w v r) (hb : Below w.heap.size w w') : PD w' v r := h.imp id (fun h => ⟨h.1, h.2.on hb⟩)

set_option maxRecDepth 100000 in
theorem refuse_any (w : World) (a : Int) (p : Nat) : Calls Tryz.prog 18 #[.int .i64 a, .iface 72 (.pointer (some ⟨p, 0, none⟩))] w fun e w' => ∃ q, e = .returned (.iface 72 (.pointer (some ⟨q, 0, none⟩))) ∧ w'.cell? ⟨q, 0, none⟩ = some (.string dsB) ∧ w'.cell? ⟨q, 1, none⟩ = some (.int .i64 a) ∧ w'.cell? ⟨q, 2, none⟩ = some (.iface 72 (.pointer (some ⟨p, 0, none⟩))) ∧ Below w.heap.size w w' := by
  go_enter Tryz.func18, Tryz.ntmps18
  go_wp2
  go_ret
  exact ⟨w.heap.size, rfl, by simp [dsB], by simp, by simp, (Below.refl _ _).alloc (Nat.le_refl _) _⟩

set_option maxRecDepth 100000 in
set_option maxHeartbeats 2000000 in
theorem dformed_any (w : World) (a : Option Addr) (n cap : Nat) (L : List Nd) (hV : NV w a n cap L) (hT : TagsOk L) (hE : EG w) :
    Calls Tryz.prog 16 #[.slice a n cap] w fun e w' => ∃ ve, e = .returned ve ∧ Hid (PD w' ve (res L)) ∧ Hid (Below w.heap.size w w') := by
  have c29 := formed_any w a n cap L hV hT
  have HE : Hid (EG w) := hE
  clear hV hT hE
  go_enter Tryz.func16, Tryz.ntmps16
  go_wp2_with (go_at_call 29; refine StopF.out ?_)
  refine ⟨Calls.mono c29 ?_⟩
  rintro e W2 ⟨ve, rfl, hpe, hb2⟩
  have HB2 : Hid (Below w.heap.size w W2) := hb2
  have HE2 : Hid (EG W2) := HE.out.on hb2.out
  rcases hpe.out with ⟨hr, rfl⟩ | ⟨hr, q, rfl, hf⟩
  · have HR : Hid ((res L).2 = true) := hr
    clear hpe hb2 c29 hr
    go_wp2_with (first | (go_at_call 30; refine (as_nil _ _).mono ?_; rintro e W3 ⟨rfl, rfl⟩) | fail)
    go_ret
    exact ⟨_, rfl, .inl ⟨HR.out, rfl⟩, HB2.out.alloc HB2.out.size _⟩
  · have HR : Hid ((res L).2 = false) := hr
    have HF : Hid (Rp.FaultAt W2 q ((res L).1 : Int) 5) := hf
    clear hpe hb2 c29 hr hf
    obtain ⟨W3, hW3⟩ : ∃ W3, W2.alloc (.cells #[.pointer none] 72) = W3 := ⟨_, rfl⟩
    have hb3 : Below W2.heap.size W2 W3 := by rw [← hW3]; exact (Below.refl _ _).alloc (Nat.le_refl _) _
    have t0 : W3.cell? ⟨W2.heap.size, 0, none⟩ = some (.pointer none) := by rw [← hW3]; simp
    have tf : W3.frozen? ⟨W2.heap.size, 0, none⟩ = false := by rw [← hW3]; simp
    have c30 := as_hit ⟨q, 0, none⟩ ⟨W2.heap.size, 0, none⟩ (.pointer none) W3 (HE2.out.on hb3) t0 tf
    have HB3 : Hid (Below w.heap.size w W3) := HB2.out.trans (hb3.mono HB2.out.size)
    have HF3 : Hid (Rp.FaultAt W3 q ((res L).1 : Int) 5) := HF.out.next hb3
    clear hb3
    go_wp2_with (go_at_call 30; refine StopF.out ?_)
    refine ⟨Calls.mono c30 ?_⟩
    rintro e W4 ⟨rfl, hW4⟩
    obtain ⟨V, hV⟩ : ∃ V, (((W3.alloc (.cells #[.pointer (some ⟨W2.heap.size, 0, none⟩)] 74)).alloc (.cells #[.pointer (some ⟨9, 74, none⟩), .pointer (some ⟨W3.heap.size, 0, none⟩), .int .u64 150] 102)).alloc (.cells #[.pointer (some ⟨9, 74, none⟩), .pointer (some ⟨W3.heap.size, 0, none⟩), .int .u64 150] 102)).alloc (.cells #[.pointer (some ⟨q, 0, none⟩)] 72) = V := ⟨_, rfl⟩
    rw [hV] at hW4
    have hbV : Below W3.heap.size W3 V := by rw [← hV]; exact ((((Below.refl _ _).alloc (Nat.le_refl _) _).alloc (by simp) _).alloc (by simp; omega) _).alloc (by simp; omega) _
    have hlt3 : W2.heap.size < W3.heap.size := Rp.cell_lt t0
    have tV : V.cell? ⟨W2.heap.size, 0, none⟩ = some (.pointer none) := (hbV.cell (p := ⟨W2.heap.size, 0, none⟩) hlt3).trans t0
    have HFV : Hid (Rp.FaultAt V q ((res L).1 : Int) 5) := HF3.out.next hbV
    have HBV : Hid (Below w.heap.size w V) := HB3.out.trans (hbV.mono HB3.out.size)
    clear hV hW3 c30 hbV t0 tf
    subst hW4
    have hqV : q < W2.heap.size := Rp.cell_lt HF.out.1
    have k0 : (V.setCell ⟨W2.heap.size, 0, none⟩ (.pointer (some ⟨q, 0, none⟩))).cell? ⟨W2.heap.size, 0, none⟩ = some (.pointer (some ⟨q, 0, none⟩)) := Rp.cell_set_eq tV
    have off : ∀ i, (V.setCell ⟨W2.heap.size, 0, none⟩ (.pointer (some ⟨q, 0, none⟩))).cell? ⟨q, i, none⟩ = V.cell? ⟨q, i, none⟩ := fun i => Rp.cell_set_off (by omega)
    have k1 : (V.setCell ⟨W2.heap.size, 0, none⟩ (.pointer (some ⟨q, 0, none⟩))).cell? ⟨q, 1, none⟩ = some (.int .i64 ((res L).1 : Int)) := (off 1).trans HFV.out.2.1
    have HF5 : Hid (Rp.FaultAt (V.setCell ⟨W2.heap.size, 0, none⟩ (.pointer (some ⟨q, 0, none⟩))) q ((res L).1 : Int) 5) := ⟨(off 0).trans HFV.out.1, (off 1).trans HFV.out.2.1, (off 2).trans HFV.out.2.2⟩
    have HB5 : Hid (Below w.heap.size w (V.setCell ⟨W2.heap.size, 0, none⟩ (.pointer (some ⟨q, 0, none⟩)))) := HBV.out.setCell (p := ⟨W2.heap.size, 0, none⟩) HB2.out.size _
    generalize V.setCell ⟨W2.heap.size, 0, none⟩ (.pointer (some ⟨q, 0, none⟩)) = U at k0 k1 HF5 HB5 ⊢
    clear off tV
    go_wp2_with (first | (go_at_call 18; refine (refuse_any _ _ _).mono ?_; rintro e W6 ⟨q6, rfl, d0, d1, d2, hb6⟩) | fail)
    go_ret
    refine ⟨_, rfl, .inr ⟨HR.out, q6, _, rfl, d0, d1, d2, q, _, rfl, ?_, ?_, ?_, rfl⟩, HB5.out.trans (hb6.mono HB5.out.size)⟩
    · exact (HF5.out.next hb6).1
    · exact (HF5.out.next hb6).2.1
    · exact (HF5.out.next hb6).2.2
end Go.Proofs.YtilkogodhjnemaaGreatDoor

/-
  DERIVED. The document's fault, with a link ahead.
-/
namespace Go.Proofs.YtilkogodhjnemaaGreatDoor
open Go Go.Proofs Go.RowKit
open Wk (Nd NV)

set_option maxRecDepth 100000 in
theorem any_none (w : World) : Calls Tryz.prog 20 #[.agg #[.slice none 0 0, .int .i64 0]] w fun e w' => e = .returned (.bool false) ∧ Below w.heap.size w w' := by
  go_enter Tryz.func20, Tryz.ntmps20
  go_wp2
  go_ret
  exact ⟨rfl, (Below.refl _ _).alloc (Nat.le_refl _) _⟩
set_option maxRecDepth 100000 in
theorem any_some (w : World) (g c : Nat) : Calls Tryz.prog 20 #[.agg #[.slice (some ⟨g, 0, none⟩) 1 c, .int .i64 5]] w fun e w' => e = .returned (.bool true) ∧ Below w.heap.size w w' := by
  go_enter Tryz.func20, Tryz.ntmps20
  go_wp2
  go_ret
  exact ⟨rfl, (Below.refl _ _).alloc (Nat.le_refl _) _⟩

set_option maxRecDepth 100000 in
set_option maxHeartbeats 2000000 in
theorem wrap_any (w : World) (a z : Int) (s : ByteArray) (g cg : Nat) (h0 : w.cell? ⟨g, 0, none⟩ = some (.string s)) (h1 : w.cell? ⟨g, 1, none⟩ = some (.int .i64 z)) :
    Calls Tryz.prog 34 #[.string { data := #[100, 97, 116, 97, 115, 101, 116] }, .int .i64 a, .agg #[.slice (some ⟨g, 0, none⟩) 1 cg, .int .i64 5]] w fun e w' => ∃ g2 c2, e = .returned (.agg #[.slice (some ⟨g2, 0, none⟩) 2 c2, .int .i64 5]) ∧ Hid (LkAt w' g2 [(dsB, a), (s, z)]) ∧ Hid (Below w.heap.size w w') := by
  obtain ⟨i0, hi, hz0, hz1, hz2⟩ := info_parts infoLk
  have hgl : g < w.heap.size := Rp.cell_lt h0
  obtain ⟨W1, hW1⟩ : ∃ W1, ((w.alloc (.cells #[.slice (some ⟨g, 0, none⟩) 1 cg, .int .i64 5] 34)).alloc (.cells #[.slice none 0 0, .int .i64 0] 34)).alloc (.cells #[.string { data := #[100, 97, 116, 97, 115, 101, 116] }, .int .i64 a] 84) = W1 := ⟨_, rfl⟩
  have hb1 : Below w.heap.size w W1 := by rw [← hW1]; exact (((Below.refl _ _).alloc (Nat.le_refl _) _).alloc (by simp) _).alloc (by simp; omega) _
  have bA : Below (w.heap.size + 1) (w.alloc (.cells #[.slice (some ⟨g, 0, none⟩) 1 cg, .int .i64 5] 34)) W1 := by rw [← hW1]; exact ((Below.refl _ _).alloc (by simp) _).alloc (by simp) _
  have bB : Below (w.heap.size + 1 + 1) ((w.alloc (.cells #[.slice (some ⟨g, 0, none⟩) 1 cg, .int .i64 5] 34)).alloc (.cells #[.slice none 0 0, .int .i64 0] 34)) W1 := by rw [← hW1]; exact (Below.refl _ _).alloc (by simp) _
  have hA : W1.heap[w.heap.size]? = some (.cells #[.slice (some ⟨g, 0, none⟩) 1 cg, .int .i64 5] 34 (0, 0)) := (bA.block _ (Nat.lt_succ_self _)).trans (Wk.heap_new w _)
  have hB : W1.heap[w.heap.size + 1]? = some (.cells #[.slice none 0 0, .int .i64 0] 34 (0, 0)) := (bB.block _ (Nat.lt_succ_self _)).trans (Tb.alloc2 _ _ _)
  have hC : W1.heap[w.heap.size + 1 + 1]? = some (.cells #[.string { data := #[100, 97, 116, 97, 115, 101, 116] }, .int .i64 a] 84 (0, 0)) := by rw [← hW1]; exact Tb.alloc3 _ _ _ _
  have a0 : W1.cell? ⟨w.heap.size, 0, none⟩ = some (.slice (some ⟨g, 0, none⟩) 1 cg) := Tb.cell_blk hA rfl
  have a1 : W1.cell? ⟨w.heap.size, 1, none⟩ = some (.int .i64 5) := Tb.cell_blk hA rfl
  have b0 : W1.cell? ⟨w.heap.size + 1, 0, none⟩ = some (.slice none 0 0) := Tb.cell_blk hB rfl
  have b1 : W1.cell? ⟨w.heap.size + 1, 1, none⟩ = some (.int .i64 0) := Tb.cell_blk hB rfl
  have bf : ∀ i, W1.frozen? ⟨w.heap.size + 1, i, none⟩ = false := fun i => Tb.frozen_blk hB
  have HOW : Hid (W1.ownsRow (w.heap.size + 1 + 1) 84 2 (.slice (some ⟨w.heap.size + 1 + 1, 0, none⟩) 1 1) 1 (lkc [(dsB, a)])) := ⟨rfl, .inr ⟨_, 1, _, rfl, Nat.le_refl _, hC, Nat.le_refl _, by unfold maxLen; decide, rfl, rfl⟩⟩
  have g0 := (hb1.cell (p := ⟨g, 0, none⟩) hgl).trans h0
  have g1 := (hb1.cell (p := ⟨g, 1, none⟩) hgl).trans h1
  have hs1 : W1.heap.size = w.heap.size + 1 + 1 + 1 := by rw [← hW1]; simp
  have HS1 : Hid _ := hs1
  have HB1 : Hid _ := hb1
  clear hA hB hC bA bB h0 h1 hb1 hs1
  go_enter Tryz.func34, Tryz.ntmps34
  go_wp2
  refine wp_loop_rounds 2 ?_
  rw [rounds_succ]
  go_wp2_with (at_builtin; refine StopF.out ?_)
  refine ⟨wpList_append_lies _ rfl (.tmp 20) (.tmp 26) 32 rfl (w.heap.size + 1 + 1) 84 i0 _ 2 24 Tryz.underlying32 hi hz0 hz1 hz2 rfl (by decide) (.slice (some ⟨w.heap.size + 1 + 1, 0, none⟩) 1 1) 1 (lkc [(dsB, a)]) rfl (World.ownsRow.alloc HOW.out _) ⟨W1.heap.size, 0, none⟩ 1 1 [.string s, .int .i64 z] rfl rfl (Wk.news_new rfl _ _) (by intro u hu; simp at hu; rcases hu with rfl | rfl <;> rfl) (by decide) (by unfold maxLen; decide) (by decide) (by have := HS1.out; simp; omega) _ rfl ?_⟩
  intro g4 c4 W4 ho4 hg4 _ _
  have hk : ∀ k, k < w.heap.size + 1 + 1 → W4.heap[k]? = W1.heap[k]? := fun k hk => (hg4.block k (by have := HS1.out; simp; omega) (fun e => Nat.ne_of_lt hk (Option.some.inj e))).trans (Below.heap_alloc W1 _ k (by have := HS1.out; omega))
  have k1 : W4.cell? ⟨w.heap.size, 1, none⟩ = some (.int .i64 5) := (World.cell?_of_block (a := ⟨w.heap.size, 1, none⟩) (hk w.heap.size (by omega))).trans a1
  have k0 : W4.cell? ⟨w.heap.size, 0, none⟩ = some (.slice (some ⟨g, 0, none⟩) 1 cg) := (World.cell?_of_block (a := ⟨w.heap.size, 0, none⟩) (hk w.heap.size (by omega))).trans a0
  have m0 : W4.cell? ⟨w.heap.size + 1, 0, none⟩ = some (.slice none 0 0) := (World.cell?_of_block (a := ⟨w.heap.size + 1, 0, none⟩) (hk (w.heap.size + 1) (by omega))).trans b0
  have m1 : W4.cell? ⟨w.heap.size + 1, 1, none⟩ = some (.int .i64 0) := (World.cell?_of_block (a := ⟨w.heap.size + 1, 1, none⟩) (hk (w.heap.size + 1) (by omega))).trans b1
  have mf : ∀ i, W4.frozen? ⟨w.heap.size + 1, i, none⟩ = false := fun i => (World.frozen?_of_block (a := ⟨w.heap.size + 1, i, none⟩) (hk (w.heap.size + 1) (by omega))).trans (bf i)
  have hg4b := (ho4.lt g4 rfl).1
  have HLK : Hid (LkAt W4 g4 [(dsB, a), (s, z)]) := lk_own (ls := [(dsB, a), (s, z)]) ho4 rfl
  have HB4 : Hid (Below w.heap.size w W4) := ⟨hg4.os.trans HB1.out.os, hg4.tape.trans HB1.out.tape, hg4.output.trans HB1.out.output, by have := hg4.size; have := HB1.out.size; simp at *; omega, fun k hk' => (hk k (by omega)).trans (HB1.out.block k hk')⟩
  clear ho4 hg4 hk a0 a1 b0 b1 bf hW1 HOW g0 g1
  go_wp2
  rw [rounds_succ]
  go_wp2
  have e0 : ((W4.setCell ⟨w.heap.size + 1, 0, none⟩ (.slice (some ⟨g4, 0, none⟩) 2 c4)).setCell ⟨w.heap.size + 1, 1, none⟩ (.int .i64 5)).cell? ⟨w.heap.size + 1, 0, none⟩ = some (.slice (some ⟨g4, 0, none⟩) 2 c4) := (Rp.cell_set_ne (by decide)).trans (Rp.cell_set_eq m0)
  have e1 : ((W4.setCell ⟨w.heap.size + 1, 0, none⟩ (.slice (some ⟨g4, 0, none⟩) 2 c4)).setCell ⟨w.heap.size + 1, 1, none⟩ (.int .i64 5)).cell? ⟨w.heap.size + 1, 1, none⟩ = some (.int .i64 5) := Rp.cell_set_eq ((Rp.cell_set_ne (by decide)).trans m1)
  refine bodyPost_ret (v := .agg #[.slice (some ⟨g4, 0, none⟩) 2 c4, .int .i64 5]) (by simp only [results, Tryz.results34]; simp [go_sem, e0, e1]) rfl ⟨g4, c4, rfl, ?_, (HB4.out.setCell (p := ⟨w.heap.size + 1, 0, none⟩) (by simp) _).setCell (p := ⟨w.heap.size + 1, 1, none⟩) (by simp) _⟩
  intro i hi
  have h := HLK.out i hi
  exact ⟨(Rp.cell_set_off (by omega)).trans ((Rp.cell_set_off (by omega)).trans h.1), (Rp.cell_set_off (by omega)).trans ((Rp.cell_set_off (by omega)).trans h.2)⟩
end Go.Proofs.YtilkogodhjnemaaGreatDoor
