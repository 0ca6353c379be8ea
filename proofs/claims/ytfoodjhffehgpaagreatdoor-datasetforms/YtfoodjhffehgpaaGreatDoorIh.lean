import Derived.Test.YtfoodjhffehgpaaGreatDoorDb
import Derived.Test.YtfoodjhffehgpaaGreatDoorPb
import Derived.Test.YtfoodjhffehgpaaGreatDoorAs
import Derived.Test.YtfoodjhffehgpaaGreatDoorDa
import Derived.Test.YtfoodjhffehgpaaGreatDoorVf
import Derived.Test.YtfoodjhffehgpaaGreatDoorGc
import Derived.Test.YtfoodjhffehgpaaGreatDoorBa
import Derived.Deep.RegionHeld3
import Derived.Test.YtfoodjhffehgpaaGreatDoorQc
section
/-
  DERIVED. How the document goes through a list of nodes: what is to be shown; its answer.
-/
namespace Go.Proofs.YtfoodjhffehgpaaGreatDoor
open Go Go.Proofs Go.RowKit
open Wk (Nd NV)

/-- What the reader of elements tells. -/
def SomeP (w : World) (L : List Nd) (i : Nat) (c : Int) (d : Nat) (e : Ending) (w' : World) : Prop := ∃ (j : Nat) (ok : Bool), e = .returned (.tuple #[.int .i64 (j : Int), .bool ok]) ∧ SomeQ elemOk itemOk L i c d j ok ∧ Below w.heap.size w w'
/-- What the reader of elements does at a depth. -/
def SomeC (d : Nat) : Prop := ∀ (w : World) (a : Option Addr) (n cap : Nat) (L : List Nd) (i : Nat) (c : Int), NV w a n cap L → TagsOk L → i ≤ n → i ≤ 4096 → -1 ≤ c → c ≤ 9223372036854775807 →
  Calls Tryz.prog 42 #[.slice a n cap, .int .i64 (i : Int), .int .i64 c, .int .i64 (d : Int)] w (SomeP w L i c d)

/-- The document's fault. -/
def RE (w : World) (v : Value) (r : Nat × Bool) : Prop := (r.2 = true ∧ v = .agg #[.slice none 0 0, .int .i64 0]) ∨ (r.2 = false ∧ ∃ g c, v = .agg #[.slice (some ⟨g, 0, none⟩) 1 c, .int .i64 5] ∧ w.cell? ⟨g, 0, none⟩ = some (.string { data := #[100, 105, 99, 116] }) ∧ w.cell? ⟨g, 1, none⟩ = some (.int .i64 (r.1 : Int)))
theorem RE.on {w w' : World} {v : Value} {r : Nat × Bool} (h : RE w v r) (hb : Below w.heap.size w w') : RE w' v r := by
  rcases h with h | ⟨h1, g, c, h2, h3, h4⟩
  · exact .inl h
  · exact .inr ⟨h1, g, c, h2, (hb.cell (Tb.cell_lt h3)).trans h3, (hb.cell (Tb.cell_lt h4)).trans h4⟩
set_option maxRecDepth 100000 in
set_option maxHeartbeats 1000000 in
theorem rformed_any (hS : SomeC 0) (w : World) (a : Option Addr) (n cap : Nat) (L : List Nd) (hV : NV w a n cap L) (hT : TagsOk L) :
    Calls Tryz.prog 21 #[.slice a n cap] w fun e w' => ∃ vf, e = .returned vf ∧ Hid (RE w' vf (res L)) ∧ Hid (Below w.heap.size w w') := by
  obtain ⟨W1, hW1⟩ : ∃ W1, w.alloc (.cells #[.slice none 0 0, .int .i64 0] 35) = W1 := ⟨_, rfl⟩
  have hb1 : Below w.heap.size w W1 := by rw [← hW1]; exact (Below.refl _ _).alloc (Nat.le_refl _) _
  have hF1 : Tb.Fc W1 w.heap.size := by rw [← hW1]; exact ⟨by simp, by simp, fun i => by simp⟩
  have c16 : Calls Tryz.prog 42 #[.slice a n cap, .int .i64 0, .int .i64 (-1), .int .i64 0] W1 (SomeP W1 L 0 (-1) 0) := hS W1 a n cap L 0 (-1) (hV.on hb1) hT (by omega) (by omega) (by omega) (by omega)
  have HB1 : Hid (Below w.heap.size w W1) := hb1
  have HF1 : Hid (Tb.Fc W1 w.heap.size) := hF1
  clear hV hT hb1 hF1
  go_enter Tryz.func21, Tryz.ntmps21
  go_wp2_with (go_at_call 42; refine StopF.out ?_)
  refine ⟨Calls.mono c16 ?_⟩
  rintro e W2 ⟨j, ok, rfl, hq, hb2⟩
  have HR : Hid (res L = (j, ok)) := hq.whole
  have HF2 : Hid (Tb.Fc W2 w.heap.size) := HF1.out.next hb2
  have HB2 : Hid (Below w.heap.size w W2) := HB1.out.trans (hb2.mono HB1.out.size)
  clear c16 hq hb2 hW1
  cases ok with
  | false =>
    go_wp2_with (first | (go_at_call 34; refine (Rp.new0_any _ _ _).mono ?_; rintro e W3 ⟨rfl, hb3, k0, k1⟩; obtain ⟨g0, g1, gf⟩ := HF2.out.next hb3) | fail)
    obtain ⟨u0, u1⟩ := Tb.Fc.sets ⟨g0, g1, gf⟩ (.slice (some ⟨W2.heap.size + 1, 0, none⟩) 1 1) (.int .i64 5)
    have hne : w.heap.size < W2.heap.size := Tb.cell_lt HF2.out.c0
    have off : ∀ (W : World) (i j : Nat) (u z : Value), W.cell? ⟨W2.heap.size + 1, j, none⟩ = some z → (W.setCell ⟨w.heap.size, i, none⟩ u).cell? ⟨W2.heap.size + 1, j, none⟩ = some z := fun W i j u z hz => by
      rw [← hz]
      apply World.cell?_setCell_other
      simp
    refine bodyPost_ret (v := .agg #[.slice (some ⟨W2.heap.size + 1, 0, none⟩) 1 1, .int .i64 5]) (by simp only [results, Tryz.results21]; simp [go_sem, u0, u1]) rfl ⟨_, rfl, .inr ⟨by rw [HR.out], _, _, rfl, off _ _ _ _ _ (off _ _ _ _ _ k0), ?_⟩, ?_⟩
    · rw [HR.out]
      exact off _ _ _ _ _ (off _ _ _ _ _ k1.1)
    · exact ((HB2.out.trans (hb3.mono HB2.out.size)).setCell (p := ⟨w.heap.size, 0, none⟩) (Nat.le_refl _) _).setCell (p := ⟨w.heap.size, 1, none⟩) (Nat.le_refl _) _
  | true =>
    go_wp2_with (first | (go_at_call 25; refine (Tb.none_any _).mono ?_; rintro e W3 ⟨rfl, hb3⟩; obtain ⟨g0, g1, gf⟩ := HF2.out.next hb3) | fail)
    obtain ⟨u0, u1⟩ := Tb.Fc.sets ⟨g0, g1, gf⟩ (.slice none 0 0) (.int .i64 0)
    refine bodyPost_ret (v := .agg #[.slice none 0 0, .int .i64 0]) (by simp only [results, Tryz.results21]; simp [go_sem, u0, u1]) rfl ⟨_, rfl, .inl ⟨by rw [HR.out], rfl⟩, ?_⟩
    exact ((HB2.out.trans (hb3.mono HB2.out.size)).setCell (p := ⟨w.heap.size, 0, none⟩) (Nat.le_refl _) _).setCell (p := ⟨w.heap.size, 1, none⟩) (Nat.le_refl _) _
end Go.Proofs.YtfoodjhffehgpaaGreatDoor
end

section
/-
  DERIVED. A list that is no data set, refused by the layer above, by both.
-/
namespace Go.Proofs.YtfoodjhffehgpaaGreatDoor
open Go Go.Proofs Go.RowKit
open Wk (Nd NV)

/-- What the library's variable holds. -/
def EG (w : World) : Prop := w.cell? ⟨0, 0, none⟩ = some (.iface 176 (.agg #[.pointer (some ⟨9, 39, none⟩)]))
theorem EG.on {w w' : World} (h : EG w) (hb : Below w.heap.size w w') : EG w' := (hb.cell (Rp.cell_lt h)).trans h
/-- The layer's error, or none. -/
def PD (w : World) (v : Value) (r : Nat × Bool) : Prop := (r.2 = true ∧ v = .nilIface) ∨ (r.2 = false ∧ Chain w [(dsB, (r.1 : Int)), (dcB, (r.1 : Int))] 5 v)
theorem PD.on {w w' : World} {v : Value} {r : Nat × Bool} (h : PD w v r) (hb : Below w.heap.size w w') : PD w' v r := h.imp id (fun h => ⟨h.1, h.2.on hb⟩)

set_option maxRecDepth 100000 in
theorem refuse_any (w : World) (a : Int) (p : Nat) : Calls Tryz.prog 27 #[.int .i64 a, .iface 75 (.pointer (some ⟨p, 0, none⟩))] w fun e w' => ∃ q, e = .returned (.iface 75 (.pointer (some ⟨q, 0, none⟩))) ∧ w'.cell? ⟨q, 0, none⟩ = some (.string dsB) ∧ w'.cell? ⟨q, 1, none⟩ = some (.int .i64 a) ∧ w'.cell? ⟨q, 2, none⟩ = some (.iface 75 (.pointer (some ⟨p, 0, none⟩))) ∧ Below w.heap.size w w' := by
  go_enter Tryz.func27, Tryz.ntmps27
  go_wp2
  go_ret
  exact ⟨w.heap.size, rfl, by simp [dsB], by simp, by simp, (Below.refl _ _).alloc (Nat.le_refl _) _⟩

set_option maxRecDepth 100000 in
set_option maxHeartbeats 2000000 in
theorem dformed_any (w : World) (a : Option Addr) (n cap : Nat) (L : List Nd) (hV : NV w a n cap L) (hT : TagsOk L) (hE : EG w) :
    Calls Tryz.prog 47 #[.slice a n cap] w fun e w' => ∃ ve, e = .returned ve ∧ Hid (PD w' ve (res L)) ∧ Hid (Below w.heap.size w w') := by
  have c29 := formed_any w a n cap L hV hT
  have HE : Hid (EG w) := hE
  clear hV hT hE
  go_enter Tryz.func47, Tryz.ntmps47
  go_wp2_with (go_at_call 77; refine StopF.out ?_)
  refine ⟨Calls.mono c29 ?_⟩
  rintro e W2 ⟨ve, rfl, hpe, hb2⟩
  have HB2 : Hid (Below w.heap.size w W2) := hb2
  have HE2 : Hid (EG W2) := HE.out.on hb2.out
  rcases hpe.out with ⟨hr, rfl⟩ | ⟨hr, q, rfl, hf⟩
  · have HR : Hid ((res L).2 = true) := hr
    clear hpe hb2 c29 hr
    go_wp2_with (first | (go_at_call 78; refine (as_nil _ _).mono ?_; rintro e W3 ⟨rfl, rfl⟩) | fail)
    go_ret
    exact ⟨_, rfl, .inl ⟨HR.out, rfl⟩, HB2.out.alloc HB2.out.size _⟩
  · have HR : Hid ((res L).2 = false) := hr
    have HF : Hid (Rp.FaultAt W2 q ((res L).1 : Int) 5) := hf
    clear hpe hb2 c29 hr hf
    obtain ⟨W3, hW3⟩ : ∃ W3, W2.alloc (.cells #[.pointer none] 75) = W3 := ⟨_, rfl⟩
    have hb3 : Below W2.heap.size W2 W3 := by rw [← hW3]; exact (Below.refl _ _).alloc (Nat.le_refl _) _
    have t0 : W3.cell? ⟨W2.heap.size, 0, none⟩ = some (.pointer none) := by rw [← hW3]; simp
    have tf : W3.frozen? ⟨W2.heap.size, 0, none⟩ = false := by rw [← hW3]; simp
    have c30 := as_hit ⟨q, 0, none⟩ ⟨W2.heap.size, 0, none⟩ (.pointer none) W3 (HE2.out.on hb3) t0 tf
    have HB3 : Hid (Below w.heap.size w W3) := HB2.out.trans (hb3.mono HB2.out.size)
    have HF3 : Hid (Rp.FaultAt W3 q ((res L).1 : Int) 5) := HF.out.next hb3
    clear hb3
    go_wp2_with (go_at_call 78; refine StopF.out ?_)
    refine ⟨Calls.mono c30 ?_⟩
    rintro e W4 ⟨rfl, hW4⟩
    obtain ⟨V, hV⟩ : ∃ V, (((W3.alloc (.cells #[.pointer (some ⟨W2.heap.size, 0, none⟩)] 140)).alloc (.cells #[.pointer (some ⟨9, 140, none⟩), .pointer (some ⟨W3.heap.size, 0, none⟩), .int .u64 150] 157)).alloc (.cells #[.pointer (some ⟨9, 140, none⟩), .pointer (some ⟨W3.heap.size, 0, none⟩), .int .u64 150] 157)).alloc (.cells #[.pointer (some ⟨q, 0, none⟩)] 75) = V := ⟨_, rfl⟩
    rw [hV] at hW4
    have hbV : Below W3.heap.size W3 V := by rw [← hV]; exact ((((Below.refl _ _).alloc (Nat.le_refl _) _).alloc (by simp) _).alloc (by simp; omega) _).alloc (by simp; omega) _
    have hlt3 : W2.heap.size < W3.heap.size := Rp.cell_lt t0
    have tV : V.cell? ⟨W2.heap.size, 0, none⟩ = some (.pointer none) := (hbV.cell (p := ⟨W2.heap.size, 0, none⟩) hlt3).trans t0
    have HFV : Hid (Rp.FaultAt V q ((res L).1 : Int) 5) := HF3.out.next hbV
    have HBV : Hid (Below w.heap.size w V) := HB3.out.trans (hbV.mono HB3.out.size)
    clear hV hW3 c30 hbV t0 tf
    subst hW4
    have hqV : q < W2.heap.size := Rp.cell_lt HF.out.1
    have k0 : (V.setCell ⟨W2.heap.size, 0, none⟩ (.pointer (some ⟨q, 0, none⟩))).cell? ⟨W2.heap.size, 0, none⟩ = some (.pointer (some ⟨q, 0, none⟩)) := Rp.cell_set_eq tV
    have off : ∀ i, (V.setCell ⟨W2.heap.size, 0, none⟩ (.pointer (some ⟨q, 0, none⟩))).cell? ⟨q, i, none⟩ = V.cell? ⟨q, i, none⟩ := fun i => Rp.cell_set_off (by omega)
    have k1 : (V.setCell ⟨W2.heap.size, 0, none⟩ (.pointer (some ⟨q, 0, none⟩))).cell? ⟨q, 1, none⟩ = some (.int .i64 ((res L).1 : Int)) := (off 1).trans HFV.out.2.1
    have HF5 : Hid (Rp.FaultAt (V.setCell ⟨W2.heap.size, 0, none⟩ (.pointer (some ⟨q, 0, none⟩))) q ((res L).1 : Int) 5) := ⟨(off 0).trans HFV.out.1, (off 1).trans HFV.out.2.1, (off 2).trans HFV.out.2.2⟩
    have HB5 : Hid (Below w.heap.size w (V.setCell ⟨W2.heap.size, 0, none⟩ (.pointer (some ⟨q, 0, none⟩)))) := HBV.out.setCell (p := ⟨W2.heap.size, 0, none⟩) HB2.out.size _
    generalize V.setCell ⟨W2.heap.size, 0, none⟩ (.pointer (some ⟨q, 0, none⟩)) = U at k0 k1 HF5 HB5 ⊢
    clear off tV
    go_wp2_with (first | (go_at_call 27; refine (refuse_any _ _ _).mono ?_; rintro e W6 ⟨q6, rfl, d0, d1, d2, hb6⟩) | fail)
    go_ret
    refine ⟨_, rfl, .inr ⟨HR.out, q6, _, rfl, d0, d1, d2, q, _, rfl, ?_, ?_, ?_, rfl⟩, HB5.out.trans (hb6.mono HB5.out.size)⟩
    · exact (HF5.out.next hb6).1
    · exact (HF5.out.next hb6).2.1
    · exact (HF5.out.next hb6).2.2
end Go.Proofs.YtfoodjhffehgpaaGreatDoor
end

section
/-
  DERIVED. The document's fault, with a link ahead.
-/
namespace Go.Proofs.YtfoodjhffehgpaaGreatDoor
open Go Go.Proofs Go.RowKit
open Wk (Nd NV)

set_option maxRecDepth 100000 in
theorem any_none (w : World) : Calls Tryz.prog 12 #[.agg #[.slice none 0 0, .int .i64 0]] w fun e w' => e = .returned (.bool false) ∧ Below w.heap.size w w' := by
  go_enter Tryz.func12, Tryz.ntmps12
  go_wp2
  go_ret
  exact ⟨rfl, (Below.refl _ _).alloc (Nat.le_refl _) _⟩
set_option maxRecDepth 100000 in
theorem any_some (w : World) (g c : Nat) : Calls Tryz.prog 12 #[.agg #[.slice (some ⟨g, 0, none⟩) 1 c, .int .i64 5]] w fun e w' => e = .returned (.bool true) ∧ Below w.heap.size w w' := by
  go_enter Tryz.func12, Tryz.ntmps12
  go_wp2
  go_ret
  exact ⟨rfl, (Below.refl _ _).alloc (Nat.le_refl _) _⟩

set_option maxRecDepth 100000 in
set_option maxHeartbeats 2000000 in
theorem wrap_any (w : World) (a z : Int) (s : ByteArray) (g cg : Nat) (h0 : w.cell? ⟨g, 0, none⟩ = some (.string s)) (h1 : w.cell? ⟨g, 1, none⟩ = some (.int .i64 z)) :
    Calls Tryz.prog 22 #[.string { data := #[100, 97, 116, 97, 115, 101, 116] }, .int .i64 a, .agg #[.slice (some ⟨g, 0, none⟩) 1 cg, .int .i64 5]] w fun e w' => ∃ g2 c2, e = .returned (.agg #[.slice (some ⟨g2, 0, none⟩) 2 c2, .int .i64 5]) ∧ Hid (LkAt w' g2 [(dsB, a), (s, z)]) ∧ Hid (Below w.heap.size w w') := by
  obtain ⟨i0, hi, hz0, hz1, hz2⟩ := info_parts infoLk
  have hgl : g < w.heap.size := Rp.cell_lt h0
  obtain ⟨W1, hW1⟩ : ∃ W1, ((w.alloc (.cells #[.slice (some ⟨g, 0, none⟩) 1 cg, .int .i64 5] 35)).alloc (.cells #[.slice none 0 0, .int .i64 0] 35)).alloc (.cells #[.string { data := #[100, 97, 116, 97, 115, 101, 116] }, .int .i64 a] 66) = W1 := ⟨_, rfl⟩
  have hb1 : Below w.heap.size w W1 := by rw [← hW1]; exact (((Below.refl _ _).alloc (Nat.le_refl _) _).alloc (by simp) _).alloc (by simp; omega) _
  have bA : Below (w.heap.size + 1) (w.alloc (.cells #[.slice (some ⟨g, 0, none⟩) 1 cg, .int .i64 5] 35)) W1 := by rw [← hW1]; exact ((Below.refl _ _).alloc (by simp) _).alloc (by simp) _
  have bB : Below (w.heap.size + 1 + 1) ((w.alloc (.cells #[.slice (some ⟨g, 0, none⟩) 1 cg, .int .i64 5] 35)).alloc (.cells #[.slice none 0 0, .int .i64 0] 35)) W1 := by rw [← hW1]; exact (Below.refl _ _).alloc (by simp) _
  have hA : W1.heap[w.heap.size]? = some (.cells #[.slice (some ⟨g, 0, none⟩) 1 cg, .int .i64 5] 35 (0, 0)) := (bA.block _ (Nat.lt_succ_self _)).trans (Wk.heap_new w _)
  have hB : W1.heap[w.heap.size + 1]? = some (.cells #[.slice none 0 0, .int .i64 0] 35 (0, 0)) := (bB.block _ (Nat.lt_succ_self _)).trans (Tb.alloc2 _ _ _)
  have hC : W1.heap[w.heap.size + 1 + 1]? = some (.cells #[.string { data := #[100, 97, 116, 97, 115, 101, 116] }, .int .i64 a] 66 (0, 0)) := by rw [← hW1]; exact Tb.alloc3 _ _ _ _
  have a0 : W1.cell? ⟨w.heap.size, 0, none⟩ = some (.slice (some ⟨g, 0, none⟩) 1 cg) := Tb.cell_blk hA rfl
  have a1 : W1.cell? ⟨w.heap.size, 1, none⟩ = some (.int .i64 5) := Tb.cell_blk hA rfl
  have b0 : W1.cell? ⟨w.heap.size + 1, 0, none⟩ = some (.slice none 0 0) := Tb.cell_blk hB rfl
  have b1 : W1.cell? ⟨w.heap.size + 1, 1, none⟩ = some (.int .i64 0) := Tb.cell_blk hB rfl
  have bf : ∀ i, W1.frozen? ⟨w.heap.size + 1, i, none⟩ = false := fun i => Tb.frozen_blk hB
  have HOW : Hid (W1.ownsRow (w.heap.size + 1 + 1) 66 2 (.slice (some ⟨w.heap.size + 1 + 1, 0, none⟩) 1 1) 1 (lkc [(dsB, a)])) := ⟨rfl, .inr ⟨_, 1, _, rfl, Nat.le_refl _, hC, Nat.le_refl _, by unfold maxLen; decide, rfl, rfl⟩⟩
  have g0 := (hb1.cell (p := ⟨g, 0, none⟩) hgl).trans h0
  have g1 := (hb1.cell (p := ⟨g, 1, none⟩) hgl).trans h1
  have hs1 : W1.heap.size = w.heap.size + 1 + 1 + 1 := by rw [← hW1]; simp
  have HS1 : Hid _ := hs1
  have HB1 : Hid _ := hb1
  clear hA hB hC bA bB h0 h1 hb1 hs1
  go_enter Tryz.func22, Tryz.ntmps22
  go_wp2
  refine wp_loop_rounds 2 ?_
  rw [rounds_succ]
  go_wp2_with (at_builtin; refine StopF.out ?_)
  refine ⟨wpList_append_lies _ rfl (.tmp 20) (.tmp 26) 33 rfl (w.heap.size + 1 + 1) 66 i0 _ 2 24 Tryz.underlying33 hi hz0 hz1 hz2 rfl (by decide) (.slice (some ⟨w.heap.size + 1 + 1, 0, none⟩) 1 1) 1 (lkc [(dsB, a)]) rfl (World.ownsRow.alloc HOW.out _) ⟨W1.heap.size, 0, none⟩ 1 1 [.string s, .int .i64 z] rfl rfl (Wk.news_new rfl _ _) (by intro u hu; simp at hu; rcases hu with rfl | rfl <;> rfl) (by decide) (by unfold maxLen; decide) (by decide) (by have := HS1.out; simp; omega) _ rfl ?_⟩
  intro g4 c4 W4 ho4 hg4 _ _
  have hk : ∀ k, k < w.heap.size + 1 + 1 → W4.heap[k]? = W1.heap[k]? := fun k hk => (hg4.block k (by have := HS1.out; simp; omega) (fun e => Nat.ne_of_lt hk (Option.some.inj e))).trans (Below.heap_alloc W1 _ k (by have := HS1.out; omega))
  have k1 : W4.cell? ⟨w.heap.size, 1, none⟩ = some (.int .i64 5) := (World.cell?_of_block (a := ⟨w.heap.size, 1, none⟩) (hk w.heap.size (by omega))).trans a1
  have k0 : W4.cell? ⟨w.heap.size, 0, none⟩ = some (.slice (some ⟨g, 0, none⟩) 1 cg) := (World.cell?_of_block (a := ⟨w.heap.size, 0, none⟩) (hk w.heap.size (by omega))).trans a0
  have m0 : W4.cell? ⟨w.heap.size + 1, 0, none⟩ = some (.slice none 0 0) := (World.cell?_of_block (a := ⟨w.heap.size + 1, 0, none⟩) (hk (w.heap.size + 1) (by omega))).trans b0
  have m1 : W4.cell? ⟨w.heap.size + 1, 1, none⟩ = some (.int .i64 0) := (World.cell?_of_block (a := ⟨w.heap.size + 1, 1, none⟩) (hk (w.heap.size + 1) (by omega))).trans b1
  have mf : ∀ i, W4.frozen? ⟨w.heap.size + 1, i, none⟩ = false := fun i => (World.frozen?_of_block (a := ⟨w.heap.size + 1, i, none⟩) (hk (w.heap.size + 1) (by omega))).trans (bf i)
  have hg4b := (ho4.lt g4 rfl).1
  have HLK : Hid (LkAt W4 g4 [(dsB, a), (s, z)]) := lk_own (ls := [(dsB, a), (s, z)]) ho4 rfl
  have HB4 : Hid (Below w.heap.size w W4) := ⟨hg4.os.trans HB1.out.os, hg4.tape.trans HB1.out.tape, hg4.output.trans HB1.out.output, by have := hg4.size; have := HB1.out.size; simp at *; omega, fun k hk' => (hk k (by omega)).trans (HB1.out.block k hk')⟩
  clear ho4 hg4 hk a0 a1 b0 b1 bf hW1 HOW g0 g1
  go_wp2
  rw [rounds_succ]
  go_wp2
  have e0 : ((W4.setCell ⟨w.heap.size + 1, 0, none⟩ (.slice (some ⟨g4, 0, none⟩) 2 c4)).setCell ⟨w.heap.size + 1, 1, none⟩ (.int .i64 5)).cell? ⟨w.heap.size + 1, 0, none⟩ = some (.slice (some ⟨g4, 0, none⟩) 2 c4) := (Rp.cell_set_ne (by decide)).trans (Rp.cell_set_eq m0)
  have e1 : ((W4.setCell ⟨w.heap.size + 1, 0, none⟩ (.slice (some ⟨g4, 0, none⟩) 2 c4)).setCell ⟨w.heap.size + 1, 1, none⟩ (.int .i64 5)).cell? ⟨w.heap.size + 1, 1, none⟩ = some (.int .i64 5) := Rp.cell_set_eq ((Rp.cell_set_ne (by decide)).trans m1)
  refine bodyPost_ret (v := .agg #[.slice (some ⟨g4, 0, none⟩) 2 c4, .int .i64 5]) (by simp only [results, Tryz.results22]; simp [go_sem, e0, e1]) rfl ⟨g4, c4, rfl, ?_, (HB4.out.setCell (p := ⟨w.heap.size + 1, 0, none⟩) (by simp) _).setCell (p := ⟨w.heap.size + 1, 1, none⟩) (by simp) _⟩
  intro i hi
  have h := HLK.out i hi
  exact ⟨(Rp.cell_set_off (by omega)).trans ((Rp.cell_set_off (by omega)).trans h.1), (Rp.cell_set_off (by omega)).trans ((Rp.cell_set_off (by omega)).trans h.2)⟩
end Go.Proofs.YtfoodjhffehgpaaGreatDoor
end

section
/-
  DERIVED. What is implied, said in one line.
-/
namespace Go.Proofs.YtfoodjhffehgpaaGreatDoor
open Go Go.Proofs Go.RowKit
open Wk (Nd NV)

theorem run_ok : ∀ (L : List Nd) (i : Nat) (st : List Lv), i ≤ 4096 → (runL elemOk itemOk i st L).2 = true → L.length + i ≤ 4096 ∧ ∀ x ∈ L, x.v = 29 ∨ x.v = 18 ∨ x.s.size ≤ 65534
  | [], i, st, hi, _ => ⟨by simpa using hi, fun x hx => by simp at hx⟩
  | a :: L, i, st, hi, h => by
    rw [runL] at h
    split at h
    · cases h
    · rename_i hn
      have hi40 : i ≠ 4096 := fun e => hn (.inl e)
      have hr : rightL elemOk itemOk a st = true := by
        rcases hb : rightL elemOk itemOk a st with _ | _
        · exact absurd (.inr hb) hn
        · rfl
      obtain ⟨h1, h2⟩ := run_ok L (i + 1) _ (by omega) h
      refine ⟨by simp; omega, fun x hx => ?_⟩
      rcases List.mem_cons.1 hx with rfl | hx
      · unfold rightL at hr
        split at hr
        · simp only [Bool.and_eq_true, itemOk, decide_eq_true_eq] at hr
          exact .inl hr.1.2.1
        · simp only [Bool.and_eq_true, elemOk] at hr
          have h3 := hr.1.2.2
          unfold bodyO at h3
          split at h3
          · rename_i hv; exact .inr (.inl hv)
          · simp only [Bool.and_eq_true, decide_eq_true_eq] at h3
            exact .inr (.inr h3.2.2.1)
      · exact h2 x hx
theorem res_ok {L : List Nd} (h : (res L).2 = true) : L.length ≤ 4096 ∧ ∀ x ∈ L, x.v = 29 ∨ x.v = 18 ∨ x.s.size ≤ 65534 := by
  have := run_ok L 0 [(0, 0)] (by omega) h
  exact ⟨by omega, this.2⟩

theorem own_at {w : World} {base g n cap : Nat} {L : List Nd} (h : w.ownsRow base 48 4 (.slice (some ⟨g, 0, none⟩) n cap) n (Wk.nds L)) (hn : n = L.length) {i : Nat} (hi : i < L.length) : w.cell? ⟨g, i * 4, none⟩ = some (.int .u32 (L[i]'hi).t) ∧ w.cell? ⟨g, i * 4 + 1, none⟩ = some (.int .i64 (L[i]'hi).v) ∧ w.cell? ⟨g, i * 4 + 2, none⟩ = some (.int .i64 (L[i]'hi).n) ∧ w.cell? ⟨g, i * 4 + 3, none⟩ = some (.string (L[i]'hi).s) := by
  have hg : ∀ k, k < 4 → w.cell? ⟨g, i * 4 + k, none⟩ = ((L[i]'hi).cs)[k]? := fun k hk => (World.ownsRow.cellAt h (i * 4 + k) (by omega)).trans (Wk.nds_get L i hi k hk)
  exact ⟨hg 0 (by decide), hg 1 (by decide), hg 2 (by decide), hg 3 (by decide)⟩
end Go.Proofs.YtfoodjhffehgpaaGreatDoor
end

section
/-
  DERIVED. A value, trimmed: the program's.
-/
namespace Go.Proofs.YtfoodjhffehgpaaGreatDoor.Rp
open Go Go.Proofs Go.RowKit

theorem text_any (w : World) (v : Int) : Calls Tryz.prog 84 #[.int .i64 v] w fun e w' => e = .returned (.bool (tx (vn v))) ∧ Below w.heap.size w w' := by
  obtain ⟨cf, ff, hcf, hff, c⟩ := repOf_open w v
  generalize nm (vn v) = n at c
  generalize pd (vn v) = p at c
  generalize un (vn v) = u at c
  generalize mo (vn v) = m at c
  generalize tx (vn v) = t at c ⊢
  generalize ch (vn v) = c' at c
  generalize mu (vn v) = q at c
  generalize lo (vn v) = l at c
  generalize decide (1 ≤ v ∧ v ≤ 28) = b at c
  rcases hcf with rfl | ⟨j, rfl⟩ <;> rcases hff with rfl | ⟨j2, rfl⟩
  all_goals go_enter Tryz.func84, Tryz.ntmps84
  all_goals go_wp2_with (first | (go_at_call 93; refine c.mono ?_; rintro e W1 ⟨rfl, hb⟩) | fail)
  all_goals go_ret
  all_goals exact ⟨rfl, hb.alloc hb.size _⟩
theorem trim_any (w : World) (v : Int) (s : ByteArray) (hs : s.size ≤ 140737488351232) : Calls Tryz.prog 75 #[.int .i64 v, .string s] w fun e w' => e = .returned (.string (if tx (vn v) then trimB s else s)) ∧ Below w.heap.size w w' := by
  have c13 := text_any w v
  have c36 := fun W => trimmed_any s W hs
  generalize trimB s = r at c36 ⊢
  cases ht : tx (vn v) with
  | true =>
    rw [ht] at c13
    clear ht
    go_enter Tryz.func75, Tryz.ntmps75
    go_wp2_with (first | (go_at_call 84; refine c13.mono ?_; rintro e W1 ⟨rfl, hb1⟩) | (go_at_call 85; refine (c36 _).mono ?_; rintro e W2 ⟨rfl, hb2⟩))
    go_ret
    exact ⟨rfl, hb1.trans (hb2.mono hb1.size)⟩
  | false =>
    rw [ht] at c13
    clear ht
    go_enter Tryz.func75, Tryz.ntmps75
    go_wp2_with (first | (go_at_call 84; refine c13.mono ?_; rintro e W1 ⟨rfl, hb1⟩) | fail)
    go_ret
    exact ⟨rfl, hb1⟩
end Go.Proofs.YtfoodjhffehgpaaGreatDoor.Rp
end

section
/-
  DERIVED. Implied, the document's.
-/
namespace Go.Proofs.YtfoodjhffehgpaaGreatDoor
open Go Go.Proofs Go.RowKit
open Wk (Nd NV)

/-- A text under another VR. -/
def txt (v : Int) (s : ByteArray) : ByteArray := if Rp.tx (Rp.vn v) then Rp.trimB s else s
/-- A node as it reads without its VR. -/
def imp (x : Nd) : Nd := if x.v = 29 ∨ x.v = 18 ∨ (Tb.docF x.t.toNat (Tb.upTo 10)).isSome = true then x else ⟨x.t, dflt x.t.toNat, x.n, txt (dflt x.t.toNat) (Rp.padB (Rp.pd (Rp.vn x.v)) x.s)⟩
def out (L : List Nd) : List Nd := if (res L).2 = true then L.map imp else []
theorem pad_size (p : Int) (s : ByteArray) : (Rp.padB p s).size ≤ s.size + 1 := by
  unfold Rp.padB
  split
  · omega
  · rw [ByteArray.size_append]
    split <;> exact Nat.le_refl _
theorem imp_im (x : Nd) : imp x = imN x := rfl

/-- The document's fault, with the layer's link ahead. -/
def RD (w : World) (v : Value) (r : Nat × Bool) : Prop := (r.2 = true ∧ v = .agg #[.slice none 0 0, .int .i64 0]) ∨ (r.2 = false ∧ ∃ g c, v = .agg #[.slice (some ⟨g, 0, none⟩) 2 c, .int .i64 5] ∧ LkAt w g [(dsB, (r.1 : Int)), (dcB, (r.1 : Int))])
theorem RD.on {w w' : World} {v : Value} {r : Nat × Bool} (h : RD w v r) (hb : Below w.heap.size w w') : RD w' v r := h.imp id (fun ⟨h1, g, c, h2, h3⟩ => ⟨h1, g, c, h2, h3.on hb⟩)
/-- What the document tells. -/
def RImpP (w : World) (L : List Nd) (e : Ending) (w' : World) : Prop := ∃ (u vf : Value), e = .returned (.tuple #[u, vf]) ∧ w'.ownsRow w.heap.size 48 4 u (out L).length (Wk.nds (out L)) ∧ (out L = [] → u = .slice none 0 0) ∧ RD w' vf (res L) ∧ Below w.heap.size w w'
/-- Between two nodes. -/
structure JI (w : World) (L : List Nd) (i : Nat) (v : Value) (W : World) : Prop where
  own : W.ownsRow (w.heap.size + 1) 48 4 v i (Wk.nds ((L.take i).map imp))
  nil : i = 0 → v = .slice none 0 0
  fc : Tb.Fc W w.heap.size
  be : Below w.heap.size w W
  sz : w.heap.size + 1 ≤ W.heap.size
theorem JI.on {w : World} {L : List Nd} {i : Nat} {v : Value} {W W' : World} (h : JI w L i v W) (hb : Below W.heap.size W W') : JI w L i v W' :=
  ⟨Wk.ownsRow_below h.own hb (Nat.le_refl _), h.nil, h.fc.next hb, h.be.trans (hb.mono h.be.size), Nat.le_trans h.sz hb.size⟩
theorem JI.next {w : World} {L : List Nd} {i : Nat} {v : Value} {W W' : World} {y : Nd} {g c : Nat} {o : Obj} (h : JI w L i v W) (hi : i < L.length) (hx : imp (L[i]'hi) = y) (ho : W'.ownsRow (w.heap.size + 1) 48 4 (.slice (some ⟨g, 0, none⟩) (i + 1) c) (i + 1) (Wk.nds ((L.take i).map imp) ++ [.int .u32 y.t, .int .i64 y.v, .int .i64 y.n, .string y.s])) (hg : (W.alloc o).grownBy W' v.ownBlock) : JI w L (i + 1) (.slice (some ⟨g, 0, none⟩) (i + 1) c) W' := by
  have hb : Below (w.heap.size + 1) W W' := ((Below.refl _ _).alloc h.sz _).grown hg (by have := h.sz; simp; omega) (fun k hk => (h.own.lt k hk).1)
  have e : ∀ j, W'.cell? ⟨w.heap.size, j, none⟩ = W.cell? ⟨w.heap.size, j, none⟩ := fun j => hb.cell (p := ⟨w.heap.size, j, none⟩) (Nat.lt_succ_self _)
  refine ⟨?_, fun h => by omega, ⟨(e 0).trans h.fc.c0, (e 1).trans h.fc.c1, fun j => (hb.frozen (p := ⟨w.heap.size, j, none⟩) (Nat.lt_succ_self _)).trans (h.fc.cf j)⟩, h.be.trans (hb.mono (Nat.le_succ _)), Nat.le_trans h.sz hb.size⟩
  rw [List.take_succ_eq_append_getElem hi, List.map_append, List.map_singleton, hx]
  have : Wk.nds ((L.take i).map imp ++ [y]) = Wk.nds ((L.take i).map imp) ++ [.int .u32 y.t, .int .i64 y.v, .int .i64 y.n, .string y.s] := by
    unfold Wk.nds
    rw [List.flatMap_append]
    rfl
  rw [this]
  exact ho
theorem JI.sets {w : World} {L : List Nd} {i : Nat} {v : Value} {W : World} (h : JI w L i v W) {r : Nat} (hr : ∀ g', v.ownBlock = some g' → g' < r) (hw : w.heap.size < r) (x y : Value) : JI w L i v ((W.setCell ⟨r, 3, none⟩ x).setCell ⟨r, 1, none⟩ y) := by
  have e : ∀ k, k < r → ((W.setCell ⟨r, 3, none⟩ x).setCell ⟨r, 1, none⟩ y).heap[k]? = W.heap[k]? := fun k hk => (Below.heap_setCell _ _ _ k (by simp; omega)).trans (Below.heap_setCell _ _ _ k (by simp; omega))
  refine ⟨Wk.own_keep h.own (fun g' hg' => e g' (hr g' hg')), h.nil, ⟨?_, ?_, fun j => ?_⟩, (h.be.setCell (p := ⟨r, 3, none⟩) (Nat.le_of_lt hw) _).setCell (p := ⟨r, 1, none⟩) (Nat.le_of_lt hw) _, by simpa using h.sz⟩
  · exact (World.cell?_of_block (a := ⟨w.heap.size, 0, none⟩) (e w.heap.size hw)).trans h.fc.c0
  · exact (World.cell?_of_block (a := ⟨w.heap.size, 1, none⟩) (e w.heap.size hw)).trans h.fc.c1
  · exact (World.frozen?_of_block (a := ⟨w.heap.size, j, none⟩) (e w.heap.size hw)).trans (h.fc.cf j)

set_option maxRecDepth 100000 in
set_option maxHeartbeats 4000000 in
theorem rimplied_any (hS : SomeC 0) (w : World) (a : Option Addr) (n cap : Nat) (L : List Nd) (hV : NV w a n cap L) (hT : TagsOk L) :
    Calls Tryz.prog 7 #[.slice a n cap] w (RImpP w L) := by
  obtain ⟨W0, hW0⟩ : ∃ W0, w.alloc (.cells #[.slice none 0 0, .int .i64 0] 35) = W0 := ⟨_, rfl⟩
  have hb0 : Below w.heap.size w W0 := by rw [← hW0]; exact (Below.refl _ _).alloc (Nat.le_refl _) _
  have HF0 : Hid (Tb.Fc W0 w.heap.size) := by rw [← hW0]; exact ⟨by simp, by simp, fun i => by simp⟩
  have HS0 : Hid (W0.heap.size = w.heap.size + 1) := by rw [← hW0]; show _ = _; simp
  have c18 := rformed_any hS W0 a n cap L (hV.on hb0) hT
  have HV : Hid (NV w a n cap L) := hV
  have HT : Hid (TagsOk L) := hT
  have HN : Hid (n = L.length) := hV.len
  have HB0 : Hid (Below w.heap.size w W0) := hb0
  clear hV hT hb0 hS
  go_enter Tryz.func7, Tryz.ntmps7
  go_wp2_with (go_at_call 21; refine StopF.out ?_)
  refine ⟨Calls.mono c18 ?_⟩
  rintro e W2 ⟨vf, rfl, hpd, hb2⟩
  have HF2 : Hid (Tb.Fc W2 w.heap.size) := HF0.out.next hb2.out
  have HB2 : Hid (Below w.heap.size w W2) := HB0.out.trans (hb2.out.mono HB0.out.size)
  have HZ2 : Hid (w.heap.size + 1 ≤ W2.heap.size) := by have := hb2.out.size; have := HS0.out; show _ ≤ _; omega
  clear c18 hW0 hb2
  rcases hpd.out with ⟨hr, rfl⟩ | ⟨hr, g, c, rfl, g0, g1⟩
  · obtain ⟨h40, hsz⟩ := res_ok hr
    have HO : Hid (out L = L.map imp) := by show _ = _; unfold out; rw [if_pos hr]
    have HR : Hid ((res L).2 = true) := hr
    have HS : Hid (∀ x ∈ L, x.v = 29 ∨ x.v = 18 ∨ x.s.size ≤ 65534) := hsz
    have hn40 : n ≤ 4096 := by rw [HN.out]; exact h40
    clear hpd hr hsz h40 HF0 HS0 HB0
    go_wp2_with (go_at_call 12; refine StopF.out ?_)
    refine ⟨Calls.mono (any_none _) ?_⟩
    rintro e W3 ⟨rfl, hb3⟩
    have HI0 : Hid (JI w L 0 (.slice none 0 0) W3) := by
      have hbA : Below W2.heap.size W2 W3 := ((Below.refl _ _).alloc (Nat.le_refl _) _).trans (hb3.mono (by simp))
      exact ⟨World.ownsRow_nil _ _ _ _, fun _ => rfl, HF2.out.next hbA, HB2.out.trans (hbA.mono HB2.out.size), Nat.le_trans HZ2.out hbA.size⟩
    clear hb3 HF2 HB2 HZ2
    go_wp2
    go_loopw [5, 6] (fun x5 x6 wr => ∃ i : Nat, x6 = .int .i64 (i : Int) ∧ i ≤ n ∧ Hid (JI w L i x5 wr)) (fun _ x6 _ => n - (intOf x6).toNat)
    case atStart => exact ⟨0, rfl, by omega, HI0⟩
    case round =>
      obtain ⟨i, rfl, hin, HI⟩ := hrel
      clear HI0
      by_cases hlt : i < n
      · have hltI : decide ((i : Int) < (n : Int)) = true := by simp; omega
        obtain ⟨b, off, hlen, rfl, m0, m1, m2, m3⟩ := NV.cells (HV.out.on HI.out.be) (j := i) hlt
        have hnr := HV.out.room
        have htg := HT.out _ (List.getElem_mem hlen)
        have hss := HS.out _ (List.getElem_mem hlen)
        have HQ : Hid (∃ q, q = L[i]'hlen) := ⟨_, rfl⟩
        obtain ⟨q, hq⟩ : ∃ q, L[i]'hlen = q := ⟨_, rfl⟩
        have HQQ : Hid (L[i]'hlen = q) := hq
        rw [hq] at m0 m1 m2 m3 htg hss
        clear hq HQ
        obtain ⟨t, v, z, s⟩ := q
        simp only at m0 m1 m2 m3 htg hss
        obtain ⟨tn, rfl⟩ : ∃ tn : Nat, t = (tn : Int) := ⟨t.toNat, by omega⟩
        have htn : tn < 4294967296 := by omega
        obtain ⟨W4, hW4⟩ : ∃ W4, wr.alloc (.cells #[.int .u32 (tn : Int), .int .i64 v, .int .i64 z, .string s] 48) = W4 := ⟨_, rfl⟩
        have hb4 : Below wr.heap.size wr W4 := by rw [← hW4]; exact (Below.refl _ _).alloc (Nat.le_refl _) _
        have HN4 : Hid (NC W4 wr.heap.size (tn : Int) v z s) := by rw [← hW4]; exact ⟨by simp, by simp, by simp, by simp⟩
        have HF4 : Hid (∀ j, W4.frozen? ⟨wr.heap.size, j, none⟩ = false) := by rw [← hW4]; exact fun j => by simp
        have HI4 : Hid (JI w L i u5 W4) := HI.out.on hb4
        obtain ⟨y0, y1, y2, y3⟩ := HN4.out
        have c21 := Tb.rfind_any W4 tn htn
        obtain ⟨O, hO⟩ : ∃ O, Tb.docF tn (Tb.upTo 10) = O := ⟨_, rfl⟩
        have HOO : Hid (Tb.docF tn (Tb.upTo 10) = O) := hO
        rw [hO] at c21
        have HGO : Hid (∀ g', u5.ownBlock = some g' → g' < wr.heap.size) := fun g' hg' => (HI.out.own.lt g' hg').2
        have HWR : Hid (w.heap.size < wr.heap.size) := HI.out.sz
        clear hO hb4 htg HI
        go_wp2_with (go_at_call 17; refine StopF.out ?_)
        refine ⟨Calls.mono c21 ?_⟩
        rintro e W5 ⟨rfl, hb5⟩
        clear y0 y1 y2 y3 m0 m1 m2 m3 hW4 c21
        obtain ⟨W6, hW6⟩ : ∃ W6, W5.alloc (.cells #[.int .u32 (Tb.eT O), .int .u32 (Tb.eM O), .int .i64 (Tb.eV O), .string (Tb.eS O), .int .i64 (Tb.eL O), .int .i64 (Tb.eN O)] 58) = W6 := ⟨_, rfl⟩
        have hb6 : Below W5.heap.size W5 W6 := by rw [← hW6]; exact (Below.refl _ _).alloc (Nat.le_refl _) _
        have HN6 : Hid (NC W6 wr.heap.size (tn : Int) v z s) := (HN4.out.on hb5).on hb6
        have HF6 : Hid (∀ j, W6.frozen? ⟨wr.heap.size, j, none⟩ = false) := fun j => ((hb5.trans (hb6.mono hb5.size)).frozen (p := ⟨wr.heap.size, j, none⟩) (show wr.heap.size < _ from Tb.cell_lt HN4.out.c0)).trans (HF4.out j)
        have HI6 : Hid (JI w L i u5 W6) := (HI4.out.on hb5).on hb6
        obtain ⟨k0, k1, k2, k3⟩ := HN6.out
        clear hb5 hb6 HN4 HF4 HI4
        by_cases hkeep : v = 29 ∨ v = 18 ∨ O.isSome = true
        · have HIM : Hid (imp (L[i]'hlen) = ⟨(tn : Int), v, z, s⟩) := by
            show _ = _
            rw [HQQ.out]
            unfold imp
            rw [if_pos (by simpa [HOO.out] using hkeep)]
          by_cases h18 : v = 18
          · have b18 : (v == 18) = true := by rw [h18]; rfl
            have d18 : (v != 18) = false := by rw [h18]; rfl
            clear h18 hkeep hss
            go_wp2_with (at_builtin; refine StopF.out ?_)
            refine ⟨Wk.app22 rfl (.tmp 63) (.tmp 65) rfl (w.heap.size + 1) u5 i _ rfl (Wk.ownsRow_below HI6.out.own ((Below.refl W6.heap.size W6).alloc (Nat.le_refl _) _) (Nat.le_refl _)) ⟨W6.heap.size, 0, none⟩ 1 1 [.int .u32 (tn : Int), .int .i64 v, .int .i64 z, .string s] rfl rfl (Wk.news_new rfl _ _) (by intro u hu; simp at hu; rcases hu with rfl | rfl | rfl | rfl <;> rfl) (by decide) (by omega) (by have := HI6.out.sz; simp; omega) ?_⟩
            intro g9 c9 W9 ho9 hg9 _ _
            have HI9 : Hid (JI w L (i + 1) (.slice (some ⟨g9, 0, none⟩) (i + 1) c9) W9) := JI.next HI6.out hlen HIM.out ho9 hg9
            clear ho9 hg9 HI6
            go_wp2
            go_roundw
            case rel => exact ⟨i + 1, by go_num, by omega, HI9⟩
            case measure => simp [intOf]; omega
          · have b18 : (v == 18) = false := beq_eq_false_iff_ne.2 h18
            have d18 : (v != 18) = true := by simp [bne, b18]
            by_cases h29 : v = 29
            · have b29 : (v == 29) = true := by rw [h29]; rfl
              have d29 : (v != 29) = false := by rw [h29]; rfl
              clear h18 h29 hkeep hss
              go_wp2_with (at_builtin; refine StopF.out ?_)
              refine ⟨Wk.app22 rfl (.tmp 63) (.tmp 65) rfl (w.heap.size + 1) u5 i _ rfl (Wk.ownsRow_below HI6.out.own ((Below.refl W6.heap.size W6).alloc (Nat.le_refl _) _) (Nat.le_refl _)) ⟨W6.heap.size, 0, none⟩ 1 1 [.int .u32 (tn : Int), .int .i64 v, .int .i64 z, .string s] rfl rfl (Wk.news_new rfl _ _) (by intro u hu; simp at hu; rcases hu with rfl | rfl | rfl | rfl <;> rfl) (by decide) (by omega) (by have := HI6.out.sz; simp; omega) ?_⟩
              intro g9 c9 W9 ho9 hg9 _ _
              have HI9 : Hid (JI w L (i + 1) (.slice (some ⟨g9, 0, none⟩) (i + 1) c9) W9) := JI.next HI6.out hlen HIM.out ho9 hg9
              clear ho9 hg9 HI6
              go_wp2
              go_roundw
              case rel => exact ⟨i + 1, by go_num, by omega, HI9⟩
              case measure => simp [intOf]; omega
            · have b29 : (v == 29) = false := beq_eq_false_iff_ne.2 h29
              have d29 : (v != 29) = true := by simp [bne, b29]
              have hk : O.isSome = true := by rcases hkeep with h | h | h; exact absurd h h29; exact absurd h h18; exact h
              clear h18 h29 hkeep hss
              rw [hk]
              go_wp2_with (at_builtin; refine StopF.out ?_)
              refine ⟨Wk.app22 rfl (.tmp 63) (.tmp 65) rfl (w.heap.size + 1) u5 i _ rfl (Wk.ownsRow_below HI6.out.own ((Below.refl W6.heap.size W6).alloc (Nat.le_refl _) _) (Nat.le_refl _)) ⟨W6.heap.size, 0, none⟩ 1 1 [.int .u32 (tn : Int), .int .i64 v, .int .i64 z, .string s] rfl rfl (Wk.news_new rfl _ _) (by intro u hu; simp at hu; rcases hu with rfl | rfl | rfl | rfl <;> rfl) (by decide) (by omega) (by have := HI6.out.sz; simp; omega) ?_⟩
              intro g9 c9 W9 ho9 hg9 _ _
              have HI9 : Hid (JI w L (i + 1) (.slice (some ⟨g9, 0, none⟩) (i + 1) c9) W9) := JI.next HI6.out hlen HIM.out ho9 hg9
              clear ho9 hg9 HI6
              go_wp2
              go_roundw
              case rel => exact ⟨i + 1, by go_num, by omega, HI9⟩
              case measure => simp [intOf]; omega
        · have h29 : ¬ v = 29 := fun h => hkeep (.inl h)
          have h18 : ¬ v = 18 := fun h => hkeep (.inr (.inl h))
          have hk : O.isSome = false := by
            rcases hb : O.isSome with _ | _
            · rfl
            · exact absurd (.inr (.inr hb)) hkeep
          have b18 : (v == 18) = false := beq_eq_false_iff_ne.2 h18
          have d18 : (v != 18) = true := by simp [bne, b18]
          have b29 : (v == 29) = false := beq_eq_false_iff_ne.2 h29
          have d29 : (v != 29) = true := by simp [bne, b29]
          have HIM : Hid (imp (L[i]'hlen) = ⟨(tn : Int), dflt tn, z, txt (dflt tn) (Rp.padB (Rp.pd (Rp.vn v)) s)⟩) := by
            show _ = _
            rw [HQQ.out]
            unfold imp
            rw [if_neg (by simpa [HOO.out] using hkeep)]
            rfl
          have hs65 : s.size ≤ 65534 := by rcases hss with h | h | h; exact absurd h h29; exact absurd h h18; exact h
          have cP : ∀ W, Calls Tryz.prog 18 #[.int .i64 v, .string s] W fun e w' => e = .returned (.string (Rp.padB (Rp.pd (Rp.vn v)) s)) ∧ Below W.heap.size W w' := fun W => Rp.rpad_any W v s (by omega)
          have cT : ∀ W, Calls Tryz.prog 24 #[.int .i64 (dflt tn), .string (Rp.padB (Rp.pd (Rp.vn v)) s)] W fun e w' => e = .returned (.string (txt (dflt tn) (Rp.padB (Rp.pd (Rp.vn v)) s))) ∧ Below W.heap.size W w' := fun W => Rp.rtrim_any W (dflt tn) _ (by have := pad_size (Rp.pd (Rp.vn v)) s; omega)
          rw [hk]
          clear h18 h29 hkeep hss
          go_wp2_with (first | (go_at_call 23; refine (rdefault_any _ tn htn).mono ?_; rintro e W7 ⟨rfl, hb7⟩; obtain ⟨j0, j1, j2, j3⟩ := HN6.out.on hb7) | (go_at_call 18; refine StopF.out ?_))
          refine ⟨Calls.mono (cP _) ?_⟩
          rintro e W8 ⟨rfl, hb8⟩
          have hr7 : wr.heap.size < W7.heap.size := Tb.cell_lt j0
          clear j0 j1 j2 j3 k0 k1 k2 k3
          go_wp2_with (go_at_call 24; refine StopF.out ?_)
          refine ⟨Calls.mono (cT _) ?_⟩
          rintro e WA ⟨rfl, hbA⟩
          have hb6A : Below W6.heap.size W6 WA := hb7.trans ((hb8.trans (hbA.mono hb8.size)).mono hb7.size)
          have HIA : Hid (JI w L i u5 WA) := HI6.out.on hb6A
          obtain ⟨q0, q1, q2, q3⟩ := HN6.out.on hb6A
          have qf : ∀ j, WA.frozen? ⟨wr.heap.size, j, none⟩ = false := fun j => (hb6A.frozen (p := ⟨wr.heap.size, j, none⟩) (show wr.heap.size < _ from Tb.cell_lt HN6.out.c0)).trans (HF6.out j)
          clear hb7 hb8 hbA hb6A HI6 HN6 HF6 cP cT hW6
          have HZ : Hid (JI w L i u5 ((WA.setCell ⟨wr.heap.size, 3, none⟩ (.string (txt (dflt tn) (Rp.padB (Rp.pd (Rp.vn v)) s)))).setCell ⟨wr.heap.size, 1, none⟩ (.int .i64 (dflt tn)))) := HIA.out.sets HGO.out HWR.out _ _
          have p0 : ((WA.setCell ⟨wr.heap.size, 3, none⟩ (.string (txt (dflt tn) (Rp.padB (Rp.pd (Rp.vn v)) s)))).setCell ⟨wr.heap.size, 1, none⟩ (.int .i64 (dflt tn))).cell? ⟨wr.heap.size, 0, none⟩ = some (.int .u32 (tn : Int)) := (Rp.cell_set_ne (by decide)).trans ((Rp.cell_set_ne (by decide)).trans q0)
          have p1 : ((WA.setCell ⟨wr.heap.size, 3, none⟩ (.string (txt (dflt tn) (Rp.padB (Rp.pd (Rp.vn v)) s)))).setCell ⟨wr.heap.size, 1, none⟩ (.int .i64 (dflt tn))).cell? ⟨wr.heap.size, 1, none⟩ = some (.int .i64 (dflt tn)) := Rp.cell_set_eq ((Rp.cell_set_ne (by decide)).trans q1)
          have p2 : ((WA.setCell ⟨wr.heap.size, 3, none⟩ (.string (txt (dflt tn) (Rp.padB (Rp.pd (Rp.vn v)) s)))).setCell ⟨wr.heap.size, 1, none⟩ (.int .i64 (dflt tn))).cell? ⟨wr.heap.size, 2, none⟩ = some (.int .i64 z) := (Rp.cell_set_ne (by decide)).trans ((Rp.cell_set_ne (by decide)).trans q2)
          have p3 : ((WA.setCell ⟨wr.heap.size, 3, none⟩ (.string (txt (dflt tn) (Rp.padB (Rp.pd (Rp.vn v)) s)))).setCell ⟨wr.heap.size, 1, none⟩ (.int .i64 (dflt tn))).cell? ⟨wr.heap.size, 3, none⟩ = some (.string (txt (dflt tn) (Rp.padB (Rp.pd (Rp.vn v)) s))) := (Rp.cell_set_ne (by decide)).trans (Rp.cell_set_eq q3)
          obtain ⟨WZ, hWZ⟩ : ∃ WZ, (WA.setCell ⟨wr.heap.size, 3, none⟩ (.string (txt (dflt tn) (Rp.padB (Rp.pd (Rp.vn v)) s)))).setCell ⟨wr.heap.size, 1, none⟩ (.int .i64 (dflt tn)) = WZ := ⟨_, rfl⟩
          rw [hWZ] at HZ p0 p1 p2 p3
          go_wp2_with (at_builtin; refine StopF.out ?_)
          refine ⟨Wk.app22 rfl (.tmp 63) (.tmp 65) rfl (w.heap.size + 1) u5 i _ rfl (Wk.ownsRow_below HZ.out.own ((Below.refl WZ.heap.size WZ).alloc (Nat.le_refl _) _) (Nat.le_refl _)) ⟨WZ.heap.size, 0, none⟩ 1 1 [.int .u32 (tn : Int), .int .i64 (dflt tn), .int .i64 z, .string (txt (dflt tn) (Rp.padB (Rp.pd (Rp.vn v)) s))] rfl rfl (Wk.news_new rfl _ _) (by intro u hu; simp at hu; rcases hu with rfl | rfl | rfl | rfl <;> rfl) (by decide) (by omega) (by have := HZ.out.sz; simp; omega) ?_⟩
          intro g9 c9 W9 ho9 hg9 _ _
          have HI9 : Hid (JI w L (i + 1) (.slice (some ⟨g9, 0, none⟩) (i + 1) c9) W9) := JI.next HZ.out hlen HIM.out ho9 hg9
          clear ho9 hg9 HZ hWZ p0 p1 p2 p3 q0 q1 q2 q3 qf HIA
          go_wp2
          go_roundw
          case rel => exact ⟨i + 1, by go_num, by omega, HI9⟩
          case measure => simp [intOf]; omega
      · have hltI : decide ((i : Int) < (n : Int)) = false := by simp; omega
        obtain rfl : i = n := by omega
        obtain ⟨f0, f1, ff⟩ := HI.out.fc
        go_wp2_with (first | (go_at_call 25; refine (Tb.none_any _).mono ?_; rintro e W9 ⟨rfl, hb9⟩; obtain ⟨g0, g1, gf⟩ := HI.out.fc.next hb9) | fail)
        obtain ⟨p0, p1⟩ := Tb.Fc.sets ⟨g0, g1, gf⟩ (.slice none 0 0) (.int .i64 0)
        have hJ := HI.out.on hb9
        have ho : ((W9.setCell ⟨w.heap.size, 0, none⟩ (.slice none 0 0)).setCell ⟨w.heap.size, 1, none⟩ (.int .i64 0)).ownsRow w.heap.size 48 4 u5 i (Wk.nds ((L.take i).map imp)) := Wk.own_base (Wk.own_keep hJ.own (fun g' hg' => by
          have := (hJ.own.lt g' hg').1
          exact (Below.heap_setCell _ _ _ g' (by simp; omega)).trans (Below.heap_setCell _ _ _ g' (by simp; omega)))) (Nat.le_succ _)
        refine bodyPost_ret (v := .tuple #[u5, .agg #[.slice none 0 0, .int .i64 0]]) (by simp only [results, Tryz.results7]; simp [go_sem, p0, p1]) rfl ⟨_, _, rfl, ?_, ?_, .inl ⟨HR.out, rfl⟩, (hJ.be.setCell (p := ⟨w.heap.size, 0, none⟩) (Nat.le_refl _) _).setCell (p := ⟨w.heap.size, 1, none⟩) (Nat.le_refl _) _⟩
        · rw [HO.out, List.length_map, ← HN.out]
          rw [HN.out, List.take_length, ← HN.out] at ho
          exact ho
        · intro e
          rw [HO.out] at e
          have := List.map_eq_nil_iff.1 e
          exact hJ.nil (by rw [HN.out, this]; rfl)
  · have HR : Hid ((res L).2 = false) := hr
    have HO : Hid (out L = []) := by show _ = _; unfold out; rw [if_neg (by rw [hr]; decide)]
    clear hr
    have HE : Hid (RE W2 (.agg #[.slice (some ⟨g, 0, none⟩) 1 c, .int .i64 5]) (res L)) := hpd
    obtain ⟨W3, hW3⟩ : ∃ W3, W2.alloc (.cells #[.slice (some ⟨g, 0, none⟩) 1 c, .int .i64 5] 35) = W3 := ⟨_, rfl⟩
    have hb3 : Below W2.heap.size W2 W3 := by rw [← hW3]; exact (Below.refl _ _).alloc (Nat.le_refl _) _
    have x0 : W3.cell? ⟨W2.heap.size, 0, none⟩ = some (.slice (some ⟨g, 0, none⟩) 1 c) := by rw [← hW3]; simp
    have x1 : W3.cell? ⟨W2.heap.size, 1, none⟩ = some (.int .i64 5) := by rw [← hW3]; simp
    have g0' := (hb3.cell (p := ⟨g, 0, none⟩) (Tb.cell_lt g0)).trans g0
    have g1' := (hb3.cell (p := ⟨g, 1, none⟩) (Tb.cell_lt g1)).trans g1
    have HF3 : Hid (Tb.Fc W3 w.heap.size) := HF2.out.next hb3
    have HB3 : Hid (Below w.heap.size w W3) := HB2.out.trans (hb3.mono HB2.out.size)
    clear hpd hb3 g0 g1
    go_wp2_with (go_at_call 12; refine StopF.out ?_)
    refine ⟨Calls.mono (any_some _ _ _) ?_⟩
    rintro e W4 ⟨rfl, hb4⟩
    have z0 := (hb4.cell (p := ⟨W2.heap.size, 0, none⟩) (Tb.cell_lt x0)).trans x0
    have z1 := (hb4.cell (p := ⟨W2.heap.size, 1, none⟩) (Tb.cell_lt x1)).trans x1
    have y0 := (hb4.cell (p := ⟨g, 0, none⟩) (Tb.cell_lt g0')).trans g0'
    have y1 := (hb4.cell (p := ⟨g, 1, none⟩) (Tb.cell_lt g1')).trans g1'
    have HF4 : Hid (Tb.Fc W4 w.heap.size) := HF3.out.next hb4
    have HB4 : Hid (Below w.heap.size w W4) := HB3.out.trans (hb4.mono HB3.out.size)
    obtain ⟨f0, f1, ff⟩ := HF4.out
    clear hb4 x0 x1 g0' g1' hW3 HF3 HB3 HB2 HF2
    have hn2 : w.heap.size ≠ W2.heap.size := by have := HZ2.out; omega
    have hng : w.heap.size ≠ g := by rintro rfl; rw [f0] at y0; cases y0
    go_wp2
    refine wp_region_noPanic ?_
    go_region_held3 (fun w' => w'.cell? ⟨W2.heap.size, 0, none⟩ = some (.slice (some ⟨g, 0, none⟩) 1 c) ∧ w'.cell? ⟨W2.heap.size, 1, none⟩ = some (.int .i64 5) ∧ w'.cell? ⟨g, 1, none⟩ = some (.int .i64 ((res L).1 : Int))) (first | (go_keep; done) | exact ⟨(Rp.cell_set_off hn2).trans ((Rp.cell_set_off hn2).trans (by assumption)), (Rp.cell_set_off hn2).trans ((Rp.cell_set_off hn2).trans (by assumption)), (Rp.cell_set_off hng).trans ((Rp.cell_set_off hng).trans (by assumption))⟩) (first | (go_at_call 22; refine Calls.mono (wrap_any _ _ _ _ _ _ y0 y1) ?_; rintro e W5 ⟨g2, c2, rfl, hlk, hb5⟩; have v0 : W5.cell? ⟨W2.heap.size, 0, none⟩ = some (.slice (some ⟨g, 0, none⟩) 1 c) := (hb5.out.cell (p := ⟨W2.heap.size, 0, none⟩) (Tb.cell_lt z0)).trans z0; have v1 : W5.cell? ⟨W2.heap.size, 1, none⟩ = some (.int .i64 5) := (hb5.out.cell (p := ⟨W2.heap.size, 1, none⟩) (Tb.cell_lt z1)).trans z1; have v2 : W5.cell? ⟨g, 1, none⟩ = some (.int .i64 ((res L).1 : Int)) := (hb5.out.cell (p := ⟨g, 1, none⟩) (Tb.cell_lt y1)).trans y1; have v3 : W5.cell? ⟨w.heap.size, 0, none⟩ = some (.slice none 0 0) := (hb5.out.cell (p := ⟨w.heap.size, 0, none⟩) (Tb.cell_lt f0)).trans f0; have v4 : W5.cell? ⟨w.heap.size, 1, none⟩ = some (.int .i64 0) := (hb5.out.cell (p := ⟨w.heap.size, 1, none⟩) (Tb.cell_lt f1)).trans f1; have v5 : ∀ j, W5.frozen? ⟨w.heap.size, j, none⟩ = false := fun j => (hb5.out.frozen (p := ⟨w.heap.size, j, none⟩) (show w.heap.size < _ from Tb.cell_lt f0)).trans (ff j)))
    refine NoPanic.normal ?_
    have hg2 : w.heap.size ≠ g2 := by
      rintro rfl
      have := (hlk.out 0 (Nat.zero_lt_succ _)).1
      rw [show 0 * 2 = 0 from rfl, v3] at this
      cases this
    have hb45 : Below w.heap.size w W5 := HB4.out.trans (((Below.refl W4.heap.size W4).drew.trans hb5.out).mono HB4.out.size)
    obtain ⟨p0, p1⟩ := Tb.Fc.sets ⟨v3, v4, v5⟩ (.slice (some ⟨g2, 0, none⟩) 2 c2) (.int .i64 5)
    go_wp2
    refine bodyPost_ret (v := .tuple #[.slice none 0 0, .agg #[.slice (some ⟨g2, 0, none⟩) 2 c2, .int .i64 5]]) (by simp only [results, Tryz.results7]; simp [go_sem, p0, p1]) rfl ⟨_, _, rfl, ?_, fun _ => rfl, .inr ⟨HR.out, g2, c2, rfl, fun i hi => ?_⟩, (hb45.setCell (p := ⟨w.heap.size, 0, none⟩) (Nat.le_refl _) _).setCell (p := ⟨w.heap.size, 1, none⟩) (Nat.le_refl _) _⟩
    · rw [HO.out]
      exact World.ownsRow_nil _ _ _ _
    · have h := hlk.out i hi
      exact ⟨(Rp.cell_set_off hg2).trans ((Rp.cell_set_off hg2).trans h.1), (Rp.cell_set_off hg2).trans ((Rp.cell_set_off hg2).trans h.2)⟩
end Go.Proofs.YtfoodjhffehgpaaGreatDoor
end
