import Derived.Test.YtmocofmlehmneaaGreatDoorDb
import Derived.Test.YtmocofmlehmneaaGreatDoorPb
/-
  DERIVED. How the document goes through a list of nodes: what is to be shown; its answer.
-/
namespace Go.Proofs.YtmocofmlehmneaaGreatDoor
open Go Go.Proofs Go.RowKit
open Wk (Nd NV)

/-- What the reader of elements tells. -/
def SomeP (w : World) (L : List Nd) (i : Nat) (c : Int) (d : Nat) (e : Ending) (w' : World) : Prop := ∃ (j : Nat) (ok : Bool), e = .returned (.tuple #[.int .i64 (j : Int), .bool ok]) ∧ SomeQ elemOk itemOk L i c d j ok ∧ Below w.heap.size w w'
/-- What the reader of elements does at a depth. -/
def SomeC (d : Nat) : Prop := ∀ (w : World) (a : Option Addr) (n cap : Nat) (L : List Nd) (i : Nat) (c : Int), NV w a n cap L → TagsOk L → i ≤ n → i ≤ 4096 → -1 ≤ c → c ≤ 9223372036854775807 →
  Calls Tryz.prog 39 #[.slice a n cap, .int .i64 (i : Int), .int .i64 c, .int .i64 (d : Int)] w (SomeP w L i c d)

/-- The document's fault. -/
def RE (w : World) (v : Value) (r : Nat × Bool) : Prop := (r.2 = true ∧ v = .agg #[.slice none 0 0, .int .i64 0]) ∨ (r.2 = false ∧ ∃ g c, v = .agg #[.slice (some ⟨g, 0, none⟩) 1 c, .int .i64 5] ∧ w.cell? ⟨g, 0, none⟩ = some (.string { data := #[100, 105, 99, 116] }) ∧ w.cell? ⟨g, 1, none⟩ = some (.int .i64 (r.1 : Int)))
theorem RE.on {w w' : World} {v : Value} {r : Nat × Bool} (h : RE w v r) (hb : Below w.heap.size w w') : RE w' v r := by
  rcases h with h | ⟨h1, g, c, h2, h3, h4⟩
  · exact .inl h
  · exact .inr ⟨h1, g, c, h2, (hb.cell (Tb.cell_lt h3)).trans h3, (hb.cell (Tb.cell_lt h4)).trans h4⟩
theorem is_same {w : World} {ve vf : Value} {r : Nat × Bool} (h1 : PE w ve r) (h2 : RE w vf r) : Calls Tryz.prog 7 #[ve, vf] w fun e w' => e = .returned (.bool true) ∧ Below w.heap.size w w' := by
  rcases h1 with ⟨a1, rfl⟩ | ⟨a1, q, rfl, hf⟩ <;> rcases h2 with ⟨a2, rfl⟩ | ⟨a2, g, c, rfl, g0, g1⟩
  · exact Rp.is_nil w
  · rw [a1] at a2; cases a2
  · rw [a1] at a2; cases a2
  · exact Rp.is_one 5 (by decide) q g c (r.1 : Int) w hf.1 hf.2.1 hf.2.2 g0 g1

set_option maxRecDepth 100000 in
set_option maxHeartbeats 1000000 in
theorem rformed_any (hS : SomeC 0) (w : World) (a : Option Addr) (n cap : Nat) (L : List Nd) (hV : NV w a n cap L) (hT : TagsOk L) :
    Calls Tryz.prog 18 #[.slice a n cap] w fun e w' => ∃ vf, e = .returned vf ∧ Hid (RE w' vf (res L)) ∧ Hid (Below w.heap.size w w') := by
  obtain ⟨W1, hW1⟩ : ∃ W1, w.alloc (.cells #[.slice none 0 0, .int .i64 0] 30) = W1 := ⟨_, rfl⟩
  have hb1 : Below w.heap.size w W1 := by rw [← hW1]; exact (Below.refl _ _).alloc (Nat.le_refl _) _
  have hF1 : Tb.Fc W1 w.heap.size := by rw [← hW1]; exact ⟨by simp, by simp, fun i => by simp⟩
  have c16 : Calls Tryz.prog 39 #[.slice a n cap, .int .i64 0, .int .i64 (-1), .int .i64 0] W1 (SomeP W1 L 0 (-1) 0) := hS W1 a n cap L 0 (-1) (hV.on hb1) hT (by omega) (by omega) (by omega) (by omega)
  have HB1 : Hid (Below w.heap.size w W1) := hb1
  have HF1 : Hid (Tb.Fc W1 w.heap.size) := hF1
  clear hV hT hb1 hF1
  go_enter Tryz.func18, Tryz.ntmps18
  go_wp2_with (go_at_call 39; refine StopF.out ?_)
  refine ⟨Calls.mono c16 ?_⟩
  rintro e W2 ⟨j, ok, rfl, hq, hb2⟩
  have HR : Hid (res L = (j, ok)) := hq.whole
  have HF2 : Hid (Tb.Fc W2 w.heap.size) := HF1.out.next hb2
  have HB2 : Hid (Below w.heap.size w W2) := HB1.out.trans (hb2.mono HB1.out.size)
  clear c16 hq hb2 hW1
  cases ok with
  | false =>
    go_wp2_with (first | (go_at_call 40; refine (Rp.new0_any _ _ _).mono ?_; rintro e W3 ⟨rfl, hb3, k0, k1⟩; obtain ⟨g0, g1, gf⟩ := HF2.out.next hb3) | fail)
    obtain ⟨u0, u1⟩ := Tb.Fc.sets ⟨g0, g1, gf⟩ (.slice (some ⟨W2.heap.size + 1, 0, none⟩) 1 1) (.int .i64 5)
    have hne : w.heap.size < W2.heap.size := Tb.cell_lt HF2.out.c0
    have off : ∀ (W : World) (i j : Nat) (u z : Value), W.cell? ⟨W2.heap.size + 1, j, none⟩ = some z → (W.setCell ⟨w.heap.size, i, none⟩ u).cell? ⟨W2.heap.size + 1, j, none⟩ = some z := fun W i j u z hz => by
      rw [← hz]
      apply World.cell?_setCell_other
      simp
    refine bodyPost_ret (v := .agg #[.slice (some ⟨W2.heap.size + 1, 0, none⟩) 1 1, .int .i64 5]) (by simp only [results, Tryz.results18]; simp [go_sem, u0, u1]) rfl ⟨_, rfl, .inr ⟨by rw [HR.out], _, _, rfl, off _ _ _ _ _ (off _ _ _ _ _ k0), ?_⟩, ?_⟩
    · rw [HR.out]
      exact off _ _ _ _ _ (off _ _ _ _ _ k1.1)
    · exact ((HB2.out.trans (hb3.mono HB2.out.size)).setCell (p := ⟨w.heap.size, 0, none⟩) (Nat.le_refl _) _).setCell (p := ⟨w.heap.size, 1, none⟩) (Nat.le_refl _) _
  | true =>
    go_wp2_with (first | (go_at_call 25; refine (Tb.none_any _).mono ?_; rintro e W3 ⟨rfl, hb3⟩; obtain ⟨g0, g1, gf⟩ := HF2.out.next hb3) | fail)
    obtain ⟨u0, u1⟩ := Tb.Fc.sets ⟨g0, g1, gf⟩ (.slice none 0 0) (.int .i64 0)
    refine bodyPost_ret (v := .agg #[.slice none 0 0, .int .i64 0]) (by simp only [results, Tryz.results18]; simp [go_sem, u0, u1]) rfl ⟨_, rfl, .inl ⟨by rw [HR.out], rfl⟩, ?_⟩
    exact ((HB2.out.trans (hb3.mono HB2.out.size)).setCell (p := ⟨w.heap.size, 0, none⟩) (Nat.le_refl _) _).setCell (p := ⟨w.heap.size, 1, none⟩) (Nat.le_refl _) _
end Go.Proofs.YtmocofmlehmneaaGreatDoor
