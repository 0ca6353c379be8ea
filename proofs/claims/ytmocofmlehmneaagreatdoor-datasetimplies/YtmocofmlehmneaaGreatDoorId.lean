import Derived.Test.YtmocofmlehmneaaGreatDoorIc
import Derived.Test.YtmocofmlehmneaaGreatDoorWF
import Derived.Test.YtmocofmlehmneaaGreatDoorRJ
/-
  DERIVED. A list that is no data set, refused by the layer above, by both.
-/
namespace Go.Proofs.YtmocofmlehmneaaGreatDoor
open Go Go.Proofs Go.RowKit
open Wk (Nd NV)

def dsB : ByteArray := { data := #[100, 97, 116, 97, 115, 101, 116] }
def dcB : ByteArray := { data := #[100, 105, 99, 116] }
/-- What the library's variable holds. -/
def EG (w : World) : Prop := w.cell? ⟨0, 0, none⟩ = some (.iface 133 (.agg #[.pointer (some ⟨9, 25, none⟩)]))
theorem EG.on {w w' : World} (h : EG w) (hb : Below w.heap.size w w') : EG w' := (hb.cell (Rp.cell_lt h)).trans h
/-- The layer's error, or none. -/
def PD (w : World) (v : Value) (r : Nat × Bool) : Prop := (r.2 = true ∧ v = .nilIface) ∨ (r.2 = false ∧ Chain w [(dsB, (r.1 : Int)), (dcB, (r.1 : Int))] 5 v)
theorem PD.on {w w' : World} {v : Value} {r : Nat × Bool} (h : PD w v r) (hb : Below w.heap.size w w') : PD w' v r := h.imp id (fun h => ⟨h.1, h.2.on hb⟩)

set_option maxRecDepth 100000 in
theorem refuse_any (w : World) (a : Int) (p : Nat) : Calls Tryz.prog 31 #[.int .i64 a, .iface 62 (.pointer (some ⟨p, 0, none⟩))] w fun e w' => ∃ q, e = .returned (.iface 62 (.pointer (some ⟨q, 0, none⟩))) ∧ w'.cell? ⟨q, 0, none⟩ = some (.string dsB) ∧ w'.cell? ⟨q, 1, none⟩ = some (.int .i64 a) ∧ w'.cell? ⟨q, 2, none⟩ = some (.iface 62 (.pointer (some ⟨p, 0, none⟩))) ∧ Below w.heap.size w w' := by
  go_enter Tryz.func31, Tryz.ntmps31
  go_wp2
  go_ret
  exact ⟨w.heap.size, rfl, by simp [dsB], by simp, by simp, (Below.refl _ _).alloc (Nat.le_refl _) _⟩

set_option maxRecDepth 100000 in
set_option maxHeartbeats 2000000 in
theorem dformed_any (w : World) (a : Option Addr) (n cap : Nat) (L : List Nd) (hV : NV w a n cap L) (hT : TagsOk L) (hE : EG w) :
    Calls Tryz.prog 13 #[.slice a n cap] w fun e w' => ∃ ve, e = .returned ve ∧ Hid (PD w' ve (res L)) ∧ Hid (Below w.heap.size w w') := by
  have c29 := formed_any w a n cap L hV hT
  have HE : Hid (EG w) := hE
  clear hV hT hE
  go_enter Tryz.func13, Tryz.ntmps13
  go_wp2_with (go_at_call 29; refine StopF.out ?_)
  refine ⟨Calls.mono c29 ?_⟩
  rintro e W2 ⟨ve, rfl, hpe, hb2⟩
  have HB2 : Hid (Below w.heap.size w W2) := hb2
  have HE2 : Hid (EG W2) := HE.out.on hb2.out
  rcases hpe.out with ⟨hr, rfl⟩ | ⟨hr, q, rfl, hf⟩
  · have HR : Hid ((res L).2 = true) := hr
    clear hpe hb2 c29 hr
    go_wp2_with (first | (go_at_call 30; refine (as_nil _ _).mono ?_; rintro e W3 ⟨rfl, rfl⟩) | fail)
    go_ret
    exact ⟨_, rfl, .inl ⟨HR.out, rfl⟩, HB2.out.alloc HB2.out.size _⟩
  · have HR : Hid ((res L).2 = false) := hr
    have HF : Hid (Rp.FaultAt W2 q ((res L).1 : Int) 5) := hf
    clear hpe hb2 c29 hr hf
    obtain ⟨W3, hW3⟩ : ∃ W3, W2.alloc (.cells #[.pointer none] 62) = W3 := ⟨_, rfl⟩
    have hb3 : Below W2.heap.size W2 W3 := by rw [← hW3]; exact (Below.refl _ _).alloc (Nat.le_refl _) _
    have t0 : W3.cell? ⟨W2.heap.size, 0, none⟩ = some (.pointer none) := by rw [← hW3]; simp
    have tf : W3.frozen? ⟨W2.heap.size, 0, none⟩ = false := by rw [← hW3]; simp
    have c30 := as_hit ⟨q, 0, none⟩ ⟨W2.heap.size, 0, none⟩ (.pointer none) W3 (HE2.out.on hb3) t0 tf
    have HB3 : Hid (Below w.heap.size w W3) := HB2.out.trans (hb3.mono HB2.out.size)
    have HF3 : Hid (Rp.FaultAt W3 q ((res L).1 : Int) 5) := HF.out.next hb3
    clear hb3
    go_wp2_with (go_at_call 30; refine StopF.out ?_)
    refine ⟨Calls.mono c30 ?_⟩
    rintro e W4 ⟨rfl, hW4⟩
    obtain ⟨V, hV⟩ : ∃ V, (((W3.alloc (.cells #[.pointer (some ⟨W2.heap.size, 0, none⟩)] 64)).alloc (.cells #[.pointer (some ⟨9, 64, none⟩), .pointer (some ⟨W3.heap.size, 0, none⟩), .int .u64 150] 98)).alloc (.cells #[.pointer (some ⟨9, 64, none⟩), .pointer (some ⟨W3.heap.size, 0, none⟩), .int .u64 150] 98)).alloc (.cells #[.pointer (some ⟨q, 0, none⟩)] 62) = V := ⟨_, rfl⟩
    rw [hV] at hW4
    have hbV : Below W3.heap.size W3 V := by rw [← hV]; exact ((((Below.refl _ _).alloc (Nat.le_refl _) _).alloc (by simp) _).alloc (by simp; omega) _).alloc (by simp; omega) _
    have hlt3 : W2.heap.size < W3.heap.size := Rp.cell_lt t0
    have tV : V.cell? ⟨W2.heap.size, 0, none⟩ = some (.pointer none) := (hbV.cell (p := ⟨W2.heap.size, 0, none⟩) hlt3).trans t0
    have HFV : Hid (Rp.FaultAt V q ((res L).1 : Int) 5) := HF3.out.next hbV
    have HBV : Hid (Below w.heap.size w V) := HB3.out.trans (hbV.mono HB3.out.size)
    clear hV hW3 c30 hbV t0 tf
    subst hW4
    have hqV : q < W2.heap.size := Rp.cell_lt HF.out.1
    have k0 : (V.setCell ⟨W2.heap.size, 0, none⟩ (.pointer (some ⟨q, 0, none⟩))).cell? ⟨W2.heap.size, 0, none⟩ = some (.pointer (some ⟨q, 0, none⟩)) := Rp.cell_set_eq tV
    have off : ∀ i, (V.setCell ⟨W2.heap.size, 0, none⟩ (.pointer (some ⟨q, 0, none⟩))).cell? ⟨q, i, none⟩ = V.cell? ⟨q, i, none⟩ := fun i => Rp.cell_set_off (by omega)
    have k1 : (V.setCell ⟨W2.heap.size, 0, none⟩ (.pointer (some ⟨q, 0, none⟩))).cell? ⟨q, 1, none⟩ = some (.int .i64 ((res L).1 : Int)) := (off 1).trans HFV.out.2.1
    have HF5 : Hid (Rp.FaultAt (V.setCell ⟨W2.heap.size, 0, none⟩ (.pointer (some ⟨q, 0, none⟩))) q ((res L).1 : Int) 5) := ⟨(off 0).trans HFV.out.1, (off 1).trans HFV.out.2.1, (off 2).trans HFV.out.2.2⟩
    have HB5 : Hid (Below w.heap.size w (V.setCell ⟨W2.heap.size, 0, none⟩ (.pointer (some ⟨q, 0, none⟩)))) := HBV.out.setCell (p := ⟨W2.heap.size, 0, none⟩) HB2.out.size _
    generalize V.setCell ⟨W2.heap.size, 0, none⟩ (.pointer (some ⟨q, 0, none⟩)) = U at k0 k1 HF5 HB5 ⊢
    clear off tV
    go_wp2_with (first | (go_at_call 31; refine (refuse_any _ _ _).mono ?_; rintro e W6 ⟨q6, rfl, d0, d1, d2, hb6⟩) | fail)
    go_ret
    refine ⟨_, rfl, .inr ⟨HR.out, q6, _, rfl, d0, d1, d2, q, _, rfl, ?_, ?_, ?_, rfl⟩, HB5.out.trans (hb6.mono HB5.out.size)⟩
    · exact (HF5.out.next hb6).1
    · exact (HF5.out.next hb6).2.1
    · exact (HF5.out.next hb6).2.2
end Go.Proofs.YtmocofmlehmneaaGreatDoor

/-
  DERIVED. The document's fault, with a link ahead.
-/
namespace Go.Proofs.YtmocofmlehmneaaGreatDoor
open Go Go.Proofs Go.RowKit
open Wk (Nd NV)

set_option maxRecDepth 100000 in
theorem any_none (w : World) : Calls Tryz.prog 19 #[.agg #[.slice none 0 0, .int .i64 0]] w fun e w' => e = .returned (.bool false) ∧ Below w.heap.size w w' := by
  go_enter Tryz.func19, Tryz.ntmps19
  go_wp2
  go_ret
  exact ⟨rfl, (Below.refl _ _).alloc (Nat.le_refl _) _⟩
set_option maxRecDepth 100000 in
theorem any_some (w : World) (g c : Nat) : Calls Tryz.prog 19 #[.agg #[.slice (some ⟨g, 0, none⟩) 1 c, .int .i64 5]] w fun e w' => e = .returned (.bool true) ∧ Below w.heap.size w w' := by
  go_enter Tryz.func19, Tryz.ntmps19
  go_wp2
  go_ret
  exact ⟨rfl, (Below.refl _ _).alloc (Nat.le_refl _) _⟩

set_option maxRecDepth 100000 in
set_option maxHeartbeats 2000000 in
theorem wrap_any (w : World) (a z : Int) (s : ByteArray) (g cg : Nat) (h0 : w.cell? ⟨g, 0, none⟩ = some (.string s)) (h1 : w.cell? ⟨g, 1, none⟩ = some (.int .i64 z)) :
    Calls Tryz.prog 20 #[.string { data := #[100, 97, 116, 97, 115, 101, 116] }, .int .i64 a, .agg #[.slice (some ⟨g, 0, none⟩) 1 cg, .int .i64 5]] w fun e w' => ∃ g2 c2, e = .returned (.agg #[.slice (some ⟨g2, 0, none⟩) 2 c2, .int .i64 5]) ∧ Hid (LkAt w' g2 [(dsB, a), (s, z)]) ∧ Hid (Below w.heap.size w w') := by
  obtain ⟨i0, hi, hz0, hz1, hz2⟩ := info_parts infoLk
  have hgl : g < w.heap.size := Rp.cell_lt h0
  obtain ⟨W1, hW1⟩ : ∃ W1, ((w.alloc (.cells #[.slice (some ⟨g, 0, none⟩) 1 cg, .int .i64 5] 30)).alloc (.cells #[.slice none 0 0, .int .i64 0] 30)).alloc (.cells #[.string { data := #[100, 97, 116, 97, 115, 101, 116] }, .int .i64 a] 52) = W1 := ⟨_, rfl⟩
  have hb1 : Below w.heap.size w W1 := by rw [← hW1]; exact (((Below.refl _ _).alloc (Nat.le_refl _) _).alloc (by simp) _).alloc (by simp; omega) _
  have bA : Below (w.heap.size + 1) (w.alloc (.cells #[.slice (some ⟨g, 0, none⟩) 1 cg, .int .i64 5] 30)) W1 := by rw [← hW1]; exact ((Below.refl _ _).alloc (by simp) _).alloc (by simp) _
  have bB : Below (w.heap.size + 1 + 1) ((w.alloc (.cells #[.slice (some ⟨g, 0, none⟩) 1 cg, .int .i64 5] 30)).alloc (.cells #[.slice none 0 0, .int .i64 0] 30)) W1 := by rw [← hW1]; exact (Below.refl _ _).alloc (by simp) _
  have hA : W1.heap[w.heap.size]? = some (.cells #[.slice (some ⟨g, 0, none⟩) 1 cg, .int .i64 5] 30 (0, 0)) := (bA.block _ (Nat.lt_succ_self _)).trans (Wk.heap_new w _)
  have hB : W1.heap[w.heap.size + 1]? = some (.cells #[.slice none 0 0, .int .i64 0] 30 (0, 0)) := (bB.block _ (Nat.lt_succ_self _)).trans (Tb.alloc2 _ _ _)
  have hC : W1.heap[w.heap.size + 1 + 1]? = some (.cells #[.string { data := #[100, 97, 116, 97, 115, 101, 116] }, .int .i64 a] 52 (0, 0)) := by rw [← hW1]; exact Tb.alloc3 _ _ _ _
  have a0 : W1.cell? ⟨w.heap.size, 0, none⟩ = some (.slice (some ⟨g, 0, none⟩) 1 cg) := Tb.cell_blk hA rfl
  have a1 : W1.cell? ⟨w.heap.size, 1, none⟩ = some (.int .i64 5) := Tb.cell_blk hA rfl
  have b0 : W1.cell? ⟨w.heap.size + 1, 0, none⟩ = some (.slice none 0 0) := Tb.cell_blk hB rfl
  have b1 : W1.cell? ⟨w.heap.size + 1, 1, none⟩ = some (.int .i64 0) := Tb.cell_blk hB rfl
  have bf : ∀ i, W1.frozen? ⟨w.heap.size + 1, i, none⟩ = false := fun i => Tb.frozen_blk hB
  have HOW : Hid (W1.ownsRow (w.heap.size + 1 + 1) 52 2 (.slice (some ⟨w.heap.size + 1 + 1, 0, none⟩) 1 1) 1 (lkc [(dsB, a)])) := ⟨rfl, .inr ⟨_, 1, _, rfl, Nat.le_refl _, hC, Nat.le_refl _, by unfold maxLen; decide, rfl, rfl⟩⟩
  have g0 := (hb1.cell (p := ⟨g, 0, none⟩) hgl).trans h0
  have g1 := (hb1.cell (p := ⟨g, 1, none⟩) hgl).trans h1
  have hs1 : W1.heap.size = w.heap.size + 1 + 1 + 1 := by rw [← hW1]; simp
  have HS1 : Hid _ := hs1
  have HB1 : Hid _ := hb1
  clear hA hB hC bA bB h0 h1 hb1 hs1
  go_enter Tryz.func20, Tryz.ntmps20
  go_wp2
  refine wp_loop_rounds 2 ?_
  rw [rounds_succ]
  go_wp2_with (at_builtin; refine StopF.out ?_)
  refine ⟨wpList_append_lies _ rfl (.tmp 20) (.tmp 26) 28 rfl (w.heap.size + 1 + 1) 52 i0 _ 2 24 Tryz.underlying28 hi hz0 hz1 hz2 rfl (by decide) (.slice (some ⟨w.heap.size + 1 + 1, 0, none⟩) 1 1) 1 (lkc [(dsB, a)]) rfl (World.ownsRow.alloc HOW.out _) ⟨W1.heap.size, 0, none⟩ 1 1 [.string s, .int .i64 z] rfl rfl (Wk.news_new rfl _ _) (by intro u hu; simp at hu; rcases hu with rfl | rfl <;> rfl) (by decide) (by unfold maxLen; decide) (by decide) (by have := HS1.out; simp; omega) _ rfl ?_⟩
  intro g4 c4 W4 ho4 hg4 _ _
  have hk : ∀ k, k < w.heap.size + 1 + 1 → W4.heap[k]? = W1.heap[k]? := fun k hk => (hg4.block k (by have := HS1.out; simp; omega) (fun e => Nat.ne_of_lt hk (Option.some.inj e))).trans (Below.heap_alloc W1 _ k (by have := HS1.out; omega))
  have k1 : W4.cell? ⟨w.heap.size, 1, none⟩ = some (.int .i64 5) := (World.cell?_of_block (a := ⟨w.heap.size, 1, none⟩) (hk w.heap.size (by omega))).trans a1
  have k0 : W4.cell? ⟨w.heap.size, 0, none⟩ = some (.slice (some ⟨g, 0, none⟩) 1 cg) := (World.cell?_of_block (a := ⟨w.heap.size, 0, none⟩) (hk w.heap.size (by omega))).trans a0
  have m0 : W4.cell? ⟨w.heap.size + 1, 0, none⟩ = some (.slice none 0 0) := (World.cell?_of_block (a := ⟨w.heap.size + 1, 0, none⟩) (hk (w.heap.size + 1) (by omega))).trans b0
  have m1 : W4.cell? ⟨w.heap.size + 1, 1, none⟩ = some (.int .i64 0) := (World.cell?_of_block (a := ⟨w.heap.size + 1, 1, none⟩) (hk (w.heap.size + 1) (by omega))).trans b1
  have mf : ∀ i, W4.frozen? ⟨w.heap.size + 1, i, none⟩ = false := fun i => (World.frozen?_of_block (a := ⟨w.heap.size + 1, i, none⟩) (hk (w.heap.size + 1) (by omega))).trans (bf i)
  have hg4b := (ho4.lt g4 rfl).1
  have HLK : Hid (LkAt W4 g4 [(dsB, a), (s, z)]) := lk_own (ls := [(dsB, a), (s, z)]) ho4 rfl
  have HB4 : Hid (Below w.heap.size w W4) := ⟨hg4.os.trans HB1.out.os, hg4.tape.trans HB1.out.tape, hg4.output.trans HB1.out.output, by have := hg4.size; have := HB1.out.size; simp at *; omega, fun k hk' => (hk k (by omega)).trans (HB1.out.block k hk')⟩
  clear ho4 hg4 hk a0 a1 b0 b1 bf hW1 HOW g0 g1
  go_wp2
  rw [rounds_succ]
  go_wp2
  have e0 : ((W4.setCell ⟨w.heap.size + 1, 0, none⟩ (.slice (some ⟨g4, 0, none⟩) 2 c4)).setCell ⟨w.heap.size + 1, 1, none⟩ (.int .i64 5)).cell? ⟨w.heap.size + 1, 0, none⟩ = some (.slice (some ⟨g4, 0, none⟩) 2 c4) := (Rp.cell_set_ne (by decide)).trans (Rp.cell_set_eq m0)
  have e1 : ((W4.setCell ⟨w.heap.size + 1, 0, none⟩ (.slice (some ⟨g4, 0, none⟩) 2 c4)).setCell ⟨w.heap.size + 1, 1, none⟩ (.int .i64 5)).cell? ⟨w.heap.size + 1, 1, none⟩ = some (.int .i64 5) := Rp.cell_set_eq ((Rp.cell_set_ne (by decide)).trans m1)
  refine bodyPost_ret (v := .agg #[.slice (some ⟨g4, 0, none⟩) 2 c4, .int .i64 5]) (by simp only [results, Tryz.results20]; simp [go_sem, e0, e1]) rfl ⟨g4, c4, rfl, ?_, (HB4.out.setCell (p := ⟨w.heap.size + 1, 0, none⟩) (by simp) _).setCell (p := ⟨w.heap.size + 1, 1, none⟩) (by simp) _⟩
  intro i hi
  have h := HLK.out i hi
  exact ⟨(Rp.cell_set_off (by omega)).trans ((Rp.cell_set_off (by omega)).trans h.1), (Rp.cell_set_off (by omega)).trans ((Rp.cell_set_off (by omega)).trans h.2)⟩
end Go.Proofs.YtmocofmlehmneaaGreatDoor

/-
  DERIVED. What is implied, said in one line.
-/
namespace Go.Proofs.YtmocofmlehmneaaGreatDoor
open Go Go.Proofs Go.RowKit
open Wk (Nd NV)

/-- A text under another VR. -/
def txt (v : Int) (s : ByteArray) : ByteArray := if Rp.tx (Rp.vn v) then Rp.trimB s else s
/-- A node as it reads without its VR. -/
def imp (x : Nd) : Nd := if x.v = 29 ∨ x.v = 18 ∨ (Tb.docF x.t.toNat (Tb.upTo 10)).isSome = true then x else ⟨x.t, dflt x.t.toNat, x.n, txt (dflt x.t.toNat) (Rp.padB (Rp.pd (Rp.vn x.v)) x.s)⟩
def out (L : List Nd) : List Nd := if (res L).2 = true then L.map imp else []
theorem imp_t (x : Nd) : (imp x).t = x.t := by unfold imp; split <;> rfl
theorem imp_n (x : Nd) : (imp x).n = x.n := by unfold imp; split <;> rfl

theorem run_ok : ∀ (L : List Nd) (i : Nat) (st : List Lv), i ≤ 4096 → (runL elemOk itemOk i st L).2 = true → L.length + i ≤ 4096 ∧ ∀ x ∈ L, x.v = 29 ∨ x.v = 18 ∨ x.s.size ≤ 65534
  | [], i, st, hi, _ => ⟨by simpa using hi, fun x hx => by simp at hx⟩
  | a :: L, i, st, hi, h => by
    rw [runL] at h
    split at h
    · cases h
    · rename_i hn
      have hi40 : i ≠ 4096 := fun e => hn (.inl e)
      have hr : rightL elemOk itemOk a st = true := by
        rcases hb : rightL elemOk itemOk a st with _ | _
        · exact absurd (.inr hb) hn
        · rfl
      obtain ⟨h1, h2⟩ := run_ok L (i + 1) _ (by omega) h
      refine ⟨by simp; omega, fun x hx => ?_⟩
      rcases List.mem_cons.1 hx with rfl | hx
      · unfold rightL at hr
        split at hr
        · simp only [Bool.and_eq_true, itemOk, decide_eq_true_eq] at hr
          exact .inl hr.1.2.1
        · simp only [Bool.and_eq_true, elemOk] at hr
          have h3 := hr.1.2.2
          unfold bodyO at h3
          split at h3
          · rename_i hv; exact .inr (.inl hv)
          · simp only [Bool.and_eq_true, decide_eq_true_eq] at h3
            exact .inr (.inr h3.2.2.1)
      · exact h2 x hx
theorem res_ok {L : List Nd} (h : (res L).2 = true) : L.length ≤ 4096 ∧ ∀ x ∈ L, x.v = 29 ∨ x.v = 18 ∨ x.s.size ≤ 65534 := by
  have := run_ok L 0 [(0, 0)] (by omega) h
  exact ⟨by omega, this.2⟩

/-- As far as the loop has come. -/
def mix (L : List Nd) (i : Nat) : List Nd := (L.take i).map imp ++ L.drop i
theorem mix_zero (L : List Nd) : mix L 0 = L := by simp [mix]
theorem mix_all (L : List Nd) : mix L L.length = L.map imp := by simp [mix]
theorem mix_len (L : List Nd) (i : Nat) (h : i ≤ L.length) : (mix L i).length = L.length := by simp [mix]; omega
theorem mix_at (L : List Nd) (i : Nat) (h : i < L.length) : (mix L i)[i]'(by rw [mix_len L i (by omega)]; exact h) = L[i] := by
  simp only [mix]
  rw [List.getElem_append_right (by rw [List.length_map, List.length_take]; omega)]
  simp [Nat.min_eq_left (Nat.le_of_lt h)]
theorem mix_next (L : List Nd) (i : Nat) (h : i < L.length) : mix L (i + 1) = (mix L i).set i (imp L[i]) := by
  simp only [mix]
  have hl : ((L.take i).map imp).length = i := by rw [List.length_map, List.length_take]; omega
  rw [List.set_append_right _ _ (by omega), hl, Nat.sub_self, List.drop_eq_getElem_cons h, List.set_cons_zero, List.take_succ_eq_append_getElem h, List.map_append, List.append_assoc]
  rfl
theorem mix_same (L : List Nd) (i : Nat) (h : i < L.length) (e : imp L[i] = L[i]) : mix L (i + 1) = mix L i := by
  rw [mix_next L i h, e]
  have := mix_at L i h
  conv => lhs; rw [← this]
  exact List.set_getElem_self _
theorem nds_set2 : ∀ (L : List Nd) (i : Nat) (h : i < L.length) (z : Int) (s : ByteArray), ((Wk.nds L).set (i * 4 + 1) (.int .i64 z)).set (i * 4 + 3) (.string s) = Wk.nds (L.set i ⟨(L[i]'h).t, z, (L[i]'h).n, s⟩)
  | a :: L, 0, h, z, s => by simp [Wk.nds, Nd.cs]
  | a :: L, i + 1, h, z, s => by
    have ih := nds_set2 L i (by simpa using h) z s
    rw [List.set_cons_succ, show Wk.nds (a :: L) = a.cs ++ Wk.nds L from rfl, show ∀ M, Wk.nds (a :: M) = a.cs ++ Wk.nds M from fun _ => rfl]
    rw [List.set_append_right _ _ (by simp [Nd.cs]; omega), List.set_append_right _ _ (by simp [Nd.cs]; omega), show (i + 1) * 4 + 1 - a.cs.length = i * 4 + 1 by simp [Nd.cs]; omega, show (i + 1) * 4 + 3 - a.cs.length = i * 4 + 3 by simp [Nd.cs]; omega, ih]
    rfl
/-- A row of nodes, one node anew. -/
theorem own_set2 {w : World} {base g n cap : Nat} {L : List Nd} {i : Nat} (h : w.ownsRow base 42 4 (.slice (some ⟨g, 0, none⟩) n cap) n (Wk.nds L)) (hi : i < L.length) (z : Int) (s : ByteArray) : ((w.setCell ⟨g, i * 4 + 1, none⟩ (.int .i64 z)).setCell ⟨g, i * 4 + 3, none⟩ (.string s)).ownsRow base 42 4 (.slice (some ⟨g, 0, none⟩) n cap) n (Wk.nds (L.set i ⟨(L[i]'hi).t, z, (L[i]'hi).n, s⟩)) := by
  have h1 := (World.ownsRow.stored h (i * 4 + 1) (.int .i64 z)).1
  have h2 := (World.ownsRow.stored h1 (i * 4 + 3) (.string s)).1
  rw [nds_set2 L i hi z s] at h2
  exact h2
theorem own_at {w : World} {base g n cap : Nat} {L : List Nd} (h : w.ownsRow base 42 4 (.slice (some ⟨g, 0, none⟩) n cap) n (Wk.nds L)) (hn : n = L.length) {i : Nat} (hi : i < L.length) : w.cell? ⟨g, i * 4, none⟩ = some (.int .u32 (L[i]'hi).t) ∧ w.cell? ⟨g, i * 4 + 1, none⟩ = some (.int .i64 (L[i]'hi).v) ∧ w.cell? ⟨g, i * 4 + 2, none⟩ = some (.int .i64 (L[i]'hi).n) ∧ w.cell? ⟨g, i * 4 + 3, none⟩ = some (.string (L[i]'hi).s) := by
  have hg : ∀ k, k < 4 → w.cell? ⟨g, i * 4 + k, none⟩ = ((L[i]'hi).cs)[k]? := fun k hk => (World.ownsRow.cellAt h (i * 4 + k) (by omega)).trans (Wk.nds_get L i hi k hk)
  exact ⟨hg 0 (by decide), hg 1 (by decide), hg 2 (by decide), hg 3 (by decide)⟩
theorem pad_size (p : Int) (s : ByteArray) : (Rp.padB p s).size ≤ s.size + 1 := by
  unfold Rp.padB
  split
  · omega
  · split <;> simp [ByteArray.size_append] <;> exact Nat.le_refl _
end Go.Proofs.YtmocofmlehmneaaGreatDoor
