import Derived.Test.YtidcjobokfgeoaaI
import Derived.Test.YtidcjobokfgeoaaFa
/-
  DERIVED. The answer of a query that asks for all that is known.
-/
namespace Go.Proofs.Ytidcjobokfgeoaa
open Go Go.Proofs Go.RowKit

def Qy (gq cq : Nat) (w : World) : Prop := w.ownsRow 0 47 5 (.slice (some ⟨gq, 0, none⟩) 22 cq) 22 (qc 11)
theorem Qy.cells {gq cq : Nat} {w : World} (h : Qy gq cq w) {i : Nat} (hi : i < 22) : w.cell? ⟨gq, i * 5, none⟩ = some (.int .u32 (ct i)) ∧ w.cell? ⟨gq, i * 5 + 1, none⟩ = some (.int .i64 (cv i)) ∧ w.cell? ⟨gq, i * 5 + 2, none⟩ = some (.int .i64 (cn i)) ∧ w.cell? ⟨gq, i * 5 + 3, none⟩ = some (.string ⟨#[]⟩) ∧ w.cell? ⟨gq, i * 5 + 4, none⟩ = some (cf i) := by
  obtain ⟨h0, h1, h2, h3, h4, -⟩ := qrow i hi
  exact ⟨(h.cellAt _ (by omega)).trans h0, (h.cellAt _ (by omega)).trans h1, (h.cellAt _ (by omega)).trans h2, (h.cellAt _ (by omega)).trans h3, (h.cellAt _ (by omega)).trans h4⟩

structure AnI (w : World) (x : Nat → ByteArray) (z : Int) (i : Nat) (v : Value) (wx : World) : Prop where
  own : wx.ownsRow (w.heap.size + 1) 41 4 v i (ans x z i)
  st : wx.heap[w.heap.size]? = some (.cells (SP x z) 23)
  sz : w.heap.size + 1 ≤ wx.heap.size
  b : Below w.heap.size w wx
theorem AnI.on {w wr wx : World} {x : Nat → ByteArray} {z : Int} {i : Nat} {v : Value} (h : AnI w x z i v wr) (hb : Below wr.heap.size wr wx) : AnI w x z i v wx :=
  ⟨ownsRow_below h.own hb (Nat.le_refl _), (hb.block _ (by have := h.sz; omega)).trans h.st, Nat.le_trans h.sz hb.size, h.b.trans (hb.mono h.b.size)⟩
theorem AnI.app {w wr W' : World} {x : Nat → ByteArray} {z : Int} {i : Nat} {v v' : Value} (h : AnI w x z i v wr) (ho : W'.ownsRow (w.heap.size + 1) 41 4 v' (i + 1) (ans x z i ++ an x z i)) (hgr : wr.grownBy W' v.ownBlock) : AnI w x z (i + 1) v' W' := by
  have hsz := h.sz
  have hrow : ∀ k, v.ownBlock = some k → w.heap.size + 1 ≤ k := fun k hk => (h.own.lt k hk).1
  refine ⟨by rw [ans_next]; exact ho, ?_, Nat.le_trans hsz hgr.size, h.b.grown hgr h.b.size (fun k hk => by have := hrow k hk; omega)⟩
  have : W'.heap[w.heap.size]? = wr.heap[w.heap.size]? := hgr.block _ (by omega) (fun e => by have := hrow _ e.symm; omega)
  exact this.trans h.st

theorem fn_ne (k : Nat) (W : World) : (binOp .neq 45 (.func (.func k) #[] #[]) .nilFunc).run Try.prog W = .ok (.bool true) W := by kernel_rfl
theorem fn_no (W : World) : (binOp .neq 45 .nilFunc .nilFunc).run Try.prog W = .ok (.bool false) W := by kernel_rfl
structure Aft (wr W : World) (A B : Obj) : Prop where
  b : Below wr.heap.size wr W
  hB : W.heap[wr.heap.size + 1]? = some B
  l : wr.heap.size + 1 < W.heap.size
theorem Aft.of {wr W : World} {A B : Obj} (hb : Below ((wr.alloc A).alloc B).heap.size ((wr.alloc A).alloc B) W) : Aft wr W A B := by
  have hs : ((wr.alloc A).alloc B).heap.size = wr.heap.size + 1 + 1 := by rw [size_alloc, size_alloc]
  have hl : wr.heap.size + 1 < ((wr.alloc A).alloc B).heap.size := by omega
  refine ⟨(((Below.refl _ _).alloc (Nat.le_refl _) _).alloc (by simp) _).trans (hb.mono (by omega)), ?_, Nat.lt_of_lt_of_le hl hb.size⟩
  rw [hb.block _ hl, ← size_alloc wr A, heap_new]

theorem call_txt19 (v : Value) (W : World) : (callFunc 19 #[v]).run Try.prog W = .ok (.enter 19 #[v]) W := by kernel_rfl
theorem call_txt20 (v : Value) (W : World) : (callFunc 20 #[v]).run Try.prog W = .ok (.enter 20 #[v]) W := by kernel_rfl
theorem call_txt21 (v : Value) (W : World) : (callFunc 21 #[v]).run Try.prog W = .ok (.enter 21 #[v]) W := by kernel_rfl
theorem call_txt22 (v : Value) (W : World) : (callFunc 22 #[v]).run Try.prog W = .ok (.enter 22 #[v]) W := by kernel_rfl
theorem call_txt23 (v : Value) (W : World) : (callFunc 23 #[v]).run Try.prog W = .ok (.enter 23 #[v]) W := by kernel_rfl
theorem call_txt24 (v : Value) (W : World) : (callFunc 24 #[v]).run Try.prog W = .ok (.enter 24 #[v]) W := by kernel_rfl
theorem call_txt25 (v : Value) (W : World) : (callFunc 25 #[v]).run Try.prog W = .ok (.enter 25 #[v]) W := by kernel_rfl
theorem call_txt26 (v : Value) (W : World) : (callFunc 26 #[v]).run Try.prog W = .ok (.enter 26 #[v]) W := by kernel_rfl
theorem call_txt27 (v : Value) (W : World) : (callFunc 27 #[v]).run Try.prog W = .ok (.enter 27 #[v]) W := by kernel_rfl
theorem call_txt28 (v : Value) (W : World) : (callFunc 28 #[v]).run Try.prog W = .ok (.enter 28 #[v]) W := by kernel_rfl
theorem call_txt29 (v : Value) (W : World) : (callFunc 29 #[v]).run Try.prog W = .ok (.enter 29 #[v]) W := by kernel_rfl
theorem call_txt30 (v : Value) (W : World) : (callFunc 30 #[v]).run Try.prog W = .ok (.enter 30 #[v]) W := by kernel_rfl
theorem call_txt31 (v : Value) (W : World) : (callFunc 31 #[v]).run Try.prog W = .ok (.enter 31 #[v]) W := by kernel_rfl
theorem call_txt32 (v : Value) (W : World) : (callFunc 32 #[v]).run Try.prog W = .ok (.enter 32 #[v]) W := by kernel_rfl
theorem call_txt33 (v : Value) (W : World) : (callFunc 33 #[v]).run Try.prog W = .ok (.enter 33 #[v]) W := by kernel_rfl
theorem call_txt34 (v : Value) (W : World) : (callFunc 34 #[v]).run Try.prog W = .ok (.enter 34 #[v]) W := by kernel_rfl
theorem call_txt35 (v : Value) (W : World) : (callFunc 35 #[v]).run Try.prog W = .ok (.enter 35 #[v]) W := by kernel_rfl
theorem call_txt36 (v : Value) (W : World) : (callFunc 36 #[v]).run Try.prog W = .ok (.enter 36 #[v]) W := by kernel_rfl
theorem call_txt37 (v : Value) (W : World) : (callFunc 37 #[v]).run Try.prog W = .ok (.enter 37 #[v]) W := by kernel_rfl
theorem call_txt38 (v : Value) (W : World) : (callFunc 38 #[v]).run Try.prog W = .ok (.enter 38 #[v]) W := by kernel_rfl
theorem call_txt (k : Nat) (h1 : 19 ≤ k) (h2 : k ≤ 38) (v : Value) (W : World) : (callFunc k #[v]).run Try.prog W = .ok (.enter k #[v]) W := by
  have : k = 19 ∨ k = 20 ∨ k = 21 ∨ k = 22 ∨ k = 23 ∨ k = 24 ∨ k = 25 ∨ k = 26 ∨ k = 27 ∨ k = 28 ∨ k = 29 ∨ k = 30 ∨ k = 31 ∨ k = 32 ∨ k = 33 ∨ k = 34 ∨ k = 35 ∨ k = 36 ∨ k = 37 ∨ k = 38 := by omega
  rcases this with rfl | rfl | rfl | rfl | rfl | rfl | rfl | rfl | rfl | rfl | rfl | rfl | rfl | rfl | rfl | rfl | rfl | rfl | rfl | rfl
  · exact call_txt19 v W
  · exact call_txt20 v W
  · exact call_txt21 v W
  · exact call_txt22 v W
  · exact call_txt23 v W
  · exact call_txt24 v W
  · exact call_txt25 v W
  · exact call_txt26 v W
  · exact call_txt27 v W
  · exact call_txt28 v W
  · exact call_txt29 v W
  · exact call_txt30 v W
  · exact call_txt31 v W
  · exact call_txt32 v W
  · exact call_txt33 v W
  · exact call_txt34 v W
  · exact call_txt35 v W
  · exact call_txt36 v W
  · exact call_txt37 v W
  · exact call_txt38 v W
theorem under23 : ∃ fs, Try.prog.underlying 23 = some (.struct fs) := ⟨_, Try.underlying23⟩
theorem size23 {x : Nat → ByteArray} {z : Int} : (Try.prog.info? 23).map (·.size) = some (SP x z).size := by kernel_rfl

set_option maxRecDepth 100000 in
set_option maxHeartbeats 4000000 in
theorem answer_any (w : World) (gq cq : Nat) (x : Nat → ByteArray) (z : Int) (hq : Qy gq cq w) : Calls Try.prog 10 #[.slice (some ⟨gq, 0, none⟩) 22 cq, .agg (SP x z)] w fun e w' => ∃ g cap, e = .returned (.slice (some ⟨g, 0, none⟩) 22 cap) ∧ w'.ownsRow w.heap.size 41 4 (.slice (some ⟨g, 0, none⟩) 22 cap) 22 (ans x z 22) ∧ Below w.heap.size w w' := by
  have HQ : Hid (Qy gq cq w) := hq
  have HI0 : Hid (AnI w x z 0 (.slice none 0 0) (w.alloc (.cells (SP x z) 23))) := ⟨World.ownsRow_nil _ _ _ _, heap_new w _, by rw [size_alloc]; exact Nat.le_refl _, (Below.refl _ _).alloc (Nat.le_refl _) _⟩
  clear hq
  go_enter Try.func10, Try.ntmps10
  go_wp2
  obtain ⟨fs23, hu⟩ := under23
  go_loopw [5, 11] (fun s5 s11 wx => ∃ i : Nat, s11 = .int .i64 (i : Int) ∧ i ≤ 22 ∧ Hid (AnI w x z i s5 wx)) (fun _ s11 _ => 22 - (intOf s11).toNat)
  case atStart => exact ⟨0, rfl, by omega, HI0⟩
  case round =>
    obtain ⟨i, rfl, hi22, HI⟩ := hrel
    clear HI0
    by_cases hin : i < 22
    · have HQr : Hid (Qy gq cq wr) := ownsRow_below HQ.out HI.out.b (Nat.le_refl _)
      obtain ⟨c0, c1, c2, c3, c4⟩ := HQr.out.cells hin
      have hI : (i : Int) < 22 := by omega
      obtain ⟨-, -, -, -, -, hff⟩ := qrow i hin
      have hsz := HI.out.sz
      rcases hff with hf | ⟨k, hk1, hk2, hf⟩
      · rw [hf] at c4
        have HF : Hid (an x z i = nd (ct i) (cv i) (cn i) ⟨#[]⟩) := by
          show _ = _
          rw [an, hf]; rfl
        clear hf
        have hnn := fn_no
        go_wp2_with (at_builtin; refine Stop.mk ?_)
        refine Stop.out (app24 rfl (.tmp 26) (.tmp 28) rfl (w.heap.size + 1) u5 i (ans x z i) rfl (World.ownsRow.alloc (World.ownsRow.alloc (World.ownsRow.alloc HI.out.own _) _) _) ⟨wr.heap.size + 1 + 1, 0, none⟩ 1 1 (nd (ct i) (cv i) (cn i) ⟨#[]⟩) rfl rfl (news_new (by rw [size_alloc, size_alloc]) _ _) (nd_one _ _ _ _) (by decide) (by omega) (by rw [size_alloc, size_alloc, size_alloc]; omega) ?_)
        intro g9 c9 W9 ho9 hg9 _ _
        have HI9 : Hid (AnI w x z (i + 1) (.slice (some ⟨g9, 0, none⟩) (i + 1) c9) W9) := by
          rw [← HF.out] at ho9
          exact (HI.out.on ((((Below.refl _ _).alloc (Nat.le_refl _) _).alloc (by simp) _).alloc (by simp; omega) _)).app ho9 hg9
        clear ho9 hg9 HF hnn
        go_wp2
        go_roundw
        case rel => exact ⟨i + 1, by go_num, by omega, HI9⟩
        case measure => simp [intOf]; omega
      · rw [hf] at c4
        have HF : Hid (an x z i = nd (ct i) (cv i) (cn i) (txN x z k)) := by
          show _ = _
          rw [an, hf]; rfl
        clear hf
        have hne := fn_ne k
        have hcf := call_txt k hk1 hk2
        have hg2 : ∀ A B : Obj, ((wr.alloc A).alloc B).heap[w.heap.size]? = some (.cells (SP x z) 23) := fun A B => by
          rw [heap_old _ _ (by rw [size_alloc]; omega), heap_old _ _ (by omega)]
          exact HI.out.st
        go_wp2_with (first | (refine wpList_load_row rfl 23 (.tmp 3) rfl w.heap.size rfl 23 (SP x z) (0, 0) _ (hg2 _ _) hu rfl size23 ?_) | (refine Calls.mono (text_any k hk1 hk2 _ x z) ?_; rintro e W ⟨rfl, hb⟩; refine Stop.mk ?_))
        refine Stop.out ?_
        have ha := Aft.of hb
        have HA : Hid _ := ha.b
        have hB := ha.hB
        have n0 : W.cell? ⟨wr.heap.size + 1, 0, none⟩ = some (.int .u32 (ct i)) := by simp only [World.cell?, hB]; rfl
        have n1 : W.cell? ⟨wr.heap.size + 1, 1, none⟩ = some (.int .i64 (cv i)) := by simp only [World.cell?, hB]; rfl
        have n2 : W.cell? ⟨wr.heap.size + 1, 2, none⟩ = some (.int .i64 (cn i)) := by simp only [World.cell?, hB]; rfl
        have n3 : W.cell? ⟨wr.heap.size + 1, 3, none⟩ = some (.string ⟨#[]⟩) := by simp only [World.cell?, hB]; rfl
        have nf : ∀ j, W.frozen? ⟨wr.heap.size + 1, j, none⟩ = false := fun j => by simp only [World.frozen?, hB]; simp
        have hl := ha.l
        clear ha hb hB
        have HX : Hid (AnI w x z i u5 (W.setCell ⟨wr.heap.size + 1, 3, none⟩ (.string (txN x z k)))) := HI.out.on (HA.out.setCell (by simp) _)
        go_wp2_with (at_builtin; refine Stop.mk ?_)
        refine Stop.out (app24 rfl (.tmp 26) (.tmp 28) rfl (w.heap.size + 1) u5 i (ans x z i) rfl (World.ownsRow.alloc HX.out.own _) ⟨W.heap.size, 0, none⟩ 1 1 (nd (ct i) (cv i) (cn i) (txN x z k)) rfl rfl (news_new (by simp) _ _) (nd_one _ _ _ _) (by decide) (by omega) (by rw [size_alloc]; have := HX.out.sz; omega) ?_)
        intro g9 c9 W9 ho9 hg9 _ _
        have HI9 : Hid (AnI w x z (i + 1) (.slice (some ⟨g9, 0, none⟩) (i + 1) c9) W9) := by
          rw [← HF.out] at ho9
          exact (HX.out.on ((Below.refl _ _).alloc (Nat.le_refl _) _)).app ho9 hg9
        clear ho9 hg9 HF hne hcf hg2
        go_wp2
        go_roundw
        case rel => exact ⟨i + 1, by go_num, by omega, HI9⟩
        case measure => simp [intOf]; omega
    · obtain rfl : i = 22 := by omega
      go_wp2
      have ho : wr.ownsRow (w.heap.size + 1) 41 4 u5 22 (ans x z 22) := HI.out.own
      obtain ⟨g, cap, hv⟩ := owns_succ ho
      have HB := HI.out.b
      subst hv
      go_ret
      exact ⟨g, cap, rfl, own_base ho (by omega), HB⟩
end Go.Proofs.Ytidcjobokfgeoaa
