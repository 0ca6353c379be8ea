import Derived.Test.YtfjcmniicbppdaaK
/-
  DERIVED. The document's framer takes a byte.
-/
namespace Go.Proofs.Ytfjcmniicbppdaa
open Go Go.Proofs Go.RowKit Go.Deep

/-- What byte tells. -/
def fOf (l : Fs) : Value := match l with
  | [] => .tuple #[.agg #[.string ⟨#[]⟩, .bool false], .bool false]
  | f :: _ => .tuple #[.agg #[.string (arr f.1), .bool f.2], .bool true]

def rG (inn : Bool) (v : Value) (wt : Bool) : Nat → Value := fun i => if i = 0 then .bool true else if i = 1 then .bool inn else if i = 2 then v else .bool wt
def zG : Nat → Value := fun i => if i = 0 then .string ⟨#[]⟩ else .bool false

theorem four {i : Nat} (h : i < 4) : i = 0 ∨ i = 1 ∨ i = 2 ∨ i = 3 := by omega
theorem rG1 (inn b : Bool) (v : Value) (wt : Bool) : ∀ i, i < 4 → (if i = 1 then Value.bool b else rG inn v wt i) = rG b v wt i := by
  intro i hi
  rcases four hi with rfl | rfl | rfl | rfl <;> rfl
theorem rG2 (inn : Bool) (v u : Value) (wt : Bool) : ∀ i, i < 4 → (if i = 2 then u else rG inn v wt i) = rG inn u wt i := by
  intro i hi
  rcases four hi with rfl | rfl | rfl | rfl <;> rfl
theorem rG3 (inn : Bool) (v : Value) (wt b : Bool) : ∀ i, i < 4 → (if i = 3 then Value.bool b else rG inn v wt i) = rG inn v b i := by
  intro i hi
  rcases four hi with rfl | rfl | rfl | rfl <;> rfl

/-- The document's framer while it takes a byte, and the variable for what it tells. -/
structure RB (w : World) (q : Nat) (v0 : Value) (W : World) (inn : Bool) (v : Value) (wt : Bool) (T : List Nat) : Prop where
  row : W.rowIs q 59 4 (rG inn v wt)
  own : W.ownsRow (q + 1) 5 1 v T.length (u8s T)
  byt : ∀ x ∈ T, x < 256
  res : W.rowIs w.heap.size 37 2 zG
  ch : Ch (FS q v0) w W
  ub : v.ownBlock = v0.ownBlock ∨ ∀ g, v.ownBlock = some g → w.heap.size ≤ g
  lt : q < w.heap.size

theorem RB.start {w : World} {q : Nat} {v : Value} {s : Nat} {T : List Nat} (h : RF w q v s T) : RB w q v (w.alloc (.cells #[.string ⟨#[]⟩, .bool false] 37)) (decide (s ≠ 1)) v (decide (s = 3)) T := by
  have hr : RF (w.alloc (.cells #[.string ⟨#[]⟩, .bool false] 37)) q v s T := h.of fun j hj _ => blk_alloc_lt _ _ _ hj
  refine ⟨hr.row, hr.own, hr.byt, World.rowIs_alloc w #[.string ⟨#[]⟩, .bool false] 37 zG ?_, Ch.of_below ((Below.refl _ _).alloc (Nat.le_refl _) _), .inl rfl, h.row.lt⟩
  intro i hi
  have hi' : i < 2 := hi
  rcases (show i = 0 ∨ i = 1 by omega) with rfl | rfl <;> rfl

section
variable {w : World} {q : Nat} {v0 : Value} {W : World} {inn : Bool} {v : Value} {wt : Bool} {T : List Nat}
theorem RB.cells (h : RB w q v0 W inn v wt T) : W.cell? ⟨q, 1, none⟩ = some (.bool inn) ∧ W.cell? ⟨q, 2, none⟩ = some v ∧ W.cell? ⟨q, 3, none⟩ = some (.bool wt) ∧ ∀ i, W.frozen? ⟨q, i, none⟩ = false :=
  ⟨h.row.cell (i := 1) (by omega), h.row.cell (i := 2) (by omega), h.row.cell (i := 3) (by omega), h.row.frozen⟩
theorem RB.rcells (h : RB w q v0 W inn v wt T) : W.cell? ⟨w.heap.size, 0, none⟩ = some (.string ⟨#[]⟩) ∧ W.cell? ⟨w.heap.size, 1, none⟩ = some (.bool false) ∧ ∀ i, W.frozen? ⟨w.heap.size, i, none⟩ = false :=
  ⟨h.res.cell (i := 0) (by omega), h.res.cell (i := 1) (by omega), h.res.frozen⟩
theorem RB.set1 (h : RB w q v0 W inn v wt T) (b : Bool) : RB w q v0 (W.setCell ⟨q, 1, none⟩ (.bool b)) b v wt T :=
  ⟨(h.row.set 1 _).congr (rG1 _ _ _ _), owns_of h.own (fun g hg => blk_setCell_other _ _ _ _ (by have := (h.own.lt g hg).1; simp; omega)), h.byt, h.res.setOther (by have := h.lt; simp; omega) _, h.ch.setCell _ _ (fun _ => .inl rfl), h.ub, h.lt⟩
theorem RB.set3 (h : RB w q v0 W inn v wt T) (b : Bool) : RB w q v0 (W.setCell ⟨q, 3, none⟩ (.bool b)) inn v b T :=
  ⟨(h.row.set 3 _).congr (rG3 _ _ _ _), owns_of h.own (fun g hg => blk_setCell_other _ _ _ _ (by have := (h.own.lt g hg).1; simp; omega)), h.byt, h.res.setOther (by have := h.lt; simp; omega) _, h.ch.setCell _ _ (fun _ => .inl rfl), h.ub, h.lt⟩
theorem RB.nil (h : RB w q v0 W inn v wt T) : RB w q v0 (W.setCell ⟨q, 2, none⟩ (.slice none 0 0)) inn (.slice none 0 0) wt [] :=
  ⟨(h.row.set 2 _).congr (rG2 _ _ _ _), World.ownsRow_nil _ _ _ _, by simp, h.res.setOther (by have := h.lt; simp; omega) _, h.ch.setCell _ _ (fun _ => .inl rfl), .inr (fun g hg => by cases hg), h.lt⟩
theorem RB.far (h : RB w q v0 W inn v wt T) : v.ownBlock ≠ some w.heap.size := by
  intro e
  rcases h.own.2 with ⟨rfl, _⟩ | ⟨g, cap, cur, rfl, _, hh, _⟩
  · cases e
  · have e1 : g = w.heap.size := Option.some.inj e
    obtain ⟨c, hc, _⟩ := h.res
    rw [← e1, hh] at hc
    cases hc
theorem RB.grown (h : RB w q v0 W inn v wt T) {o : Obj} {W2 : World} (hg : (W.alloc o).grownBy W2 v.ownBlock) : W2.rowIs q 59 4 (rG inn v wt) ∧ W2.rowIs w.heap.size 37 2 zG ∧ Ch (FS q v0) w W2 := by
  have hq := h.row.lt
  have hr := h.res.lt
  refine ⟨h.row.of_block ((hg.block q (by simp; omega) (fun e => by have := (h.own.lt q e.symm).1; omega)).trans (blk_alloc_lt _ _ _ hq)), h.res.of_block ((hg.block _ (by simp; omega) (fun e => h.far e.symm)).trans (blk_alloc_lt _ _ _ hr)), ?_⟩
  refine h.ch.trans (T := fun j => v.ownBlock = some j) (Ch.trans (Ch.of_below ((Below.refl _ _).alloc (Nat.le_refl _) _)) (Ch.of_grown hg (fun j hj _ => hj)) (fun j _ hj => hj)) ?_
  intro j hj hv
  rcases h.ub with e | e
  · exact .inr (by rw [← e]; exact hv)
  · have := e j hv; omega
theorem RB.push (h : RB w q v0 W inn v wt T) {o : Obj} {W2 : World} {g cp c : Nat} (hc : c < 256) (hg : (W.alloc o).grownBy W2 v.ownBlock) (ho : W2.ownsRow (q + 1) 5 1 (.slice (some ⟨g, 0, none⟩) (T.length + 1) cp) (T.length + 1) (u8s T ++ [.int .u8 (c : Int)])) (hat : v.ownBlock = some g ∨ g = W.heap.size + 1) :
    RB w q v0 (W2.setCell ⟨q, 2, none⟩ (.slice (some ⟨g, 0, none⟩) (T.length + 1) cp)) inn (.slice (some ⟨g, 0, none⟩) (T.length + 1) cp) wt (T ++ [c]) := by
  obtain ⟨h1, h2, h3⟩ := h.grown hg
  refine ⟨(h1.set 2 _).congr (rG2 _ _ _ _), ?_, ?_, h2.setOther (by have := h.lt; simp; omega) _, h3.setCell _ _ (fun _ => .inl rfl), ?_, h.lt⟩
  · rw [List.length_append, List.length_singleton, u8s_append]
    exact owns_of ho (fun g' hg' => blk_setCell_other _ _ _ _ (by have := (ho.lt g' hg').1; simp; omega))
  · intro x hx
    rcases List.mem_append.1 hx with hx | hx
    · exact h.byt x hx
    · simp at hx; omega
  · rcases hat with e | e
    · show some g = _ ∨ _
      rcases h.ub with e2 | e2
      · exact .inl (by rw [← e, e2])
      · exact .inr fun g' hg' => by have e3 : g = g' := Option.some.inj hg'; subst e3; exact e2 g e
    · exact .inr fun g' hg' => by have e3 : g = g' := Option.some.inj hg'; have := h.ch.size; omega
theorem RB.fin {s : Nat} (h : RB w q v0 W (decide (s ≠ 1)) v (decide (s = 3)) T) (x y : Value) : ∃ v, RF ((W.setCell ⟨w.heap.size, 0, none⟩ x).setCell ⟨w.heap.size, 1, none⟩ y) q v s T ∧ Ch (FS q v0) w ((W.setCell ⟨w.heap.size, 0, none⟩ x).setCell ⟨w.heap.size, 1, none⟩ y) ∧ (v.ownBlock = v0.ownBlock ∨ ∀ g, v.ownBlock = some g → w.heap.size ≤ g) := by
  refine ⟨v, ⟨?_, ?_, h.byt⟩, ?_, h.ub⟩
  · exact (h.row.setOther (by have := h.lt; simp; omega) _).setOther (by have := h.lt; simp; omega) _
  · refine owns_of h.own fun g hg => ?_
    have hne : g ≠ w.heap.size := fun e => h.far (by rw [hg, e])
    rw [blk_setCell_other _ _ _ _ (by simpa using hne), blk_setCell_other _ _ _ _ (by simpa using hne)]
  · exact (h.ch.setCell _ _ (fun e => by simp at e)).setCell _ _ (fun e => by simp at e)
end

/-- What holds behind byte. -/
def PB (w : World) (q : Nat) (v0 : Value) (s : RSt) (c : Nat) : Ending → World → Prop := fun e W => e = .returned (fOf (ot c (ab s))) ∧ ∃ v, RF W q v (rsp c s).1 (rsp c s).2 ∧ Ch (FS q v0) w W ∧ (v.ownBlock = v0.ownBlock ∨ ∀ g, v.ownBlock = some g → w.heap.size ≤ g)

set_option maxRecDepth 100000 in
set_option maxHeartbeats 2000000 in
theorem byte1n {w : World} {q : Nat} {v : Value} (h : RF w q v 1 []) (c : Nat) (h11 : c ≠ 11) :
    Calls Try.prog 25 #[.pointer (some ⟨q, 0, none⟩), .int .u8 (c : Int)] w (PB w q v (1, []) c) := by
  have e1 : ((c : Int) == 11) = false := by simp; omega
  have HB : Hid (RB w q v (w.alloc (.cells #[.string ⟨#[]⟩, .bool false] 37)) _ v _ []) := RB.start h
  have hne : w.heap.size ≠ q := by have := h.row.lt; omega
  have hne' : q ≠ w.heap.size := fun e => hne e.symm
  clear h
  go_enter Try.func25, Try.ntmps25
  go_upto_region 1 with fail
  generalize w.alloc (.cells #[.string ⟨#[]⟩, .bool false] 37) = W1 at *
  have HB : Hid (RB w q v W1 false v false []) := HB
  obtain ⟨c1, c2, c3, cf⟩ := HB.out.cells
  obtain ⟨r0, r1, rf⟩ := HB.out.rcells
  go_wp2
  refine bodyPost_ret (v := .tuple #[.agg #[.string ⟨#[]⟩, .bool false], .bool false]) (by simp [results, Try.results25, go_sem, *]) rfl ⟨by simp [ot, ab, fOf], ?_⟩
  have e2 : rsp c (1, []) = (1, []) := by simp [rsp, h11]
  rw [e2]
  exact RB.fin (s := 1) HB.out _ _

set_option maxRecDepth 100000 in
set_option maxHeartbeats 2000000 in
theorem byte2b {w : World} {q : Nat} {v : Value} {s : Nat} {T : List Nat} (h : RF w q v s T) (hs : s = 1 ∨ s = 2) :
    Calls Try.prog 25 #[.pointer (some ⟨q, 0, none⟩), .int .u8 11] w (PB w q v (s, T) 11) := by
  have HB : Hid (RB w q v (w.alloc (.cells #[.string ⟨#[]⟩, .bool false] 37)) _ v _ T) := RB.start h
  have hne : w.heap.size ≠ q := by have := h.row.lt; omega
  have hne' : q ≠ w.heap.size := fun e => hne e.symm
  clear h
  go_enter Try.func25, Try.ntmps25
  go_upto_region 1 with fail
  generalize w.alloc (.cells #[.string ⟨#[]⟩, .bool false] 37) = W1 at *
  have e2 : rsp 11 (s, T) = (2, []) := by rcases hs with rfl | rfl <;> rfl
  have e3 : ot 11 (ab (s, T)) = [] := by simp [ot]
  unfold PB
  rw [e2, e3]
  rcases hs with rfl | rfl
  · have HB : Hid (RB w q v W1 false v false T) := HB
    obtain ⟨c1, c2, c3, cf⟩ := HB.out.cells
    obtain ⟨r0, r1, rf⟩ := HB.out.rcells
    go_wp2
    refine bodyPost_ret (v := .tuple #[.agg #[.string ⟨#[]⟩, .bool false], .bool false]) (by simp [results, Try.results25, go_sem, *]) rfl ⟨rfl, RB.fin (s := 2) ((HB.out.set1 true).nil) _ _⟩
  · have HB : Hid (RB w q v W1 true v false T) := HB
    obtain ⟨c1, c2, c3, cf⟩ := HB.out.cells
    obtain ⟨r0, r1, rf⟩ := HB.out.rcells
    go_wp2
    refine bodyPost_ret (v := .tuple #[.agg #[.string ⟨#[]⟩, .bool false], .bool false]) (by simp [results, Try.results25, go_sem, *]) rfl ⟨rfl, RB.fin (s := 2) ((HB.out.set1 true).nil) _ _⟩

set_option maxRecDepth 100000 in
set_option maxHeartbeats 2000000 in
theorem byte2e {w : World} {q : Nat} {v : Value} {T : List Nat} (h : RF w q v 2 T) :
    Calls Try.prog 25 #[.pointer (some ⟨q, 0, none⟩), .int .u8 28] w (PB w q v (2, T) 28) := by
  have HB : Hid (RB w q v (w.alloc (.cells #[.string ⟨#[]⟩, .bool false] 37)) _ v _ T) := RB.start h
  have hne : w.heap.size ≠ q := by have := h.row.lt; omega
  have hne' : q ≠ w.heap.size := fun e => hne e.symm
  clear h
  go_enter Try.func25, Try.ntmps25
  go_upto_region 1 with fail
  generalize w.alloc (.cells #[.string ⟨#[]⟩, .bool false] 37) = W1 at *
  have e2 : rsp 28 (2, T) = (3, T) := rfl
  have e3 : ot 28 (ab (2, T)) = [] := by simp [ot, ab]
  unfold PB
  rw [e2, e3]
  have HB : Hid (RB w q v W1 true v false T) := HB
  obtain ⟨c1, c2, c3, cf⟩ := HB.out.cells
  obtain ⟨r0, r1, rf⟩ := HB.out.rcells
  go_wp2
  refine bodyPost_ret (v := .tuple #[.agg #[.string ⟨#[]⟩, .bool false], .bool false]) (by simp [results, Try.results25, go_sem, *]) rfl ⟨rfl, RB.fin (s := 3) (HB.out.set3 true) _ _⟩

set_option maxRecDepth 100000 in
set_option maxHeartbeats 2000000 in
theorem byte2k {w : World} {q : Nat} {v : Value} {T : List Nat} (h : RF w q v 2 T) (hT : T.length ≤ 16777216) (c : Nat) (hc : c < 256) (h11 : c ≠ 11) (h28 : c ≠ 28) :
    Calls Try.prog 25 #[.pointer (some ⟨q, 0, none⟩), .int .u8 (c : Int)] w (PB w q v (2, T) c) := by
  have e0 : ((c : Int) == 11) = false := by simp; omega
  have e1 : ((c : Int) == 28) = false := by simp; omega
  obtain ⟨ao, cap, rfl⟩ := own_slice h.own
  obtain ⟨i0, hi, hz0, hz1, hz2⟩ := info_parts info5s
  have HB : Hid (RB w q (.slice ao T.length cap) (w.alloc (.cells #[.string ⟨#[]⟩, .bool false] 37)) _ (.slice ao T.length cap) _ T) := RB.start h
  have hne : w.heap.size ≠ q := by have := h.row.lt; omega
  have hne' : q ≠ w.heap.size := fun e => hne e.symm
  clear h
  go_enter Try.func25, Try.ntmps25
  go_upto_region 1 with fail
  generalize w.alloc (.cells #[.string ⟨#[]⟩, .bool false] 37) = W1 at *
  have e2 : rsp c (2, T) = (2, T ++ [c]) := by simp [rsp, rlk, h11, h28]
  have e3 : ot c (ab (2, T)) = [] := by simp [ot, ab]
  unfold PB
  rw [e2, e3]
  have HB : Hid (RB w q (.slice ao T.length cap) W1 true (.slice ao T.length cap) false T) := HB
  obtain ⟨c1, c2, c3, cf⟩ := HB.out.cells
  obtain ⟨r0, r1, rf⟩ := HB.out.rcells
  have HQ : Hid (q < W1.heap.size) := HB.out.row.lt
  go_wp2_with (first | (at_builtin; refine wpList_append_lies _ rfl _ _ 22 rfl (q + 1) 5 i0 _ 1 1 Try.underlying22 hi hz0 hz1 hz2 rfl (by decide) (.slice ao T.length cap) T.length (u8s T) rfl (World.ownsRow.alloc HB.out.own _) ⟨W1.heap.size, 0, none⟩ 1 1 [.int .u8 (c : Int)] rfl rfl ?_ ?_ (by decide) ?_ ?_ ?_ (W1.heap.size + 1) (by simp) ?_) | fail)
  · exact cell_one_new _ _ _
  · intro u hu; simp at hu; subst hu; rfl
  · unfold maxLen; omega
  · omega
  · have := HQ.out; simp; omega
  · intro g cp W2 hown2 hgrow2 hat2 hlt2
    have HP : Hid (RB w q (.slice ao T.length cap) (W2.setCell ⟨q, 2, none⟩ (.slice (some ⟨g, 0, none⟩) (T.length + 1) cp)) true (.slice (some ⟨g, 0, none⟩) (T.length + 1) cp) false (T ++ [c])) := HB.out.push hc hgrow2 hown2 hat2
    obtain ⟨k1, k2, k3⟩ := HB.out.grown hgrow2
    have kf := k1.frozen
    have kc : W2.cell? ⟨q, 2, none⟩ = some (.slice ao T.length cap) := k1.cell (i := 2) (by omega)
    clear hown2 hgrow2 hat2 hlt2 k1 k2 k3 c1 c2 c3 cf r0 r1 rf
    go_upto_region 17 with fail
    generalize W2.setCell ⟨q, 2, none⟩ (.slice (some ⟨g, 0, none⟩) (T.length + 1) cp) = W3 at *
    obtain ⟨r0, r1, rf⟩ := HP.out.rcells
    go_wp2
    refine bodyPost_ret (v := .tuple #[.agg #[.string ⟨#[]⟩, .bool false], .bool false]) (by simp [results, Try.results25, go_sem, *]) rfl ⟨by rw [e3]; rfl, by rw [e2]; exact RB.fin (s := 2) HP.out _ _⟩
end Go.Proofs.Ytfjcmniicbppdaa
