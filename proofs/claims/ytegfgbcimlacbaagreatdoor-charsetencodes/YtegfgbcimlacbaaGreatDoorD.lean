
import Derived.Test.YtegfgbcimlacbaaGreatDoorC
import Derived.Deep.AppendLies
import Derived.Laws.OwnMore
import Derived.Deep.RegionLaw
/-
  DERIVED. A set's repertoires, as they lie in memory; one more.
-/
namespace Go.Proofs.YtegfgbcimlacbaaGreatDoor
open Go Go.Proofs Go.RowKit

/-- A repertoire: its number, its term, where its way back lies. -/
abbrev Row := Nat × ByteArray × Nat
def rowC (r : Row) : List Value := [.int .i64 (r.1 : Int), .string r.2.1, .string (sp (3 * r.1 + 2)), .func (.func (mfN r.1)) #[] #[], invF r.2.2]
def rowsC (R : List Row) : List Value := R.flatMap rowC

theorem rowC_len (r : Row) : (rowC r).length = 5 := rfl
theorem rowsC_len : ∀ R : List Row, (rowsC R).length = R.length * 5
  | [] => rfl
  | r :: R => by
    have := rowsC_len R
    unfold rowsC at *
    rw [List.flatMap_cons, List.length_append, this, rowC_len, List.length_cons]
    omega
theorem rowsC_get : ∀ (R : List Row) (k : Nat) (r : Row) (j : Nat), R[k]? = some r → j < 5 → (rowsC R)[k * 5 + j]? = (rowC r)[j]?
  | [], k, r, j, h, _ => by simp at h
  | a :: R, 0, r, j, h, hj => by
    simp at h
    subst h
    unfold rowsC
    rw [List.flatMap_cons, Nat.zero_mul, Nat.zero_add, List.getElem?_append_left (by rw [rowC_len]; exact hj)]
  | a :: R, k + 1, r, j, h, hj => by
    have ih := rowsC_get R k r j (by simpa using h) hj
    unfold rowsC at *
    rw [List.flatMap_cons, List.getElem?_append_right (by rw [rowC_len]; omega), rowC_len, show (k + 1) * 5 + j - 5 = k * 5 + j by omega]
    exact ih
theorem rowsC_snoc (R : List Row) (r : Row) : rowsC (R ++ [r]) = rowsC R ++ rowC r := by
  unfold rowsC
  rw [List.flatMap_append]
  simp

/-- A set, as it lies in memory. -/
structure SetAt (w : World) (q : Nat) (v : Value) (R : List Row) (x : Bool) : Prop where
  c0 : w.cell? ⟨q, 0, none⟩ = some v
  c1 : w.cell? ⟨q, 1, none⟩ = some (.bool x)
  cf : ∀ i, w.frozen? ⟨q, i, none⟩ = false
  own : w.ownsRow (q + 1) 82 5 v R.length (rowsC R)
  fresh : ∀ r ∈ R, Fresh w r.2.2 (mfN r.1) ∧ q < r.2.2

theorem ownsRow_below {w w' : World} {A base : Nat} {e : TypeId} {size : Nat} {v : Value} {n : Nat} {xs : List Value} (h : w.ownsRow base e size v n xs) (hb : Below A w w') (hA : w.heap.size ≤ A) : w'.ownsRow base e size v n xs := by
  refine ⟨h.1, ?_⟩
  rcases h.2 with h2 | ⟨g, cap, cur, hv, hg, hh, r⟩
  · exact .inl h2
  · have hlt : g < w.heap.size := (Array.getElem?_eq_some_iff.1 hh).1
    exact .inr ⟨g, cap, cur, hv, hg, (hb.block g (by omega)).trans hh, r⟩

theorem SetAt.lt {w : World} {q : Nat} {v : Value} {R : List Row} {x : Bool} (h : SetAt w q v R x) : q < w.heap.size := cell_lt h.c0
theorem SetAt.on {w w' : World} {q : Nat} {v : Value} {R : List Row} {x : Bool} (h : SetAt w q v R x) (hb : Below w.heap.size w w') : SetAt w' q v R x :=
  ⟨(hb.cell (p := ⟨q, 0, none⟩) h.lt).trans h.c0, (hb.cell (p := ⟨q, 1, none⟩) h.lt).trans h.c1, fun i => (hb.frozen (p := ⟨q, i, none⟩) h.lt).trans (h.cf i), ownsRow_below h.own hb (Nat.le_refl _), fun r hr => ⟨(h.fresh r hr).1.on hb, (h.fresh r hr).2⟩⟩

theorem SetAt.val {w : World} {q : Nat} {v : Value} {R : List Row} {x : Bool} (h : SetAt w q v R x) : ∃ a cap, v = .slice a R.length cap := by
  rcases h.own.2 with ⟨rfl, h0⟩ | ⟨g, cap, cur, hv, _⟩
  · exact ⟨none, 0, by rw [h0]⟩
  · exact ⟨_, _, hv⟩
theorem SetAt.row {w : World} {q : Nat} {a : Option Addr} {n cap : Nat} {R : List Row} {x : Bool} (h : SetAt w q (.slice a n cap) R x) (k : Nat) (r : Row) (hr : R[k]? = some r) :
    ∃ g, a = some ⟨g, 0, none⟩ ∧ n = R.length ∧ w.cell? ⟨g, k * 5, none⟩ = some (.int .i64 (r.1 : Int)) ∧ w.cell? ⟨g, k * 5 + 1, none⟩ = some (.string r.2.1) ∧ w.cell? ⟨g, k * 5 + 2, none⟩ = some (.string (sp (3 * r.1 + 2))) ∧ w.cell? ⟨g, k * 5 + 3, none⟩ = some (.func (.func (mfN r.1)) #[] #[]) ∧ w.cell? ⟨g, k * 5 + 4, none⟩ = some (invF r.2.2) := by
  have hk : k < R.length := (List.getElem?_eq_some_iff.1 hr).1
  have hn : n ≤ n := Nat.le_refl _
  rcases h.own.2 with ⟨_, h0⟩ | ⟨g, cap', cur, hv, _⟩
  · omega
  · simp only [Value.slice.injEq] at hv
    obtain ⟨rfl, rfl, rfl⟩ := hv
    have hc : ∀ j, j < 5 → w.cell? ⟨g, k * 5 + j, none⟩ = (rowC r)[j]? := fun j hj => by
      rw [h.own.cellAt (k * 5 + j) (by omega)]
      exact rowsC_get R k r j hr hj
    exact ⟨g, rfl, rfl, hc 0 (by decide), hc 1 (by decide), hc 2 (by decide), hc 3 (by decide), hc 4 (by decide)⟩

set_option maxRecDepth 100000 in
theorem has_any (w : World) (q : Nat) (v : Value) (R : List Row) (x : Bool) (m : Nat) (hR : R.length ≤ 6) (h : SetAt w q v R x) :
    Calls Tryz.prog 43 #[.pointer (some ⟨q, 0, none⟩), .int .i64 (m : Int)] w fun e w' => e = .returned (.bool (R.any fun r => r.1 == m)) ∧ Below w.heap.size w w' := by
  obtain ⟨a, cap, rfl⟩ := h.val
  have HS : Hid (SetAt w q (.slice a R.length cap) R x) := h
  have h0 := h.c0
  obtain ⟨n, hn⟩ : ∃ n, R.length = n := ⟨_, rfl⟩
  have HN : Hid (R.length = n) := hn
  rw [hn] at h0 hR
  obtain ⟨A, hA⟩ : ∃ A, (R.any fun r => r.1 == m) = A := ⟨_, rfl⟩
  have HA : Hid ((R.any fun r => r.1 == m) = A) := hA
  rw [hA]
  clear h hn hA
  go_enter Tryz.func43, Tryz.ntmps43
  go_wp2
  go_loopw [12] (fun y wr => ∃ k : Nat, y = .int .i64 (k : Int) ∧ k ≤ n ∧ Hid (∀ r ∈ R.take k, (r.1 == m) = false) ∧ Hid (Below w.heap.size w wr)) (fun y _ => n - (intOf y).toNat)
  case atStart => exact ⟨0, rfl, by omega, by intro r hr; simp at hr, Below.refl _ _⟩
  case round =>
    obtain ⟨k, rfl, hk, HK, HBr⟩ := hrel
    by_cases hkn : k < n
    · have hkR : k < R.length := by rw [HN.out]; exact hkn
      obtain ⟨r, hr⟩ : ∃ r, R[k]? = some r := ⟨R[k], List.getElem?_eq_getElem hkR⟩
      have hSr := HS.out.on HBr.out
      obtain ⟨g, rfl, hng, r0, r1, r2, r3, r4⟩ := hSr.row k r hr
      have HRk : Hid (R[k]? = some r) := hr
      have HT : Hid (R.take (k + 1) = R.take k ++ [r]) := by show _ = _; rw [List.take_add_one, hr]; rfl
      clear hr hSr hng
      obtain ⟨rn, rs, rB⟩ := r
      simp only at r0 r1 r2 r3 r4
      unfold invF at r4
      generalize sp (3 * rn + 2) = E at r2
      generalize mfN rn = jj at r3
      generalize caps rB = P at r4
      have HB1 : Hid (Below w.heap.size w (wr.alloc (.cells #[.int .i64 (rn : Int), .string rs, .string E, .func (.func jj) #[] #[], .func (.func 75) #[] P] 82))) := HBr.out.alloc HBr.out.size _
      have hki : (k : Int) < (n : Int) := by omega
      by_cases hm : rn = m
      · have HE : Hid (R.any (fun r => r.1 == m) = true) := by
          show _ = _
          rw [List.any_eq_true]
          exact ⟨_, List.mem_of_getElem? HRk.out, by simp [hm]⟩
        have hA : A = true := HA.out.symm.trans HE.out
        subst hA
        have hbe : ((rn : Int) == (m : Int)) = true := by rw [hm]; simp
        clear hm HE HA
        go_wp2
        go_ret
        exact ⟨rfl, HB1⟩
      · have HM : Hid (∀ r ∈ R.take (k + 1), (r.1 == m) = false) := by
          intro r hr
          rw [HT.out, List.mem_append] at hr
          rcases hr with hr | hr
          · exact HK.out r hr
          · simp at hr; subst hr; simp [hm]
        have hbe : ((rn : Int) == (m : Int)) = false := by simp; omega
        clear hm
        go_wp2
        exact ⟨⟨k + 1, by simp, by omega, HM, HB1⟩, by simp [intOf]; omega⟩
    · obtain rfl : k = n := by omega
      have HE : Hid (R.any (fun r => r.1 == m) = false) := by
        show _ = _
        rw [List.any_eq_false]
        intro r hr
        have := HK.out r (by rw [← HN.out, List.take_length]; exact hr)
        simpa using this
      have hA : A = false := HA.out.symm.trans HE.out
      subst hA
      go_wp2
      go_ret
      exact ⟨rfl, HBr⟩

theorem repInfo : (Tryz.prog.info? 82).map (fun i => (i.zero, i.size, i.bytes)) = some (some (.agg #[.int .i64 0, .string ⟨#[]⟩, .string ⟨#[]⟩, .nilFunc, .nilFunc]), 5, 56) := by kernel_rfl

/-- What a term makes of a set: a number that refuses it, or one repertoire more. -/
def addS (t : ByteArray) (cnt : Nat) (R : List Row) : Nat × Option (Nat × Bool) :=
  match nmd t 7 0 with
  | none => (80, none)
  | some (k, x) => if !x && decide (1 < cnt) then (83, none) else if R.any (fun r => r.1 == k) then (82, none) else (0, some (k, x))

theorem nmd_lt : ∀ (n k : Nat) (s : ByteArray) (m : Nat) (x : Bool), nmd s n k = some (m, x) → m < n + k
  | 0, _, _, _, _, h => by simp [nmd] at h
  | n + 1, k, s, m, x, h => by
    rw [nmd] at h
    split at h
    · simp at h; omega
    · split at h
      · simp at h; omega
      · have := nmd_lt n (k + 1) s m x h; omega

theorem own_type {w : World} {base : Nat} {e : TypeId} {size : Nat} {v : Value} {n : Nat} {xs : List Value} (h : w.ownsRow base e size v n xs) (g : Nat) (hg : v.ownBlock = some g) : ∃ cur, w.heap[g]? = some (.cells cur e (0, 0)) := by
  rcases h.2 with ⟨rfl, _⟩ | ⟨g', cap, cur, rfl, _, hh, _⟩
  · simp [Value.ownBlock] at hg
  · simp [Value.ownBlock] at hg
    subst hg
    exact ⟨cur, hh⟩
theorem Fresh.grown {w w' : World} {B j : Nat} {row : Option Nat} (h : Fresh w B j) (hg : w.grownBy w' row) (hrow : ∀ g, row = some g → ∃ cur, w.heap[g]? = some (.cells cur 82 (0, 0))) : Fresh w' B j := by
  have hl := h.lt
  refine ⟨(hg.block _ (by omega) ?_).trans h.b0, (hg.block _ (by omega) ?_).trans h.b1, (hg.block _ (by omega) ?_).trans h.b2, (hg.block _ (by omega) ?_).trans h.b3⟩
  · intro e; obtain ⟨cur, hh⟩ := hrow _ e.symm; rw [h.b0] at hh; simp at hh
  · intro e; obtain ⟨cur, hh⟩ := hrow _ e.symm; rw [h.b1] at hh; simp at hh
  · intro e; obtain ⟨cur, hh⟩ := hrow _ e.symm; rw [h.b2] at hh; simp at hh
  · intro e; obtain ⟨cur, hh⟩ := hrow _ e.symm; rw [h.b3] at hh; simp at hh
theorem own_set {w : World} {base : Nat} {e : TypeId} {size : Nat} {v : Value} {n : Nat} {xs : List Value} (h : w.ownsRow base e size v n xs) {b i : Nat} (x : Value) (hb : b < base) : (w.setCell ⟨b, i, none⟩ x).ownsRow base e size v n xs := by
  refine ⟨h.1, ?_⟩
  rcases h.2 with h2 | ⟨g, cap, cur, hv, hg, hh, r⟩
  · exact .inl h2
  · exact .inr ⟨g, cap, cur, hv, hg, (heap_set_off (by simp; omega)).trans hh, r⟩
theorem below_undrew {A : Nat} {w w' : World} (h : Below A w.drew w') : Below A w w' := ⟨h.os, h.tape, h.output, h.size, h.block⟩
theorem Fresh.drew {w : World} {B j : Nat} (h : Fresh w B j) : Fresh w.drew B j := ⟨h.b0, h.b1, h.b2, h.b3⟩

theorem SetAt.own_n {w : World} {q : Nat} {v : Value} {R : List Row} {x : Bool} (h : SetAt w q v R x) {n : Nat} (hn : R.length = n) (o : Obj) : (w.alloc o).ownsRow (q + 1) 82 5 v n (rowsC R) := by
  subst hn
  exact h.own.alloc o
theorem SetAt.base {w : World} {q : Nat} {v : Value} {R : List Row} {x : Bool} (h : SetAt w q v R x) (o : Obj) : q + 1 ≤ (w.alloc o).heap.size := by
  have := h.lt
  simp
  omega
theorem rowC_one (r : Row) : ∀ u ∈ rowC r, u.oneCell' = true := by
  intro u hu
  unfold rowC invF at hu
  simp only [List.mem_cons, List.not_mem_nil, or_false] at hu
  rcases hu with rfl | rfl | rfl | rfl | rfl <;> rfl
/-- What a set's append leaves as it was. -/
theorem SetAt.past {w w' : World} {q : Nat} {v : Value} {R : List Row} {x : Bool} {o : Obj} (h : SetAt w q v R x) (hg : (w.alloc o).grownBy w' v.ownBlock) :
    w'.cell? ⟨q, 0, none⟩ = some v ∧ w'.cell? ⟨q, 1, none⟩ = some (.bool x) ∧ (∀ i, w'.frozen? ⟨q, i, none⟩ = false) ∧ (∀ r ∈ R, Fresh w' r.2.2 (mfN r.1) ∧ q < r.2.2) ∧ Below (q + 1) w w' := by
  have hba : Below w.heap.size w (w.alloc o) := (Below.refl _ _).alloc (Nat.le_refl _) _
  have ha := h.on hba
  have hne : ∀ k, k < q + 1 → some k ≠ v.ownBlock := fun k hk e => by
    have := (h.own.lt k e.symm).1
    omega
  have hl := ha.lt
  refine ⟨(hg.cell_far ⟨q, 0, none⟩ hl (hne q (by omega))).trans ha.c0, (hg.cell_far ⟨q, 1, none⟩ hl (hne q (by omega))).trans ha.c1, fun i => (hg.frozen_far ⟨q, i, none⟩ hl (hne q (by omega))).trans (ha.cf i), fun r hr => ⟨(ha.fresh r hr).1.grown hg (fun g e => own_type ha.own g e), (ha.fresh r hr).2⟩, ?_⟩
  have hlw := h.lt
  exact ⟨hg.os.trans hba.os, hg.tape.trans hba.tape, hg.output.trans hba.output, Nat.le_trans hba.size hg.size, fun k hk => (hg.block k (by simp; omega) (hne k hk)).trans (hba.block k (by omega))⟩

theorem SetAt.more {w w' : World} {q n : Nat} {v v' : Value} {R : List Row} {x y : Bool} {o : Obj} {r : Row} (h : SetAt w q v R x) (hn : R.length = n) (hfr : Fresh w r.2.2 (mfN r.1)) (hq : q < r.2.2) (hg : (w.alloc o).grownBy w' v.ownBlock)
    (hown : w'.ownsRow (q + 1) 82 5 v' (n + 1) (rowsC R ++ rowC r)) : SetAt ((w'.setCell ⟨q, 0, none⟩ v').setCell ⟨q, 1, none⟩ (.bool y)) q v' (R ++ [r]) y ∧ Below q w ((w'.setCell ⟨q, 0, none⟩ v').setCell ⟨q, 1, none⟩ (.bool y)) := by
  obtain ⟨f0, f1, ff, f2, hb⟩ := h.past hg
  have hba : Below w.heap.size w (w.alloc o) := (Below.refl _ _).alloc (Nat.le_refl _) _
  have hfr' : Fresh w' r.2.2 (mfN r.1) := (hfr.on hba).grown hg (fun g e => own_type (h.on hba).own g e)
  refine ⟨⟨(cell_set_ne (by decide)).trans (cell_set_eq f0), cell_set_eq ((cell_set_ne (by decide)).trans f1), fun i => ?_, ?_, ?_⟩, ((hb.mono (show q ≤ q + 1 by omega)).setCell (p := ⟨q, 0, none⟩) (Nat.le_refl _) _).setCell (p := ⟨q, 1, none⟩) (Nat.le_refl _) _⟩
  · rw [World.frozen?_setCell, World.frozen?_setCell]; exact ff i
  · rw [List.length_append, List.length_singleton, hn, rowsC_snoc]
    exact own_set (own_set hown _ (by omega)) _ (by omega)
  · intro s hs
    rw [List.mem_append, List.mem_singleton] at hs
    rcases hs with hs | rfl
    · exact ⟨((f2 s hs).1.off _ (f2 s hs).2).off _ (f2 s hs).2, (f2 s hs).2⟩
    · exact ⟨(hfr'.off _ hq).off _ hq, hq⟩

set_option maxRecDepth 100000 in
set_option maxHeartbeats 2000000 in
theorem add_any (w : World) (q : Nat) (v : Value) (R : List Row) (x : Bool) (t : ByteArray) (cnt : Nat) (hR : R.length ≤ 6) (h : SetAt w q v R x) (hS : Spell w) (hq : 1 < q) :
    Calls Tryz.prog 28 #[.pointer (some ⟨q, 0, none⟩), .string t, .int .i64 (cnt : Int)] w fun e w' => e = .returned (.int .i64 ((addS t cnt R).1 : Int)) ∧ Below q w w' ∧
      match (addS t cnt R).2 with
      | none => True
      | some (k, y) => ∃ v' B, SetAt w' q v' (R ++ [(k, t, B)]) y := by
  have c46 := named_any w t hS
  unfold addS
  cases hN : nmd t 7 0 with
  | none =>
    rw [hN] at c46
    unfold trip at c46
    simp only
    clear hN
    go_enter Tryz.func28, Tryz.ntmps28
    go_wp2_with (first | (go_at_call 42; refine c46.mono ?_; rintro e W1 ⟨rfl, hb1⟩) | fail)
    go_ret
    exact ⟨rfl, hb1.mono (Nat.le_of_lt h.lt), trivial⟩
  | some kx =>
    obtain ⟨k, y⟩ := kx
    have hk7 : k < 7 := nmd_lt 7 0 t k y hN
    rw [hN] at c46
    unfold trip at c46
    simp only
    clear hN
    by_cases hal : (!y && decide (1 < cnt)) = true
    · rw [if_pos hal]
      simp only [Bool.and_eq_true, Bool.not_eq_true', decide_eq_true_eq] at hal
      obtain ⟨rfl, hc⟩ := hal
      have hci : (1 : Int) < (cnt : Int) := by omega
      go_enter Tryz.func28, Tryz.ntmps28
      go_wp2_with (first | (go_at_call 42; refine c46.mono ?_; rintro e W1 ⟨rfl, hb1⟩) | fail)
      go_ret
      exact ⟨rfl, hb1.mono (Nat.le_of_lt h.lt), trivial⟩
    · rw [if_neg hal]
      have hal2 : y = true ∨ (y = false ∧ (cnt : Int) ≤ 1) := by
        cases y with
        | true => exact .inl rfl
        | false => simp at hal; exact .inr ⟨rfl, by omega⟩
      have c47 := fun W (hb : Below w.heap.size w W) => has_any W q v R x k hR (h.on hb)
      clear hal
      by_cases hA : (R.any fun r => r.1 == k) = true
      · rw [if_pos hA]
        rw [hA] at c47
        rcases hal2 with rfl | ⟨rfl, hc⟩
        all_goals go_enter Tryz.func28, Tryz.ntmps28
        all_goals go_wp2_with (first | (go_at_call 42; refine c46.mono ?_; rintro e W1 ⟨rfl, hb1⟩) | (go_at_call 43; refine (c47 _ hb1).mono ?_; rintro e W2 ⟨rfl, hb2⟩))
        all_goals go_ret
        all_goals exact ⟨rfl, (hb1.trans (hb2.mono hb1.size)).mono (Nat.le_of_lt h.lt), trivial⟩
      · rw [if_neg hA]
        rw [Bool.not_eq_true] at hA
        rw [hA] at c47
        obtain ⟨i0, hi, hz0, hz1, hz2⟩ := info_parts repInfo
        have c48 := fun W (hb : Below w.heap.size w W) => rep_any W k hk7 t (hS.on hb)
        have HSet : Hid (SetAt w q v R x) := h
        have HQ : Hid (1 < q) := hq
        have HR6 : Hid (R.length ≤ 6) := hR
        obtain ⟨va, vc, rfl⟩ := h.val
        obtain ⟨n, hn⟩ : ∃ n, R.length = n := ⟨_, rfl⟩
        have HN : Hid (R.length = n) := hn
        have hql : q < w.heap.size := h.lt
        rw [hn] at HSet HR6
        clear hA h hS hq hR hn
        have HC47 : Hid _ := c47
        have HC48 : Hid _ := c48
        have H63 : n + 1 ≤ maxLen := by have := HR6.out; unfold maxLen; omega
        have HBY : (n + 1) * 56 ≤ 140737488355328 := by have := HR6.out; omega
        clear c48
        rcases hal2 with rfl | ⟨rfl, hc⟩
        all_goals go_enter Tryz.func28, Tryz.ntmps28
        all_goals go_wp2_with (first | (go_at_call 42; refine c46.mono ?_; rintro e W1 ⟨rfl, hb1⟩) | (go_at_call 43; refine (c47 _ hb1).mono ?_; rintro e W2 ⟨rfl, hb2⟩))
        all_goals (
          have HB2 : Hid (Below w.heap.size w W2) := hb1.trans (hb2.mono hb1.size)
          have hs2 := HSet.out.on HB2.out
          have hq2 : q < W2.heap.size := hs2.lt
          have d0 := hs2.c0
          have HS2 : Hid (SetAt W2 q (.slice va n vc) R x) := hs2
          clear c46 c47 hb1 hb2 hs2
          go_region_law (first | (go_simp; go_at_call 44; refine (HC48.out W2.drew HB2.out.drew).mono ?_; rintro e W3 ⟨B, rfl, hb3d, hfr, hB⟩; have hb3 : Below W2.heap.size W2 W3 := below_undrew hb3d; have e0 := (hb3.cell (p := ⟨q, 0, none⟩) hq2).trans d0; have e1 : ∀ o, (W3.alloc o).cell? ⟨q, 0, none⟩ = some (.slice va n vc) := fun o => cell_alloc e0; have HS3 : Hid (SetAt W3 q (.slice va n vc) R x) := HS2.out.on hb3) | (go_loud (refine step_append_lies _ rfl (.tmp 34) (.tmp 38) 70 rfl (q + 1) 82 i0 _ 5 56 Tryz.underlying70 hi hz0 hz1 hz2 rfl (by decide) (.slice va n vc) n (rowsC R) (by simp [Act.eval]) (HS3.out.own_n HN.out _) ⟨W3.heap.size, 0, none⟩ 1 1 (rowC (k, t, B)) (by simp [Act.eval]) rfl (World.news_of_block (heap_alloc_new W3 _)) (rowC_one _) (by decide) H63 HBY (HS3.out.base _) _ rfl ?_; intro g cap W4 hown4 hgrow4 hat4 hlt4; have hpast := HS3.out.past hgrow4; obtain ⟨f0, f1, ff, HFR4, HB4⟩ := hpast)))
          all_goals go_wp2
          all_goals go_ret
          all_goals (
            have hqB : q < B := Nat.lt_trans hq2 hB
            have hm := fun z => HS3.out.more (r := (k, t, B)) (y := z) HN.out hfr hqB hgrow4 hown4
            exact ⟨rfl, ((HB2.out.trans (hb3.mono HB2.out.size)).mono (Nat.le_of_lt hql)).trans (hm _).2, _, B, (hm _).1⟩))
end Go.Proofs.YtegfgbcimlacbaaGreatDoor
