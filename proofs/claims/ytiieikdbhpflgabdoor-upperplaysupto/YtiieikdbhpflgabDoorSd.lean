import Derived.Test.YtiieikdbhpflgabDoorSc
/-
  DERIVED. The law's comparisons: what is done.
-/
namespace Go.Proofs.YtiieikdbhpflgabDoor
open Go Go.Proofs Go.RowKit

theorem SameC.symm {a b : Fin 18 → Value} (h : SameC a b) : SameC b a := fun i h4 h12 h13 h17 => (h i h4 h12 h13 h17).symm
/-- These acts can be read there. -/
def Acts (W : World) (v : Value) (L : List AcD) : Prop :=
  ∃ ao cap, v = .slice ao L.length cap ∧ (L.length = 0 → ao = none) ∧ (0 < L.length → ∃ b off, ao = some ⟨b, off, none⟩ ∧ ∀ i (h : i < L.length), ∃ c', (∀ j u, (Ac L[i].x L[i].y L[i].k c').toList[j]? = some u → W.cell? ⟨b, off + i * 21 + j, none⟩ = some u) ∧ RX W c' L[i].D ∧ SameC L[i].c c')
theorem Acts.on {W W' : World} {v : Value} {L : List AcD} (h : Acts W v L) (hb : Below W.heap.size W W') : Acts W' v L := by
  obtain ⟨ao, cap, h1, h2, h3⟩ := h
  refine ⟨ao, cap, h1, h2, fun hn => ?_⟩
  obtain ⟨b, off, h4, h5⟩ := h3 hn
  refine ⟨b, off, h4, fun i hi => ?_⟩
  obtain ⟨c', a1, a2, a3⟩ := h5 i hi
  exact ⟨c', fun j u hu => (hb.cell (cell_lt (a1 j u hu))).trans (a1 j u hu), a2.on hb, a3⟩
theorem AX.acts {B : Nat} {W : World} {v : Value} {L : List AcD} (h : AX B W v L) : Acts W v L := by
  rcases h with ⟨rfl, rfl⟩ | ⟨h0, g, cap, Q, h1, h2, h3, h4, h5⟩
  · exact ⟨none, 0, rfl, fun _ => rfl, fun h => absurd h (by simp)⟩
  · refine ⟨_, cap, h1, fun h => absurd (List.length_eq_zero_iff.1 h) h0, fun _ => ⟨g, 0, rfl, fun i hi => ?_⟩⟩
    obtain ⟨c', a1, a2, a3⟩ := h5 i hi
    refine ⟨c', fun j u hu => ?_, a2.rx, a3⟩
    rw [Nat.zero_add, cell_of_row _ _ _ _ _ _ h4]
    exact a1 j u hu
theorem AR.acts {B : Nat} {W : World} {v : Value} : ∀ {L : List AcD}, AR B W v L → (∀ b ∈ L.drop 1, b.k = 0 ∧ b.c = zc ∧ b.D = D0) → Acts W v L
  | [], h, _ => ⟨none, 0, h, fun _ => rfl, fun h => absurd h (by simp)⟩
  | [a], ⟨g, c', h1, _, h3, h4, h5, _⟩, _ => ⟨_, 1, h1, fun h => absurd h (by simp), fun _ => ⟨g, 0, rfl, fun i hi => by
      obtain rfl : i = 0 := by simpa using hi
      refine ⟨c', fun j u hu => ?_, h4.rx, h5⟩
      simp only [Nat.zero_add, Nat.zero_mul]
      rw [cell_of_row _ _ _ _ _ _ h3]
      simpa using hu⟩⟩
  | [a, b], ⟨g, c', h1, _, h3, h4, h5⟩, hz => ⟨_, 2, h1, fun h => absurd h (by simp), fun _ => ⟨g, 0, rfl, fun i hi => by
      obtain ⟨z1, z2, z3⟩ := hz b (by simp)
      have hl := ac_len a.x a.y a.k c'
      match i, hi with
      | 0, _ =>
        refine ⟨c', fun j u hu => ?_, h4.rx, h5⟩
        have hu' : (Ac a.x a.y a.k c')[j]? = some u := by simpa using hu
        simp only [Nat.zero_add, Nat.zero_mul]
        rw [cell_of_row _ _ _ _ _ _ h3, Array.getElem?_append_left (Array.getElem?_eq_some_iff.1 hu').1]
        exact hu'
      | 1, _ =>
        refine ⟨zc, fun j u hu => ?_, ?_, ?_⟩
        · have hu' : (Ac b.x b.y b.k zc)[j]? = some u := by simpa using hu
          rw [z1] at hu'
          rw [Nat.zero_add, Nat.one_mul, cell_of_row _ _ _ _ _ _ h3, Array.getElem?_append_right (by omega), hl, show 21 + j - 21 = j by omega]
          exact hu'
        · show RX W zc b.D
          rw [z3]; exact rx_zero W
        · show SameC b.c zc
          rw [z2]; exact .refl _
      | n + 2, h => exact absurd h (by simp)⟩⟩
  | _ :: _ :: _ :: _, h, _ => h.elim
theorem LSim.len {l m : List AcD} (h : LSim l m) : m.length = l.length := by
  induction h with
  | nil => rfl
  | cons _ _ ih => simp [ih]
theorem LSim.get {l m : List AcD} (h : LSim l m) : ∀ i (h1 : i < l.length) (h2 : i < m.length), ASim l[i] m[i] := by
  induction h with
  | nil => intro i h1; exact absurd h1 (by simp)
  | cons h0 _ ih =>
    intro i h1 h2
    cases i with
    | zero => exact h0
    | succ i => exact ih i (by simpa using h1) (by simpa using h2)
theorem ac_0 (x y k : Int) (c : Fin 18 → Value) : (Ac x y k c).toList[0]? = some (.int .i64 x) := by simp [Ac]
theorem ac_1 (x y k : Int) (c : Fin 18 → Value) : (Ac x y k c).toList[1]? = some (.int .i64 y) := by simp [Ac]
theorem ac_pd (x y k : Int) (c : Fin 18 → Value) : ∀ j v, (Pd k c).toList[j]? = some v → (Ac x y k c).toList[2 + j]? = some v := by
  intro j v hv
  have : (Ac x y k c).toList = [.int .i64 x, .int .i64 y] ++ (Pd k c).toList := by simp [Ac]
  rw [this, List.getElem?_append_right (by simp)]
  simpa using hv
set_option maxRecDepth 100000 in
set_option maxHeartbeats 4000000 in
theorem acts_same (W : World) (a b : Value) (L M : List AcD) (hs : LSim M L) (hn : L.length ≤ 140737488351232) (ht : ∀ x ∈ L, TyC x.c) (ha : Acts W a L) (hb : Acts W b M) :
    Calls Tryd.prog 10 #[a, b] W fun e w' => e = .returned (.bool true) ∧ Below W.heap.size W w' := by
  obtain ⟨aa, ca, rfl, za, h3⟩ := ha
  obtain ⟨ab, cb, rfl, zb, h4⟩ := hb
  have hlen := hs.len
  obtain ⟨n, hn'⟩ : ∃ n, L.length = n := ⟨_, rfl⟩
  have hM : M.length = n := by rw [← hlen]; exact hn'
  have hget : ∀ i (h1 : i < M.length) (h2 : i < L.length), ASim M[i] L[i] := hs.get
  have HA : Hid _ := h3
  have HB : Hid _ := h4
  have HG : Hid _ := hget
  have HT : Hid _ := ht
  rw [hn'] at hn za ⊢
  rw [hM] at zb ⊢
  have HN : Hid (L.length = n ∧ M.length = n) := ⟨hn', hM⟩
  clear h3 h4 hget ht hlen hs
  have hnil : (n : Int) = 0 → aa = none := fun h => za (by omega)
  clear za zb hn' hM
  go_enter Tryd.func10, Tryd.ntmps10
  by_cases h0 : n = 0
  · obtain rfl : aa = none := hnil (by omega)
    subst h0
    clear HA HB HG HT HN hnil
    go_wp2
    go_loopg [5] 0 (fun g s5 wx => s5 = .int .i64 0 ∧ wx = W)
    case atStart => exact ⟨rfl, rfl⟩
    case round => as_aux_lemma =>
      obtain ⟨rfl, rfl⟩ := hrel
      go_wp2
      go_ret
      exact ⟨rfl, .refl _ _⟩
  have hnp : 0 < n := by omega
  have h0' : ((n : Int) == 0) = false := by simp; omega
  obtain ⟨ba, oa, haa, ka0⟩ := HA.out (by have := HN.out; omega)
  obtain ⟨bb, ob, hab, kb0⟩ := HB.out (by have := HN.out; omega)
  subst haa hab
  clear HA HB hnil
  have KA : Hid _ := ka0
  have KB : Hid _ := kb0
  clear ka0 kb0
  go_wp2
  clear h0' hnp h0
  go_loopg [5] n (fun g s5 wx => ∃ i : Nat, s5 = .int .i64 (i : Int) ∧ g + i = n ∧ Hid (Below W.heap.size W wx))
  case atStart => exact ⟨0, rfl, by omega, Hid.mk' (.refl _ _)⟩
  case round => as_aux_lemma =>
    obtain ⟨i, rfl, hgi, HW⟩ := hrel
    by_cases hin : i < n
    · have hI : (i : Int) < (n : Int) := by omega
      have hi1 : i < L.length := by rw [HN.out.1]; exact hin
      have hi2 : i < M.length := by rw [HN.out.2]; exact hin
      obtain ⟨cA, ka, ra, sa⟩ := KA.out i hi1
      obtain ⟨cB, kb, rb, sb⟩ := KB.out i hi2
      obtain ⟨e1, e2, e3, e4, e5⟩ := HG.out i hi2 hi1
      have hty := (HT.out _ (List.getElem_mem hi1)).same sa
      rw [← e1, ← e2, ← e3] at kb
      rw [← e4] at rb
      have hsm : SameC cA cB := (sa.symm).trans (e5.symm.trans sb)
      generalize L[i].x = x at ka kb
      generalize L[i].y = y at ka kb
      generalize L[i].k = k at ka kb
      generalize L[i].D = D at ra rb
      clear e1 e2 e3 e4 e5 sa sb hi1 hi2
      have a0 := ka 0 _ (ac_0 _ _ _ _)
      have a1 := ka 1 _ (ac_1 _ _ _ _)
      have b0 := kb 0 _ (ac_0 _ _ _ _)
      have b1 := kb 1 _ (ac_1 _ _ _ _)
      rw [Nat.add_zero] at a0 b0
      obtain ⟨PA, hPA⟩ : ∃ PA, Pd k cA = PA := ⟨_, rfl⟩
      obtain ⟨PB, hPB⟩ : ∃ PB, Pd k cB = PB := ⟨_, rfl⟩
      have hra : Hid (∀ w', Below W.heap.size W w' → w'.rangeAt ba (oa + i * 21 + 2) PA.toList) := fun w' hb j v hv => by
        rw [← hPA] at hv
        have := ka (2 + j) v (ac_pd _ _ _ _ j v hv)
        rw [← Nat.add_assoc] at this
        exact (hb.cell (cell_lt this)).trans this
      have hrb : Hid (∀ w', Below W.heap.size W w' → w'.rangeAt bb (ob + i * 21 + 2) PB.toList) := fun w' hb j v hv => by
        rw [← hPB] at hv
        have := kb (2 + j) v (ac_pd _ _ _ _ j v hv)
        rw [← Nat.add_assoc] at this
        exact (hb.cell (cell_lt this)).trans this
      have hcall : Hid (∀ w', Below W.heap.size W w' → Calls Tryd.prog 31 #[.agg PA, .agg PB] w' fun e w2 => e = .returned (.bool true) ∧ Below w'.heap.size w' w2) := fun w' hb => by
        rw [← hPA, ← hPB]
        exact pdu_same w' k cA cB D hsm hty (ra.on hb) (rb.on hb)
      have hsA : (Tryd.prog.info? 46).map (·.size) = some PA.toList.length := by rw [← hPA]; unfold Pd; kernel_rfl
      have hsB : (Tryd.prog.info? 46).map (·.size) = some PB.toList.length := by rw [← hPB]; unfold Pd; kernel_rfl
      obtain ⟨fs, hu⟩ : ∃ fs, Tryd.prog.underlying 46 = some (.struct fs) := ⟨_, Tryd.underlying46⟩
      clear ka kb ra rb hsm hty hPA hPB
      replace a0 := (HW.out.cell (cell_lt a0)).trans a0
      replace a1 := (HW.out.cell (cell_lt a1)).trans a1
      replace b0 := (HW.out.cell (cell_lt b0)).trans b0
      replace b1 := (HW.out.cell (cell_lt b1)).trans b1
      have hBW : Below W.heap.size W wr := HW.out
      go_wp2
      have ra0 := hra.out _ hBW.drew
      have rb0 := hrb.out _ hBW.drew
      refine wp_region_held_drew (S := fun w' => w'.cell? ⟨ba, oa + i * 21, none⟩ = some (.int .i64 x) ∧ w'.cell? ⟨ba, oa + i * 21 + 1, none⟩ = some (.int .i64 y) ∧ w'.cell? ⟨bb, ob + i * 21, none⟩ = some (.int .i64 x) ∧ w'.cell? ⟨bb, ob + i * 21 + 1, none⟩ = some (.int .i64 y) ∧ Below W.heap.size W w') (by kernel_rfl) ⟨a0, a1, b0, b1, hBW.drew⟩ (fun hHeld => ?_)
      (refine wpAnyH_take (i := 0) (oi := ({ dst := some 26, op := Op.move (Operand.tmp 0), type := 50, pos := "help.go:93", after := #[], guard := none } : Oper)) (v := ?_) rfl (by kernel_rfl) (by kernel_rfl) (by kernel_rfl) (fun _ _ _ h => h) (Or.inl ⟨by rfl, ?_⟩) (by assumption) ?_; rotate_left 1; (focus (intro wS hSw; (try dsimp only at hSw); go_split_ands; go_simp; (try with_reducible rfl))); (try simp only [Act.put, List.setIfInBounds_toArray, List.set_cons_zero, List.set_cons_succ]))
      (refine wpAnyH_take (i := 1) (oi := ({ dst := some 27, op := Op.move (Operand.tmp 5), type := 3, pos := "help.go:93", after := #[], guard := none } : Oper)) (v := ?_) rfl (by kernel_rfl) (by kernel_rfl) (by kernel_rfl) (fun _ _ _ h => h) (Or.inl ⟨by rfl, ?_⟩) (by assumption) ?_; rotate_left 1; (focus (intro wS hSw; (try dsimp only at hSw); go_split_ands; go_simp; (try with_reducible rfl))); (try simp only [Act.put, List.setIfInBounds_toArray, List.set_cons_zero, List.set_cons_succ]))
      (refine wpAnyH_take (i := 2) (oi := ({ dst := some 28, op := Op.indexAddr 50 (Operand.tmp 26) (Operand.tmp 27), type := 0, pos := "help.go:93", after := #[{ on := 0, ground := Ground.data }, { on := 1, ground := Ground.data }], guard := none } : Oper)) (v := ?_) rfl (by kernel_rfl) (by kernel_rfl) (by kernel_rfl) (fun _ _ _ h => h) (Or.inl ⟨by rfl, ?_⟩) (by assumption) ?_; rotate_left 1; (focus (intro wS hSw; (try dsimp only at hSw); go_split_ands; go_simp; (try with_reducible rfl))); (try simp only [Act.put, List.setIfInBounds_toArray, List.set_cons_zero, List.set_cons_succ]))
      (refine wpAnyH_take (i := 3) (oi := ({ dst := some 29, op := Op.fieldAddr 61 (Operand.tmp 28) 0, type := 0, pos := "help.go:93", after := #[{ on := 2, ground := Ground.data }], guard := none } : Oper)) (v := ?_) rfl (by kernel_rfl) (by kernel_rfl) (by kernel_rfl) (fun _ _ _ h => h) (Or.inl ⟨by rfl, ?_⟩) (by assumption) ?_; rotate_left 1; (focus (intro wS hSw; (try dsimp only at hSw); go_split_ands; go_simp; (try with_reducible rfl))); (try simp only [Act.put, List.setIfInBounds_toArray, List.set_cons_zero, List.set_cons_succ]))
      (refine wpAnyH_take (i := 4) (oi := ({ dst := some 30, op := Op.load 3 (Operand.tmp 29), type := 3, pos := "help.go:93", after := #[{ on := 3, ground := Ground.data }], guard := none } : Oper)) (v := ?_) rfl (by kernel_rfl) (by kernel_rfl) (by kernel_rfl) (fun _ _ _ h => h) (Or.inl ⟨by rfl, ?_⟩) (by assumption) ?_; rotate_left 1; (focus (intro wS hSw; (try dsimp only at hSw); go_split_ands; go_simp; (try with_reducible rfl))); (try simp only [Act.put, List.setIfInBounds_toArray, List.set_cons_zero, List.set_cons_succ]))
      (refine wpAnyH_take (i := 5) (oi := ({ dst := some 31, op := Op.move (Operand.tmp 1), type := 50, pos := "help.go:93", after := #[], guard := none } : Oper)) (v := ?_) rfl (by kernel_rfl) (by kernel_rfl) (by kernel_rfl) (fun _ _ _ h => h) (Or.inl ⟨by rfl, ?_⟩) (by assumption) ?_; rotate_left 1; (focus (intro wS hSw; (try dsimp only at hSw); go_split_ands; go_simp; (try with_reducible rfl))); (try simp only [Act.put, List.setIfInBounds_toArray, List.set_cons_zero, List.set_cons_succ]))
      (refine wpAnyH_take (i := 6) (oi := ({ dst := some 32, op := Op.move (Operand.tmp 5), type := 3, pos := "help.go:93", after := #[], guard := none } : Oper)) (v := ?_) rfl (by kernel_rfl) (by kernel_rfl) (by kernel_rfl) (fun _ _ _ h => h) (Or.inl ⟨by rfl, ?_⟩) (by assumption) ?_; rotate_left 1; (focus (intro wS hSw; (try dsimp only at hSw); go_split_ands; go_simp; (try with_reducible rfl))); (try simp only [Act.put, List.setIfInBounds_toArray, List.set_cons_zero, List.set_cons_succ]))
      (refine wpAnyH_take (i := 7) (oi := ({ dst := some 33, op := Op.indexAddr 50 (Operand.tmp 31) (Operand.tmp 32), type := 0, pos := "help.go:93", after := #[{ on := 5, ground := Ground.data }, { on := 6, ground := Ground.data }], guard := none } : Oper)) (v := ?_) rfl (by kernel_rfl) (by kernel_rfl) (by kernel_rfl) (fun _ _ _ h => h) (Or.inl ⟨by rfl, ?_⟩) (by assumption) ?_; rotate_left 1; (focus (intro wS hSw; (try dsimp only at hSw); go_split_ands; go_simp; (try with_reducible rfl))); (try simp only [Act.put, List.setIfInBounds_toArray, List.set_cons_zero, List.set_cons_succ]))
      (refine wpAnyH_take (i := 8) (oi := ({ dst := some 34, op := Op.fieldAddr 61 (Operand.tmp 33) 0, type := 0, pos := "help.go:93", after := #[{ on := 7, ground := Ground.data }], guard := none } : Oper)) (v := ?_) rfl (by kernel_rfl) (by kernel_rfl) (by kernel_rfl) (fun _ _ _ h => h) (Or.inl ⟨by rfl, ?_⟩) (by assumption) ?_; rotate_left 1; (focus (intro wS hSw; (try dsimp only at hSw); go_split_ands; go_simp; (try with_reducible rfl))); (try simp only [Act.put, List.setIfInBounds_toArray, List.set_cons_zero, List.set_cons_succ]))
      (refine wpAnyH_take (i := 9) (oi := ({ dst := some 35, op := Op.load 3 (Operand.tmp 34), type := 3, pos := "help.go:93", after := #[{ on := 8, ground := Ground.data }], guard := none } : Oper)) (v := ?_) rfl (by kernel_rfl) (by kernel_rfl) (by kernel_rfl) (fun _ _ _ h => h) (Or.inl ⟨by rfl, ?_⟩) (by assumption) ?_; rotate_left 1; (focus (intro wS hSw; (try dsimp only at hSw); go_split_ands; go_simp; (try with_reducible rfl))); (try simp only [Act.put, List.setIfInBounds_toArray, List.set_cons_zero, List.set_cons_succ]))
      (refine wpAnyH_take (i := 10) (oi := ({ dst := some 36, op := Op.binOp BinOp.neq 3 (Operand.tmp 30) (Operand.tmp 35) 3, type := 4, pos := "help.go:93", after := #[{ on := 4, ground := Ground.data }, { on := 9, ground := Ground.data }], guard := none } : Oper)) (v := ?_) rfl (by kernel_rfl) (by kernel_rfl) (by kernel_rfl) (fun _ _ _ h => h) (Or.inl ⟨by rfl, ?_⟩) (by assumption) ?_; rotate_left 1; (focus (intro wS hSw; (try dsimp only at hSw); go_split_ands; go_simp; (try with_reducible rfl))); (try simp only [Act.put, List.setIfInBounds_toArray, List.set_cons_zero, List.set_cons_succ]))
      (refine wpAnyH_take (i := 11) (oi := ({ dst := some 37, op := Op.move (Operand.tmp 36), type := 4, pos := "help.go:93", after := #[{ on := 10, ground := Ground.data }], guard := none } : Oper)) (v := ?_) rfl (by kernel_rfl) (by kernel_rfl) (by kernel_rfl) (fun _ _ _ h => h) (Or.inl ⟨by rfl, ?_⟩) (by assumption) ?_; rotate_left 1; (focus (intro wS hSw; (try dsimp only at hSw); go_split_ands; go_simp; (try with_reducible rfl))); (try simp only [Act.put, List.setIfInBounds_toArray, List.set_cons_zero, List.set_cons_succ]))
      (refine wpAnyH_take (i := 12) (oi := ({ dst := some 38, op := Op.move (Operand.tmp 0), type := 50, pos := "help.go:93", after := #[{ on := 11, ground := Ground.guard }], guard := some (11, false) } : Oper)) (v := ?_) rfl (by kernel_rfl) (by kernel_rfl) (by kernel_rfl) (fun _ _ _ h => h) (Or.inl ⟨by rfl, ?_⟩) (by assumption) ?_; rotate_left 1; (focus (intro wS hSw; (try dsimp only at hSw); go_split_ands; go_simp; (try with_reducible rfl))); (try simp only [Act.put, List.setIfInBounds_toArray, List.set_cons_zero, List.set_cons_succ]))
      (refine wpAnyH_take (i := 13) (oi := ({ dst := some 39, op := Op.move (Operand.tmp 5), type := 3, pos := "help.go:93", after := #[{ on := 11, ground := Ground.guard }], guard := some (11, false) } : Oper)) (v := ?_) rfl (by kernel_rfl) (by kernel_rfl) (by kernel_rfl) (fun _ _ _ h => h) (Or.inl ⟨by rfl, ?_⟩) (by assumption) ?_; rotate_left 1; (focus (intro wS hSw; (try dsimp only at hSw); go_split_ands; go_simp; (try with_reducible rfl))); (try simp only [Act.put, List.setIfInBounds_toArray, List.set_cons_zero, List.set_cons_succ]))
      (refine wpAnyH_take (i := 14) (oi := ({ dst := some 40, op := Op.indexAddr 50 (Operand.tmp 38) (Operand.tmp 39), type := 0, pos := "help.go:93", after := #[{ on := 12, ground := Ground.data }, { on := 13, ground := Ground.data }, { on := 11, ground := Ground.guard }], guard := some (11, false) } : Oper)) (v := ?_) rfl (by kernel_rfl) (by kernel_rfl) (by kernel_rfl) (fun _ _ _ h => h) (Or.inl ⟨by rfl, ?_⟩) (by assumption) ?_; rotate_left 1; (focus (intro wS hSw; (try dsimp only at hSw); go_split_ands; go_simp; (try with_reducible rfl))); (try simp only [Act.put, List.setIfInBounds_toArray, List.set_cons_zero, List.set_cons_succ]))
      (refine wpAnyH_take (i := 15) (oi := ({ dst := some 41, op := Op.fieldAddr 61 (Operand.tmp 40) 1, type := 0, pos := "help.go:93", after := #[{ on := 14, ground := Ground.data }, { on := 11, ground := Ground.guard }], guard := some (11, false) } : Oper)) (v := ?_) rfl (by kernel_rfl) (by kernel_rfl) (by kernel_rfl) (fun _ _ _ h => h) (Or.inl ⟨by rfl, ?_⟩) (by assumption) ?_; rotate_left 1; (focus (intro wS hSw; (try dsimp only at hSw); go_split_ands; go_simp; (try with_reducible rfl))); (try simp only [Act.put, List.setIfInBounds_toArray, List.set_cons_zero, List.set_cons_succ]))
      (refine wpAnyH_take (i := 16) (oi := ({ dst := some 42, op := Op.load 3 (Operand.tmp 41), type := 3, pos := "help.go:93", after := #[{ on := 15, ground := Ground.data }, { on := 11, ground := Ground.guard }], guard := some (11, false) } : Oper)) (v := ?_) rfl (by kernel_rfl) (by kernel_rfl) (by kernel_rfl) (fun _ _ _ h => h) (Or.inl ⟨by rfl, ?_⟩) (by assumption) ?_; rotate_left 1; (focus (intro wS hSw; (try dsimp only at hSw); go_split_ands; go_simp; (try with_reducible rfl))); (try simp only [Act.put, List.setIfInBounds_toArray, List.set_cons_zero, List.set_cons_succ]))
      (refine wpAnyH_take (i := 17) (oi := ({ dst := some 43, op := Op.move (Operand.tmp 1), type := 50, pos := "help.go:93", after := #[{ on := 11, ground := Ground.guard }], guard := some (11, false) } : Oper)) (v := ?_) rfl (by kernel_rfl) (by kernel_rfl) (by kernel_rfl) (fun _ _ _ h => h) (Or.inl ⟨by rfl, ?_⟩) (by assumption) ?_; rotate_left 1; (focus (intro wS hSw; (try dsimp only at hSw); go_split_ands; go_simp; (try with_reducible rfl))); (try simp only [Act.put, List.setIfInBounds_toArray, List.set_cons_zero, List.set_cons_succ]))
      (refine wpAnyH_take (i := 18) (oi := ({ dst := some 44, op := Op.move (Operand.tmp 5), type := 3, pos := "help.go:93", after := #[{ on := 11, ground := Ground.guard }], guard := some (11, false) } : Oper)) (v := ?_) rfl (by kernel_rfl) (by kernel_rfl) (by kernel_rfl) (fun _ _ _ h => h) (Or.inl ⟨by rfl, ?_⟩) (by assumption) ?_; rotate_left 1; (focus (intro wS hSw; (try dsimp only at hSw); go_split_ands; go_simp; (try with_reducible rfl))); (try simp only [Act.put, List.setIfInBounds_toArray, List.set_cons_zero, List.set_cons_succ]))
      (refine wpAnyH_take (i := 19) (oi := ({ dst := some 45, op := Op.indexAddr 50 (Operand.tmp 43) (Operand.tmp 44), type := 0, pos := "help.go:93", after := #[{ on := 17, ground := Ground.data }, { on := 18, ground := Ground.data }, { on := 11, ground := Ground.guard }], guard := some (11, false) } : Oper)) (v := ?_) rfl (by kernel_rfl) (by kernel_rfl) (by kernel_rfl) (fun _ _ _ h => h) (Or.inl ⟨by rfl, ?_⟩) (by assumption) ?_; rotate_left 1; (focus (intro wS hSw; (try dsimp only at hSw); go_split_ands; go_simp; (try with_reducible rfl))); (try simp only [Act.put, List.setIfInBounds_toArray, List.set_cons_zero, List.set_cons_succ]))
      (refine wpAnyH_take (i := 20) (oi := ({ dst := some 46, op := Op.fieldAddr 61 (Operand.tmp 45) 1, type := 0, pos := "help.go:93", after := #[{ on := 19, ground := Ground.data }, { on := 11, ground := Ground.guard }], guard := some (11, false) } : Oper)) (v := ?_) rfl (by kernel_rfl) (by kernel_rfl) (by kernel_rfl) (fun _ _ _ h => h) (Or.inl ⟨by rfl, ?_⟩) (by assumption) ?_; rotate_left 1; (focus (intro wS hSw; (try dsimp only at hSw); go_split_ands; go_simp; (try with_reducible rfl))); (try simp only [Act.put, List.setIfInBounds_toArray, List.set_cons_zero, List.set_cons_succ]))
      (refine wpAnyH_take (i := 21) (oi := ({ dst := some 47, op := Op.load 3 (Operand.tmp 46), type := 3, pos := "help.go:93", after := #[{ on := 20, ground := Ground.data }, { on := 11, ground := Ground.guard }], guard := some (11, false) } : Oper)) (v := ?_) rfl (by kernel_rfl) (by kernel_rfl) (by kernel_rfl) (fun _ _ _ h => h) (Or.inl ⟨by rfl, ?_⟩) (by assumption) ?_; rotate_left 1; (focus (intro wS hSw; (try dsimp only at hSw); go_split_ands; go_simp; (try with_reducible rfl))); (try simp only [Act.put, List.setIfInBounds_toArray, List.set_cons_zero, List.set_cons_succ]))
      (refine wpAnyH_take (i := 22) (oi := ({ dst := some 48, op := Op.binOp BinOp.neq 3 (Operand.tmp 42) (Operand.tmp 47) 3, type := 4, pos := "help.go:93", after := #[{ on := 16, ground := Ground.data }, { on := 21, ground := Ground.data }, { on := 11, ground := Ground.guard }], guard := some (11, false) } : Oper)) (v := ?_) rfl (by kernel_rfl) (by kernel_rfl) (by kernel_rfl) (fun _ _ _ h => h) (Or.inl ⟨by rfl, ?_⟩) (by assumption) ?_; rotate_left 1; (focus (intro wS hSw; (try dsimp only at hSw); go_split_ands; go_simp; (try with_reducible rfl))); (try simp only [Act.put, List.setIfInBounds_toArray, List.set_cons_zero, List.set_cons_succ]))
      (refine wpAnyH_take (i := 23) (oi := ({ dst := some 49, op := Op.pick (Operand.tmp 37) (Operand.const (Value.bool true)) (Operand.tmp 48), type := 4, pos := "help.go:93", after := #[{ on := 11, ground := Ground.data }, { on := 22, ground := Ground.data }], guard := none } : Oper)) (v := ?_) rfl (by kernel_rfl) (by kernel_rfl) (by kernel_rfl) (fun _ _ _ h => h) (Or.inl ⟨by rfl, ?_⟩) (by assumption) ?_; rotate_left 1; (focus (intro wS hSw; (try dsimp only at hSw); go_split_ands; go_simp; (try with_reducible rfl))); (try simp only [Act.put, List.setIfInBounds_toArray, List.set_cons_zero, List.set_cons_succ]))
      (refine wpAnyH_take (i := 24) (oi := ({ dst := some 50, op := Op.move (Operand.tmp 49), type := 4, pos := "help.go:93", after := #[{ on := 23, ground := Ground.data }, { on := 11, ground := Ground.chain }], guard := none } : Oper)) (v := ?_) rfl (by kernel_rfl) (by kernel_rfl) (by kernel_rfl) (fun _ _ _ h => h) (Or.inl ⟨by rfl, ?_⟩) (by assumption) ?_; rotate_left 1; (focus (intro wS hSw; (try dsimp only at hSw); go_split_ands; go_simp; (try with_reducible rfl))); (try simp only [Act.put, List.setIfInBounds_toArray, List.set_cons_zero, List.set_cons_succ]))
      (refine wpAnyH_take (i := 25) (oi := ({ dst := some 51, op := Op.move (Operand.tmp 0), type := 50, pos := "help.go:93", after := #[{ on := 24, ground := Ground.guard }], guard := some (24, false) } : Oper)) (v := ?_) rfl (by kernel_rfl) (by kernel_rfl) (by kernel_rfl) (fun _ _ _ h => h) (Or.inl ⟨by rfl, ?_⟩) (by assumption) ?_; rotate_left 1; (focus (intro wS hSw; (try dsimp only at hSw); go_split_ands; go_simp; (try with_reducible rfl))); (try simp only [Act.put, List.setIfInBounds_toArray, List.set_cons_zero, List.set_cons_succ]))
      (refine wpAnyH_take (i := 26) (oi := ({ dst := some 52, op := Op.move (Operand.tmp 5), type := 3, pos := "help.go:93", after := #[{ on := 24, ground := Ground.guard }], guard := some (24, false) } : Oper)) (v := ?_) rfl (by kernel_rfl) (by kernel_rfl) (by kernel_rfl) (fun _ _ _ h => h) (Or.inl ⟨by rfl, ?_⟩) (by assumption) ?_; rotate_left 1; (focus (intro wS hSw; (try dsimp only at hSw); go_split_ands; go_simp; (try with_reducible rfl))); (try simp only [Act.put, List.setIfInBounds_toArray, List.set_cons_zero, List.set_cons_succ]))
      (refine wpAnyH_take (i := 27) (oi := ({ dst := some 53, op := Op.indexAddr 50 (Operand.tmp 51) (Operand.tmp 52), type := 0, pos := "help.go:93", after := #[{ on := 25, ground := Ground.data }, { on := 26, ground := Ground.data }, { on := 24, ground := Ground.guard }], guard := some (24, false) } : Oper)) (v := ?_) rfl (by kernel_rfl) (by kernel_rfl) (by kernel_rfl) (fun _ _ _ h => h) (Or.inl ⟨by rfl, ?_⟩) (by assumption) ?_; rotate_left 1; (focus (intro wS hSw; (try dsimp only at hSw); go_split_ands; go_simp; (try with_reducible rfl))); (try simp only [Act.put, List.setIfInBounds_toArray, List.set_cons_zero, List.set_cons_succ]))
      (refine wpAnyH_take (i := 28) (oi := ({ dst := some 54, op := Op.fieldAddr 61 (Operand.tmp 53) 2, type := 0, pos := "help.go:93", after := #[{ on := 27, ground := Ground.data }, { on := 24, ground := Ground.guard }], guard := some (24, false) } : Oper)) (v := ?_) rfl (by kernel_rfl) (by kernel_rfl) (by kernel_rfl) (fun _ _ _ h => h) (Or.inl ⟨by rfl, ?_⟩) (by assumption) ?_; rotate_left 1; (focus (intro wS hSw; (try dsimp only at hSw); go_split_ands; go_simp; (try with_reducible rfl))); (try simp only [Act.put, List.setIfInBounds_toArray, List.set_cons_zero, List.set_cons_succ]))
      refine wpAnyH_take (i := 29) (oi := ({ dst := some 55, op := Op.load 46 (Operand.tmp 54), type := 46, pos := "help.go:93", after := #[{ on := 28, ground := Ground.data }, { on := 24, ground := Ground.guard }], guard := some (24, false) } : Oper)) (v := .agg PA) rfl (by kernel_rfl) (by kernel_rfl) (by kernel_rfl) (fun _ _ _ h => h) (yieldsIf_load_mid (by rfl) 46 (.tmp 54) rfl ba (oa + i * 21 + 2) rfl PA.toList _ (fun w h => hra.out w h.2.2.2.2) hu rfl hsA) hHeld ?_
      try simp only [Act.put, List.setIfInBounds_toArray, List.set_cons_zero, List.set_cons_succ]
      (refine wpAnyH_take (i := 30) (oi := ({ dst := some 56, op := Op.move (Operand.tmp 1), type := 50, pos := "help.go:93", after := #[{ on := 24, ground := Ground.guard }], guard := some (24, false) } : Oper)) (v := ?_) rfl (by kernel_rfl) (by kernel_rfl) (by kernel_rfl) (fun _ _ _ h => h) (Or.inl ⟨by rfl, ?_⟩) (by assumption) ?_; rotate_left 1; (focus (intro wS hSw; (try dsimp only at hSw); go_split_ands; go_simp; (try with_reducible rfl))); (try simp only [Act.put, List.setIfInBounds_toArray, List.set_cons_zero, List.set_cons_succ]))
      (refine wpAnyH_take (i := 31) (oi := ({ dst := some 57, op := Op.move (Operand.tmp 5), type := 3, pos := "help.go:93", after := #[{ on := 24, ground := Ground.guard }], guard := some (24, false) } : Oper)) (v := ?_) rfl (by kernel_rfl) (by kernel_rfl) (by kernel_rfl) (fun _ _ _ h => h) (Or.inl ⟨by rfl, ?_⟩) (by assumption) ?_; rotate_left 1; (focus (intro wS hSw; (try dsimp only at hSw); go_split_ands; go_simp; (try with_reducible rfl))); (try simp only [Act.put, List.setIfInBounds_toArray, List.set_cons_zero, List.set_cons_succ]))
      (refine wpAnyH_take (i := 32) (oi := ({ dst := some 58, op := Op.indexAddr 50 (Operand.tmp 56) (Operand.tmp 57), type := 0, pos := "help.go:93", after := #[{ on := 30, ground := Ground.data }, { on := 31, ground := Ground.data }, { on := 24, ground := Ground.guard }], guard := some (24, false) } : Oper)) (v := ?_) rfl (by kernel_rfl) (by kernel_rfl) (by kernel_rfl) (fun _ _ _ h => h) (Or.inl ⟨by rfl, ?_⟩) (by assumption) ?_; rotate_left 1; (focus (intro wS hSw; (try dsimp only at hSw); go_split_ands; go_simp; (try with_reducible rfl))); (try simp only [Act.put, List.setIfInBounds_toArray, List.set_cons_zero, List.set_cons_succ]))
      (refine wpAnyH_take (i := 33) (oi := ({ dst := some 59, op := Op.fieldAddr 61 (Operand.tmp 58) 2, type := 0, pos := "help.go:93", after := #[{ on := 32, ground := Ground.data }, { on := 24, ground := Ground.guard }], guard := some (24, false) } : Oper)) (v := ?_) rfl (by kernel_rfl) (by kernel_rfl) (by kernel_rfl) (fun _ _ _ h => h) (Or.inl ⟨by rfl, ?_⟩) (by assumption) ?_; rotate_left 1; (focus (intro wS hSw; (try dsimp only at hSw); go_split_ands; go_simp; (try with_reducible rfl))); (try simp only [Act.put, List.setIfInBounds_toArray, List.set_cons_zero, List.set_cons_succ]))
      refine wpAnyH_take (i := 34) (oi := ({ dst := some 60, op := Op.load 46 (Operand.tmp 59), type := 46, pos := "help.go:93", after := #[{ on := 33, ground := Ground.data }, { on := 24, ground := Ground.guard }], guard := some (24, false) } : Oper)) (v := .agg PB) rfl (by kernel_rfl) (by kernel_rfl) (by kernel_rfl) (fun _ _ _ h => h) (yieldsIf_load_mid (by rfl) 46 (.tmp 59) rfl bb (ob + i * 21 + 2) rfl PB.toList _ (fun w h => hrb.out w h.2.2.2.2) hu rfl hsB) hHeld ?_
      try simp only [Act.put, List.setIfInBounds_toArray, List.set_cons_zero, List.set_cons_succ]
      refine wpAnyH_ready (rs := [35]) (by kernel_rfl) (by simp) ?_
      refine AllReadyH.cons (o := ({ dst := some 61, op := Op.call { callee := Callee.value (Operand.func 31), args := #[Operand.tmp 55, Operand.tmp 60], argTypes := #[46, 46] }, type := 4, pos := "help.go:93", after := #[{ on := 29, ground := Ground.data }, { on := 34, ground := Ground.data }, { on := 24, ground := Ground.chain }, { on := 24, ground := Ground.guard }], guard := some (24, false) } : Oper)) rfl (fun K hK => ?_) AllReadyH.nil
      go_simp
      go_at_call 31
      refine (hcall.out _ hBW.drew).mono ?_
      rintro xx W5 ⟨rfl, hb5⟩
      try go_wp2_with (fail)
      refine hK.out _ _ ⟨(hb5.cell (cell_lt hHeld.1)).trans hHeld.1, (hb5.cell (cell_lt hHeld.2.1)).trans hHeld.2.1, (hb5.cell (cell_lt hHeld.2.2.1)).trans hHeld.2.2.1, (hb5.cell (cell_lt hHeld.2.2.2.1)).trans hHeld.2.2.2.1, hBW.drew.trans (hb5.mono hBW.drew.size)⟩ (fun hHeld => ?_)
      clear hK K
      try simp only [Act.put, List.setIfInBounds_toArray, List.set_cons_zero, List.set_cons_succ]
      (refine wpAnyH_take (i := 36) (oi := ({ dst := some 62, op := Op.unOp UnOp.not 4 (Operand.tmp 61), type := 4, pos := "help.go:93", after := #[{ on := 35, ground := Ground.data }, { on := 24, ground := Ground.guard }], guard := some (24, false) } : Oper)) (v := ?_) rfl (by kernel_rfl) (by kernel_rfl) (by kernel_rfl) (fun _ _ _ h => h) (Or.inl ⟨by rfl, ?_⟩) (by assumption) ?_; rotate_left 1; (focus (intro wS hSw; (try dsimp only at hSw); go_split_ands; go_simp; (try with_reducible rfl))); (try simp only [Act.put, List.setIfInBounds_toArray, List.set_cons_zero, List.set_cons_succ]))
      (refine wpAnyH_take (i := 37) (oi := ({ dst := some 63, op := Op.pick (Operand.tmp 50) (Operand.const (Value.bool true)) (Operand.tmp 62), type := 4, pos := "help.go:93", after := #[{ on := 24, ground := Ground.data }, { on := 36, ground := Ground.data }], guard := none } : Oper)) (v := ?_) rfl (by kernel_rfl) (by kernel_rfl) (by kernel_rfl) (fun _ _ _ h => h) (Or.inl ⟨by rfl, ?_⟩) (by assumption) ?_; rotate_left 1; (focus (intro wS hSw; (try dsimp only at hSw); go_split_ands; go_simp; (try with_reducible rfl))); (try simp only [Act.put, List.setIfInBounds_toArray, List.set_cons_zero, List.set_cons_succ]))
      refine wpAnyH_done (by kernel_rfl) ?_ _
      go_wp2
      go_roundg (n - (i + 1))
      case rel => exact ⟨i + 1, by go_num, by omega, Hid.mk' (hBW.drew.trans (hb5.mono hBW.drew.size))⟩
      case measure => omega
    · have hI : ¬ (i : Int) < (n : Int) := by omega
      go_wp2
      go_ret
      exact ⟨rfl, HW.out⟩
end Go.Proofs.YtiieikdbhpflgabDoor
