import Derived.Test.YtnamkcfmbefkfaaDoorVi
namespace Go.Proofs.YtnamkcfmbefkfaaDoor
open Go Go.Proofs Go.RowKit
def PL (W : World) (F : Nat → Prop) (v : Value) (n : Nat) (k : Nat → Int) (c : Nat → Fin 18 → Value) : Prop :=
  ∃ ao cap, v = .slice ao n cap ∧ (0 < n → ∃ g, ao = some ⟨g, 0, none⟩ ∧ ¬ F g ∧ ∀ j, j < n → W.rangeAt g (j * 19) (Pd (k j) (c j)).toList)
structure ApH (W : World) (n : Nat) (T : Nat → KpD) (wc : Nat → Fin 18 → Value) (G : Nat → Prop) (tv wv : Value) : Prop where
  tf : PL W (fun b => ∃ j, j < n ∧ (T j).F b) tv n (fun j => (T j).k) (fun j => (T j).c)
  wf : PL W (fun b => ∃ j, j < n ∧ (T j).F b) wv n (fun j => (T j).k) wc
  ox : ∀ j, j < n → OXF (T j).F 0 W (T j).c (T j).D
  wo : ∀ j, j < n → OXF G 0 W (wc j) (T j).D
  gd : ∀ j, j < n → Gd (T j).c (T j).D
  same : ∀ j, j < n → SameC (T j).c (wc j)
  apt : ∀ i j, i < n → j < n → i ≠ j → ∀ b, (T i).F b → ¬ (T j).F b
  far : ∀ j, j < n → ∀ b, (T j).F b → ¬ G b
  lt : ∀ j, j < n → ∀ b, (T j).F b → b < W.heap.size
def NT (n : Nat) (T : Nat → KpD) (j : Nat) : Nat := if j < n then (T j).D.vl.length + (T j).D.ot.length else 0
theorem nt_le {W : World} {n : Nat} {T : Nat → KpD} {wc : Nat → Fin 18 → Value} {G : Nat → Prop} {tv wv : Value} (h : ApH W n T wc G tv wv) (j : Nat) : NT n T j ≤ 2097152 := by
  unfold NT
  split
  · rename_i hj
    have h1 := (h.gd j hj).2.vl.1
    have h2 := (h.gd j hj).2.ot.1
    omega
  · omega
structure ApI (W0 : World) (n : Nat) (T : Nat → KpD) (f : Nat → Nat → Value × List Nat) (i : Nat) (l : Value) (wr : World) : Prop where
  kf : KF (fun b => ∃ j, j < i ∧ (T j).F b) W0 wr
  by' : ∀ j, j < i → BYF (T j).F 0 wr (T j).c (T j).D (fun q => (f j q).1) (fun q => (f j q).2)
  ow : wr.ownsRow W0.heap.size 55 1 l (bls (NT n T) f i).length ((bls (NT n T) f i).map (·.1))
  nil : (bls (NT n T) f i).length = 0 → l = .slice none 0 0
theorem ApI.step {W0 wr wa wb wd : World} {n i : Nat} {T : Nat → KpD} {wc : Nat → Fin 18 → Value} {G : Nat → Prop} {tv wv l l' : Value} {f : Nat → Nat → Value × List Nat} (hH : ApH W0 n T wc G tv wv) (hi : i < n) (hf : ∀ j, j < n → BYF (T j).F 0 W0 (T j).c (T j).D (fun q => (f j q).1) (fun q => (f j q).2)) (h : ApI W0 n T f i l wr) (ha : Below wr.heap.size wr wa)
    (hk : KF (T i).F wa wb) (hb : ∀ us cs, BY 0 wa (T i).c (T i).D us cs → BY 0 wb (T i).c (T i).D us cs) (hd : Below W0.heap.size wb wd) (ho : wd.ownsRow W0.heap.size 55 1 l' ((bls (NT n T) f i).length + ((T i).D.vl.length + (T i).D.ot.length)) ((bls (NT n T) f i).map (·.1) ++ (List.range ((T i).D.vl.length + (T i).D.ot.length)).map fun q => (f i q).1))
    (h0 : (bls (NT n T) f i).length + ((T i).D.vl.length + (T i).D.ot.length) = 0 → l' = .slice none 0 0) : ApI W0 n T f (i + 1) l' wd := by
  have s1 := h.kf.size
  have s2 := ha.size
  have s3 := hk.size
  have s4 := hd.size
  have hN : NT n T i = (T i).D.vl.length + (T i).D.ot.length := by unfold NT; rw [if_pos hi]
  have hlen : (bls (NT n T) f (i + 1)).length = (bls (NT n T) f i).length + ((T i).D.vl.length + (T i).D.ot.length) := by
    show (bls (NT n T) f i ++ (List.range (NT n T i)).map (f i)).length = _
    rw [List.length_append, List.length_map, List.length_range, hN]
  have hmap : (bls (NT n T) f (i + 1)).map (·.1) = (bls (NT n T) f i).map (·.1) ++ (List.range ((T i).D.vl.length + (T i).D.ot.length)).map fun q => (f i q).1 := by
    show (bls (NT n T) f i ++ (List.range (NT n T i)).map (f i)).map (·.1) = _
    rw [List.map_append, List.map_map, hN]
    rfl
  refine ⟨⟨hd.os.trans (hk.os.trans (ha.os.trans h.kf.os)), hd.tape.trans (hk.tape.trans (ha.tape.trans h.kf.tape)), hd.output.trans (hk.output.trans (ha.output.trans h.kf.output)), by omega, fun b h1 h2 => ?_⟩, fun j hj => ?_, by rw [hlen, hmap]; exact ho, fun e => h0 (by omega)⟩
  · exact (hd.block b h1).trans ((hk.block b (by omega) (fun e => h2 ⟨i, by omega, e⟩)).trans ((ha.block b (by omega)).trans (h.kf.block b h1 (fun ⟨j, hj, e⟩ => h2 ⟨j, by omega, e⟩))))
  · by_cases hji : j < i
    · refine (h.by' j hji).keepF fun b _ hb2 => ?_
      have hlt := hH.lt j (by omega) b hb2
      exact (hd.block b hlt).trans ((hk.block b (by omega) (hH.apt j i (by omega) hi (by omega) b hb2)).trans (ha.block b (by omega)))
    · obtain rfl : j = i := by omega
      have k1 : BYF (T j).F 0 wa (T j).c (T j).D (fun q => (f j q).1) (fun q => (f j q).2) := (hf j hi).keepF fun b hb1 hb2 => (ha.block b (by omega)).trans (h.kf.block b hb1 (fun ⟨q, hq, e⟩ => hH.apt j q hi (by omega) (by omega) b hb2 e))
      have k2 : BYF (T j).F 0 wb (T j).c (T j).D (fun q => (f j q).1) (fun q => (f j q).2) := ⟨hb _ _ k1.toBY, k1.g17, k1.g13, k1.gu⟩
      exact k2.keepF fun b _ hb2 => hd.block b (hH.lt j hi b hb2)
theorem pick_f {W : World} {n : Nat} {T : Nat → KpD} {wc : Nat → Fin 18 → Value} {G : Nat → Prop} {tv wv : Value} (h : ApH W n T wc G tv wv) : ∃ f : Nat → Nat → Value × List Nat, ∀ j, j < n → BYF (T j).F 0 W (T j).c (T j).D (fun q => (f j q).1) (fun q => (f j q).2) := by
  have hh : ∀ j, ∃ g : Nat → Value × List Nat, j < n → BYF (T j).F 0 W (T j).c (T j).D (fun q => (g q).1) (fun q => (g q).2) := fun j => by
    by_cases hj : j < n
    · obtain ⟨us, cs, hb⟩ := byf_of (h.ox j hj) (h.gd j hj).2
      exact ⟨fun q => (us q, cs q), fun _ => hb⟩
    · exact ⟨fun _ => (.bool false, []), fun h => absurd h hj⟩
  exact Classical.axiomOfChoice hh
theorem ApI.free {W0 wr : World} {n : Nat} {T : Nat → KpD} {wc : Nat → Fin 18 → Value} {G : Nat → Prop} {tv wv l : Value} {f : Nat → Nat → Value × List Nat} (hH : ApH W0 n T wc G tv wv) (hn : n ≤ 2097152) (h : ApI W0 n T f n l wr) :
    Calls Tryd.prog 22 #[l] wr fun e w' => e = .returned (.bool true) ∧ KF (fun b => ∃ j, j < n ∧ (T j).F b) W0 w' := by
  have hlen := bls_len (f := f) (nt_le hH) n
  have hq : ∀ j q, j < n → q < NT n T j → q < (T j).D.vl.length + (T j).D.ot.length := fun j q hj hq => by unfold NT at hq; rw [if_pos hj] at hq; exact hq
  refine (free_bl wr W0.heap.size (bls (NT n T) f n) l h.ow h.nil (fun x hx => ?_) (bls_apt n (fun j hj q r h1 h2 h3 => ?_) (fun i j hi hj hij q r h1 h2 => ?_)) (by omega)).mono ?_
  · obtain ⟨j, q, hj, h1, rfl⟩ := bls_mem hx
    exact ⟨(h.by' j hj).own q (hq j q hj h1), (h.by' j hj).sm q (hq j q hj h1)⟩
  · exact (h.by' j hj).ap q r (hq j q hj h1) (hq j r hj h2) h3
  · exact fun g e e' => hH.apt i j hi hj hij g ((h.by' i hi).gu q (hq i q hi h1) g e) ((h.by' j hj).gu r (hq j r hj h2) g e')
  · rintro e w' ⟨rfl, hk⟩
    refine ⟨rfl, h.kf.trans (hk.mono fun b ⟨x, hx, e⟩ => ?_)⟩
    obtain ⟨j, q, hj, h1, rfl⟩ := bls_mem hx
    exact ⟨j, hj, (h.by' j hj).gu q (hq j q hj h1) b e⟩
theorem PL.on {W W' : World} {g n : Nat} {k : Nat → Int} {c : Nat → Fin 18 → Value} (h : ∀ j, j < n → W.rangeAt g (j * 19) (Pd (k j) (c j)).toList) (hk : W'.heap[g]? = W.heap[g]?) : ∀ j, j < n → W'.rangeAt g (j * 19) (Pd (k j) (c j)).toList := fun j hj i v hv => (World.cell?_of_block hk).trans (h j hj i v hv)
set_option maxRecDepth 100000 in
set_option maxHeartbeats 4000000 in
theorem apart_any (W : World) (n : Nat) (T : Nat → KpD) (wc : Nat → Fin 18 → Value) (G : Nat → Prop) (tv wv : Value) (hH : ApH W n T wc G tv wv) (hn : n ≤ 2097152) :
    Calls Tryd.prog 10 #[tv, wv] W fun e w' => e = .returned (.bool true) ∧ KF (fun b => ∃ j, j < n ∧ (T j).F b) W w' := by
  obtain ⟨f, hf⟩ := pick_f hH
  obtain ⟨aa, ca, e1, ha⟩ := hH.tf
  obtain ⟨ab, cb, e2, hb⟩ := hH.wf
  subst e1 e2
  have HH : Hid (ApH W n T wc G (.slice aa n ca) (.slice ab n cb)) := hH
  have HA : Hid _ := ha
  have HB : Hid _ := hb
  have Hf : Hid _ := hf
  have HI0 : Hid (ApI W n T f 0 (.slice none 0 0) W) := ⟨KF.refl _ _, fun j hj => absurd hj (Nat.not_lt_zero _), World.ownsRow_nil _ _ _ _, fun _ => rfl⟩
  clear hH ha hb hf
  obtain ⟨fs, hu⟩ : ∃ fs, Tryd.prog.underlying 33 = some (.struct fs) := ⟨_, Tryd.underlying33⟩
  go_enter Tryd.func10, Tryd.ntmps10
  go_wp2
  go_loopw [6] (fun x wr => ∃ (i : Nat), x = .int .i64 (i : Int) ∧ i ≤ n ∧ Hid (Below W.heap.size W wr)) (fun x _ => n - (intOf x).toNat)
  case atStart => exact ⟨0, rfl, by omega, Hid.mk' (.refl _ _)⟩
  case round => as_aux_lemma =>
    obtain ⟨i, rfl, hi, HW⟩ := hrel
    by_cases hin : i < n
    · have hI : ((i : Int) < (n : Int)) := by omega
      obtain ⟨ga, rfl, -, ka⟩ := HA.out (by omega)
      obtain ⟨gb, rfl, -, kb⟩ := HB.out (by omega)
      have hra0 := ka i hin
      have hrb0 := kb i hin
      obtain ⟨PA, hPA⟩ : ∃ PA, Pd (T i).k (T i).c = PA := ⟨_, rfl⟩
      obtain ⟨PB, hPB⟩ : ∃ PB, Pd (T i).k (wc i) = PB := ⟨_, rfl⟩
      have hra : Hid (∀ w', Below wr.heap.size wr w' → w'.rangeAt ga (i * 19) PA.toList) := fun w' hb j v hv => by
        rw [← hPA] at hv
        have h1 := hra0 j v hv
        have h2 := (HW.out.cell (cell_lt h1)).trans h1
        exact (hb.cell (cell_lt h2)).trans h2
      have hrb : Hid (∀ w', Below wr.heap.size wr w' → w'.rangeAt gb (i * 19) PB.toList) := fun w' hb j v hv => by
        rw [← hPB] at hv
        have h1 := hrb0 j v hv
        have h2 := (HW.out.cell (cell_lt h1)).trans h1
        exact (hb.cell (cell_lt h2)).trans h2
      have hcall : Hid (∀ w', Below wr.heap.size wr w' → Calls Tryd.prog 7 #[.agg PA, .agg PB] w' fun e w2 => e = .returned (.bool true) ∧ Below w'.heap.size w' w2) := fun w' hb => by
        rw [← hPA, ← hPB]
        exact pdu_same w' _ _ _ _ (HH.out.same i hin) (HH.out.gd i hin).1 (((HH.out.ox i hin).toOX.rx.on HW.out).on hb) (((HH.out.wo i hin).toOX.rx.on HW.out).on hb)
      have hsA : (Tryd.prog.info? 33).map (·.size) = some PA.toList.length := by rw [← hPA]; unfold Pd; kernel_rfl
      have hsB : (Tryd.prog.info? 33).map (·.size) = some PB.toList.length := by rw [← hPB]; unfold Pd; kernel_rfl
      have hst : Below wr.heap.size wr wr.drew := (Below.refl _ _).drew
      clear ka kb hra0 hrb0 hPA hPB
      go_wp2
      refine wp_region_held_drew (S := fun w' => Below wr.heap.size wr w') (by kernel_rfl) hst (fun hHeld => ?_)
      (refine wpAnyH_take (i := 0) (oi := ({ dst := some 14, op := Op.move (Operand.tmp 0), type := 48, pos := "help.go:170", after := #[], guard := none } : Oper)) (v := ?_) rfl (by kernel_rfl) (by kernel_rfl) (by kernel_rfl) (fun _ _ _ h => h) (Or.inl ⟨by rfl, ?_⟩) (by assumption) ?_; rotate_left 1; (focus (intro wS hSw; (try dsimp only at hSw); go_split_ands; go_simp; (try with_reducible rfl))); (try simp only [Act.put, List.setIfInBounds_toArray, List.set_cons_zero, List.set_cons_succ]))
      (refine wpAnyH_take (i := 1) (oi := ({ dst := some 15, op := Op.move (Operand.tmp 6), type := 3, pos := "help.go:170", after := #[], guard := none } : Oper)) (v := ?_) rfl (by kernel_rfl) (by kernel_rfl) (by kernel_rfl) (fun _ _ _ h => h) (Or.inl ⟨by rfl, ?_⟩) (by assumption) ?_; rotate_left 1; (focus (intro wS hSw; (try dsimp only at hSw); go_split_ands; go_simp; (try with_reducible rfl))); (try simp only [Act.put, List.setIfInBounds_toArray, List.set_cons_zero, List.set_cons_succ]))
      (refine wpAnyH_take (i := 2) (oi := ({ dst := some 16, op := Op.indexAddr 48 (Operand.tmp 14) (Operand.tmp 15), type := 0, pos := "help.go:170", after := #[{ on := 0, ground := Ground.data }, { on := 1, ground := Ground.data }], guard := none } : Oper)) (v := ?_) rfl (by kernel_rfl) (by kernel_rfl) (by kernel_rfl) (fun _ _ _ h => h) (Or.inl ⟨by rfl, ?_⟩) (by assumption) ?_; rotate_left 1; (focus (intro wS hSw; (try dsimp only at hSw); go_split_ands; go_simp; (try with_reducible rfl))); (try simp only [Act.put, List.setIfInBounds_toArray, List.set_cons_zero, List.set_cons_succ]))
      refine wpAnyH_take (i := 3) (oi := ({ dst := some 17, op := Op.load 33 (Operand.tmp 16), type := 33, pos := "help.go:170", after := #[{ on := 2, ground := Ground.data }], guard := none } : Oper)) (v := .agg PA) rfl (by kernel_rfl) (by kernel_rfl) (by kernel_rfl) (fun _ _ _ h => h) (yieldsIf_load_mid (by rfl) 33 (.tmp 16) rfl ga (i * 19) rfl PA.toList _ (fun w h => hra.out w h) hu rfl hsA) hHeld ?_
      try simp only [Act.put, List.setIfInBounds_toArray, List.set_cons_zero, List.set_cons_succ]
      (refine wpAnyH_take (i := 4) (oi := ({ dst := some 18, op := Op.move (Operand.tmp 1), type := 48, pos := "help.go:170", after := #[], guard := none } : Oper)) (v := ?_) rfl (by kernel_rfl) (by kernel_rfl) (by kernel_rfl) (fun _ _ _ h => h) (Or.inl ⟨by rfl, ?_⟩) (by assumption) ?_; rotate_left 1; (focus (intro wS hSw; (try dsimp only at hSw); go_split_ands; go_simp; (try with_reducible rfl))); (try simp only [Act.put, List.setIfInBounds_toArray, List.set_cons_zero, List.set_cons_succ]))
      (refine wpAnyH_take (i := 5) (oi := ({ dst := some 19, op := Op.move (Operand.tmp 6), type := 3, pos := "help.go:170", after := #[], guard := none } : Oper)) (v := ?_) rfl (by kernel_rfl) (by kernel_rfl) (by kernel_rfl) (fun _ _ _ h => h) (Or.inl ⟨by rfl, ?_⟩) (by assumption) ?_; rotate_left 1; (focus (intro wS hSw; (try dsimp only at hSw); go_split_ands; go_simp; (try with_reducible rfl))); (try simp only [Act.put, List.setIfInBounds_toArray, List.set_cons_zero, List.set_cons_succ]))
      (refine wpAnyH_take (i := 6) (oi := ({ dst := some 20, op := Op.indexAddr 48 (Operand.tmp 18) (Operand.tmp 19), type := 0, pos := "help.go:170", after := #[{ on := 4, ground := Ground.data }, { on := 5, ground := Ground.data }], guard := none } : Oper)) (v := ?_) rfl (by kernel_rfl) (by kernel_rfl) (by kernel_rfl) (fun _ _ _ h => h) (Or.inl ⟨by rfl, ?_⟩) (by assumption) ?_; rotate_left 1; (focus (intro wS hSw; (try dsimp only at hSw); go_split_ands; go_simp; (try with_reducible rfl))); (try simp only [Act.put, List.setIfInBounds_toArray, List.set_cons_zero, List.set_cons_succ]))
      refine wpAnyH_take (i := 7) (oi := ({ dst := some 21, op := Op.load 33 (Operand.tmp 20), type := 33, pos := "help.go:170", after := #[{ on := 6, ground := Ground.data }], guard := none } : Oper)) (v := .agg PB) rfl (by kernel_rfl) (by kernel_rfl) (by kernel_rfl) (fun _ _ _ h => h) (yieldsIf_load_mid (by rfl) 33 (.tmp 20) rfl gb (i * 19) rfl PB.toList _ (fun w h => hrb.out w h) hu rfl hsB) hHeld ?_
      try simp only [Act.put, List.setIfInBounds_toArray, List.set_cons_zero, List.set_cons_succ]
      refine wpAnyH_ready (rs := [8]) (by kernel_rfl) (by simp) ?_
      refine AllReadyH.cons (o := ({ dst := some 22, op := Op.call { callee := Callee.value (Operand.func 7), args := #[Operand.tmp 17, Operand.tmp 21], argTypes := #[33, 33] }, type := 4, pos := "help.go:170", after := #[{ on := 3, ground := Ground.data }, { on := 7, ground := Ground.data }], guard := none } : Oper)) rfl (fun K hK => ?_) AllReadyH.nil
      go_simp
      go_at_call 7
      refine (hcall.out _ hHeld).mono ?_
      rintro xx W5 ⟨rfl, hb5⟩
      try go_wp2_with (fail)
      have hHeld5 := hHeld.trans (hb5.mono hHeld.size)
      refine hK.out _ _ hHeld5 (fun hHeld => ?_)
      clear hK K
      try simp only [Act.put, List.setIfInBounds_toArray, List.set_cons_zero, List.set_cons_succ]
      (refine wpAnyH_take (i := 9) (oi := ({ dst := some 23, op := Op.unOp UnOp.not 4 (Operand.tmp 22), type := 4, pos := "help.go:170", after := #[{ on := 8, ground := Ground.data }], guard := none } : Oper)) (v := ?_) rfl (by kernel_rfl) (by kernel_rfl) (by kernel_rfl) (fun _ _ _ h => h) (Or.inl ⟨by rfl, ?_⟩) (by assumption) ?_; rotate_left 1; (focus (intro wS hSw; (try dsimp only at hSw); go_split_ands; go_simp; (try with_reducible rfl))); (try simp only [Act.put, List.setIfInBounds_toArray, List.set_cons_zero, List.set_cons_succ]))
      refine wpAnyH_done (by kernel_rfl) ?_ _
      go_wp2
      go_roundw
      case rel => exact ⟨i + 1, by go_num, by omega, Hid.mk' (HW.out.trans (hHeld5.mono HW.out.size))⟩
      case measure => simp [intOf]; omega
    · have hI : ¬ ((i : Int) < (n : Int)) := by omega
      have HI : Hid (ApI W n T f 0 (.slice none 0 0) wr) := ⟨.of HW.out, fun j hj => absurd hj (Nat.not_lt_zero _), World.ownsRow_nil _ _ _ _, fun _ => rfl⟩
      clear HI0 HW
      go_wp2
      go_loopw [5, 7] (fun l x wr => ∃ (i : Nat), x = .int .i64 (i : Int) ∧ i ≤ n ∧ Hid (ApI W n T f i l wr)) (fun _ x _ => n - (intOf x).toNat)
      case atStart => exact ⟨0, rfl, by omega, HI⟩
      case round => as_aux_lemma =>
        clear HI hI hi hin
        obtain ⟨i, rfl, hi, HI⟩ := hrel
        by_cases hin : i < n
        · have hI : ((i : Int) < (n : Int)) := by omega
          obtain ⟨ga, rfl, na, ka⟩ := HA.out (by omega)
          obtain ⟨gb, rfl, nb, kb⟩ := HB.out (by omega)
          obtain ⟨PA, hPA⟩ : ∃ PA, Pd (T i).k (T i).c = PA := ⟨_, rfl⟩
          obtain ⟨PB, hPB⟩ : ∃ PB, Pd (T i).k (wc i) = PB := ⟨_, rfl⟩
          have hga : ga < W.heap.size := cell_lt (ka i hin 0 _ (show (Pd (T i).k (T i).c).toList[0]? = some (.int .i64 (T i).k) from rfl))
          have hgb : gb < W.heap.size := cell_lt (kb i hin 0 _ (show (Pd (T i).k (wc i)).toList[0]? = some (.int .i64 (T i).k) from rfl))
          have hra0 := PL.on ka (HI.out.kf.block ga hga (fun ⟨j, hj, e⟩ => na ⟨j, by omega, e⟩)) i hin
          have hrb0 := PL.on kb (HI.out.kf.block gb hgb (fun ⟨j, hj, e⟩ => nb ⟨j, by omega, e⟩)) i hin
          have hra : Hid (∀ w', Below wr.heap.size wr w' → w'.rangeAt ga (i * 19) PA.toList) := fun w' hb j v hv => by
            rw [← hPA] at hv
            have h1 := hra0 j v hv
            exact (hb.cell (cell_lt h1)).trans h1
          have hrb : Hid (∀ w', Below wr.heap.size wr w' → w'.rangeAt gb (i * 19) PB.toList) := fun w' hb j v hv => by
            rw [← hPB] at hv
            have h1 := hrb0 j v hv
            exact (hb.cell (cell_lt h1)).trans h1
          have hox : OXF (T i).F 0 wr (T i).c (T i).D := (HH.out.ox i hin).keepF fun b h1 h2 => HI.out.kf.block b h1 (fun ⟨j, hj, e⟩ => HH.out.apt i j hin (by omega) (by omega) b h2 e)
          have hwo : OXF G 0 wr (wc i) (T i).D := (HH.out.wo i hin).keepF fun b h1 h2 => HI.out.kf.block b h1 (fun ⟨j, hj, e⟩ => HH.out.far j (by omega) b e h2)
          have HOX : Hid (OXF (T i).F 0 wr (T i).c (T i).D) := hox
          have hcall : Hid (∀ w', Below wr.heap.size wr w' → Calls Tryd.prog 7 #[.agg PA, .agg PB] w' fun e w2 => e = .returned (.bool true) ∧ Below w'.heap.size w' w2) := fun w' hb => by
            rw [← hPA, ← hPB]
            exact pdu_same w' _ _ _ _ (HH.out.same i hin) (HH.out.gd i hin).1 (hox.toOX.rx.on hb) (hwo.toOX.rx.on hb)
          have hmark : Hid (∀ w', Below wr.heap.size wr w' → Calls Tryd.prog 23 #[.agg PA, .string ⟨#[115, 112, 111, 105, 108, 116]⟩] w' (MarkP (T i).F 0 w' (T i).c (T i).D)) := fun w' hb => by
            rw [← hPA]
            exact mark_any w' _ _ _ _ _ 0 (hox.keepF fun b h1 _ => hb.block b h1).toOX (HH.out.gd i hin).2 (hox.keepF fun b h1 _ => hb.block b h1).ft (Nat.zero_le _)
          have HG : Hid (ga < W.heap.size ∧ ¬ (T i).F ga) := ⟨hga, fun e => na ⟨i, hin, e⟩⟩
          have HPA : Hid (Pd (T i).k (T i).c = PA) := hPA
          have hsA : (Tryd.prog.info? 33).map (·.size) = some PA.toList.length := by rw [← hPA]; unfold Pd; kernel_rfl
          have hsB : (Tryd.prog.info? 33).map (·.size) = some PB.toList.length := by rw [← hPB]; unfold Pd; kernel_rfl
          have hst : Below wr.heap.size wr wr.drew := (Below.refl _ _).drew
          clear ka kb hra0 hrb0 hPA hPB hox hwo hga hgb na nb
          go_wp2
          refine wp_region_held_drew (S := fun w' => Below wr.heap.size wr w') (by kernel_rfl) hst (fun hHeld => ?_)
          (refine wpAnyH_take (i := 0) (oi := ({ dst := some 30, op := Op.move (Operand.tmp 0), type := 48, pos := "help.go:175", after := #[], guard := none } : Oper)) (v := ?_) rfl (by kernel_rfl) (by kernel_rfl) (by kernel_rfl) (fun _ _ _ h => h) (Or.inl ⟨by rfl, ?_⟩) (by assumption) ?_; rotate_left 1; (focus (intro wS hSw; (try dsimp only at hSw); go_split_ands; go_simp; (try with_reducible rfl))); (try simp only [Act.put, List.setIfInBounds_toArray, List.set_cons_zero, List.set_cons_succ]))
          (refine wpAnyH_take (i := 1) (oi := ({ dst := some 31, op := Op.move (Operand.tmp 7), type := 3, pos := "help.go:175", after := #[], guard := none } : Oper)) (v := ?_) rfl (by kernel_rfl) (by kernel_rfl) (by kernel_rfl) (fun _ _ _ h => h) (Or.inl ⟨by rfl, ?_⟩) (by assumption) ?_; rotate_left 1; (focus (intro wS hSw; (try dsimp only at hSw); go_split_ands; go_simp; (try with_reducible rfl))); (try simp only [Act.put, List.setIfInBounds_toArray, List.set_cons_zero, List.set_cons_succ]))
          (refine wpAnyH_take (i := 2) (oi := ({ dst := some 32, op := Op.indexAddr 48 (Operand.tmp 30) (Operand.tmp 31), type := 0, pos := "help.go:175", after := #[{ on := 0, ground := Ground.data }, { on := 1, ground := Ground.data }], guard := none } : Oper)) (v := ?_) rfl (by kernel_rfl) (by kernel_rfl) (by kernel_rfl) (fun _ _ _ h => h) (Or.inl ⟨by rfl, ?_⟩) (by assumption) ?_; rotate_left 1; (focus (intro wS hSw; (try dsimp only at hSw); go_split_ands; go_simp; (try with_reducible rfl))); (try simp only [Act.put, List.setIfInBounds_toArray, List.set_cons_zero, List.set_cons_succ]))
          refine wpAnyH_take (i := 3) (oi := ({ dst := some 33, op := Op.load 33 (Operand.tmp 32), type := 33, pos := "help.go:175", after := #[{ on := 2, ground := Ground.data }], guard := none } : Oper)) (v := .agg PA) rfl (by kernel_rfl) (by kernel_rfl) (by kernel_rfl) (fun _ _ _ h => h) (yieldsIf_load_mid (by rfl) 33 (.tmp 32) rfl ga (i * 19) rfl PA.toList _ (fun w h => hra.out w h) hu rfl hsA) hHeld ?_
          try simp only [Act.put, List.setIfInBounds_toArray, List.set_cons_zero, List.set_cons_succ]
          (refine wpAnyH_take (i := 4) (oi := ({ dst := some 34, op := Op.move (Operand.tmp 1), type := 48, pos := "help.go:175", after := #[], guard := none } : Oper)) (v := ?_) rfl (by kernel_rfl) (by kernel_rfl) (by kernel_rfl) (fun _ _ _ h => h) (Or.inl ⟨by rfl, ?_⟩) (by assumption) ?_; rotate_left 1; (focus (intro wS hSw; (try dsimp only at hSw); go_split_ands; go_simp; (try with_reducible rfl))); (try simp only [Act.put, List.setIfInBounds_toArray, List.set_cons_zero, List.set_cons_succ]))
          (refine wpAnyH_take (i := 5) (oi := ({ dst := some 35, op := Op.move (Operand.tmp 7), type := 3, pos := "help.go:175", after := #[], guard := none } : Oper)) (v := ?_) rfl (by kernel_rfl) (by kernel_rfl) (by kernel_rfl) (fun _ _ _ h => h) (Or.inl ⟨by rfl, ?_⟩) (by assumption) ?_; rotate_left 1; (focus (intro wS hSw; (try dsimp only at hSw); go_split_ands; go_simp; (try with_reducible rfl))); (try simp only [Act.put, List.setIfInBounds_toArray, List.set_cons_zero, List.set_cons_succ]))
          (refine wpAnyH_take (i := 6) (oi := ({ dst := some 36, op := Op.indexAddr 48 (Operand.tmp 34) (Operand.tmp 35), type := 0, pos := "help.go:175", after := #[{ on := 4, ground := Ground.data }, { on := 5, ground := Ground.data }], guard := none } : Oper)) (v := ?_) rfl (by kernel_rfl) (by kernel_rfl) (by kernel_rfl) (fun _ _ _ h => h) (Or.inl ⟨by rfl, ?_⟩) (by assumption) ?_; rotate_left 1; (focus (intro wS hSw; (try dsimp only at hSw); go_split_ands; go_simp; (try with_reducible rfl))); (try simp only [Act.put, List.setIfInBounds_toArray, List.set_cons_zero, List.set_cons_succ]))
          refine wpAnyH_take (i := 7) (oi := ({ dst := some 37, op := Op.load 33 (Operand.tmp 36), type := 33, pos := "help.go:175", after := #[{ on := 6, ground := Ground.data }], guard := none } : Oper)) (v := .agg PB) rfl (by kernel_rfl) (by kernel_rfl) (by kernel_rfl) (fun _ _ _ h => h) (yieldsIf_load_mid (by rfl) 33 (.tmp 36) rfl gb (i * 19) rfl PB.toList _ (fun w h => hrb.out w h) hu rfl hsB) hHeld ?_
          try simp only [Act.put, List.setIfInBounds_toArray, List.set_cons_zero, List.set_cons_succ]
          refine wpAnyH_ready (rs := [8]) (by kernel_rfl) (by simp) ?_
          refine AllReadyH.cons (o := ({ dst := some 38, op := Op.call { callee := Callee.value (Operand.func 7), args := #[Operand.tmp 33, Operand.tmp 37], argTypes := #[33, 33] }, type := 4, pos := "help.go:175", after := #[{ on := 3, ground := Ground.data }, { on := 7, ground := Ground.data }], guard := none } : Oper)) rfl (fun K hK => ?_) AllReadyH.nil
          go_simp
          go_at_call 7
          refine (hcall.out _ hHeld).mono ?_
          rintro xx W5 ⟨rfl, hb5⟩
          try go_wp2_with (fail)
          have hHeld5 := hHeld.trans (hb5.mono hHeld.size)
          refine hK.out _ _ hHeld5 (fun hHeld => ?_)
          clear hK K
          try simp only [Act.put, List.setIfInBounds_toArray, List.set_cons_zero, List.set_cons_succ]
          (refine wpAnyH_take (i := 9) (oi := ({ dst := some 39, op := Op.unOp UnOp.not 4 (Operand.tmp 38), type := 4, pos := "help.go:175", after := #[{ on := 8, ground := Ground.data }], guard := none } : Oper)) (v := ?_) rfl (by kernel_rfl) (by kernel_rfl) (by kernel_rfl) (fun _ _ _ h => h) (Or.inl ⟨by rfl, ?_⟩) (by assumption) ?_; rotate_left 1; (focus (intro wS hSw; (try dsimp only at hSw); go_split_ands; go_simp; (try with_reducible rfl))); (try simp only [Act.put, List.setIfInBounds_toArray, List.set_cons_zero, List.set_cons_succ]))
          refine wpAnyH_done (by kernel_rfl) ?_ _
          have hr5 := hra.out W5 hHeld5
          go_wp2_with (first | (refine wpList_load_mid rfl 33 (.tmp 42) rfl ga (i * 19) rfl PA.toList _ hr5 hu rfl hsA ?_) | (go_at_call 23; refine (hmark.out _ hHeld5).mono ?_; refine Fr.Stop.mk ?_))
          rintro x W6 ⟨rfl, hk6, hby6⟩
          have hr6 : W6.rangeAt ga (i * 19) PA.toList := fun j v hv => (World.cell?_of_block (hk6.block ga (by have := HI.out.kf.size; have := hHeld5.size; have := HG.out.1; omega) HG.out.2)).trans (hr5 j v hv)
          have hBY5 : BYF (T i).F 0 W5 (T i).c (T i).D (fun q => (f i q).1) (fun q => (f i q).2) := (Hf.out i hin).keepF fun b h1 h2 => (hHeld5.block b (by have := HI.out.kf.size; omega)).trans (HI.out.kf.block b h1 (fun ⟨j, hj, e⟩ => HH.out.apt i j hin (by omega) (by omega) b h2 e))
          have hBY6 : BYF (T i).F 0 W6 (T i).c (T i).D (fun q => (f i q).1) (fun q => (f i q).2) := ⟨hby6 _ _ hBY5.toBY, hBY5.g17, hBY5.g13, hBY5.gu⟩
          have hl6 : W6.ownsRow W.heap.size 55 1 u5 (bls (NT n T) f i).length ((bls (NT n T) f i).map (·.1)) := owns_same HI.out.ow fun b e => by
            have h1 := HI.out.ow.lt b e
            have := hHeld5.size
            exact (hk6.block b (by omega) (fun e2 => by have := HH.out.lt i hin b e2; omega)).trans (hHeld5.block b h1.2)
          have hlen := bls_len (f := f) (nt_le HH.out) i
          have hbi := bytesIn_any W6 (T i).k (T i).c (T i).D _ _ (T i).F W.heap.size _ _ _ hBY6 (HH.out.lt i hin) ⟨(HH.out.gd i hin).2.vl.1, (HH.out.gd i hin).2.ot.1⟩ (by obtain ⟨xs, h, -⟩ := HOX.out.val.1; exact owns_slice h) (by obtain ⟨xs, h, -⟩ := HOX.out.oth.1; exact owns_slice h) hl6 HI.out.nil (by omega) (by have := HI.out.kf.size; have := hHeld5.size; have := hk6.size; omega)
          rw [HPA.out] at hbi
          clear hBY5 hBY6 hl6 hlen
          have HK6 : Hid (KF (T i).F W5 W6 ∧ ∀ us cs, BY 0 W5 (T i).c (T i).D us cs → BY 0 W6 (T i).c (T i).D us cs) := ⟨hk6, hby6⟩
          clear hk6 hby6 hr5
          go_wp2_with (first | (refine wpList_load_mid rfl 33 (.tmp 48) rfl ga (i * 19) rfl PA.toList _ hr6 hu rfl hsA ?_) | (go_at_call 24; refine hbi.mono ?_; refine Fr.Stop.mk ?_))
          rintro x W7 ⟨l7, rfl, ho7, h07, hb7⟩
          have HI7 : Hid (ApI W n T f (i + 1) l7 W7) := ApI.step HH.out hin Hf.out HI.out hHeld5 HK6.out.1 HK6.out.2 hb7 ho7 h07
          clear ho7 h07 hb7 hr6 hbi
          go_wp2
          go_roundw
          case rel => exact ⟨i + 1, by go_num, by omega, HI7.out⟩
          case measure => simp [intOf]; omega
        · have hI : ¬ ((i : Int) < (n : Int)) := by omega
          obtain rfl : i = n := by omega
          have hfr := ApI.free HH.out hn HI.out
          go_wp2_with (go_at_call 22; refine hfr.mono ?_; refine Fr.Stop.mk ?_)
          rintro x W8 rfl hk8
          have HK8 : Hid (KF (fun b => ∃ j, j < i ∧ (T j).F b) W W8) := hk8
          clear hk8 hfr
          go_wp2
          go_ret
          exact ⟨rfl, HK8.out⟩
end Go.Proofs.YtnamkcfmbefkfaaDoor
