
import Derived.Test.YtnheeenkdjmhoaaDoorH
/-
  DERIVED. Take, the other labels.
-/
namespace Go.Proofs.YtnheeenkdjmhoaaDoor
open Go Go.Proofs Go.RowKit Go.Deep

theorem lk11 (tx : List Nat) (lg : Bool) : lk 11 tx lg = (2, [], false) := rfl
theorem lk28 (tx : List Nat) (lg : Bool) : lk 28 tx lg = (3, tx, lg) := rfl
theorem lkn {x : Nat} (h1 : x ≠ 11) (h2 : x ≠ 28) (tx : List Nat) (lg : Bool) : lk x tx lg = (2, kpT tx x, kpL tx lg) := by simp [lk, h1, h2]

theorem jumps_mono {J J' : Nat → Act → World → Prop} {Q : Exit → Act → World → Prop} (h : ∀ l a w, J l a w → J' l a w) : ∀ e a w, jumps J Q e a w → jumps J' Q e a w := by
  intro e a w hj
  cases e with
  | goto l => exact h l a w hj
  | normal => exact hj
  | exit id => exact hj
  | ret => exact hj
  | panic ch => exact hj
  | outgrown => exact hj

theorem fall {w0 : World} {q : Nat} {u0 bv : Value} {bs : List Nat} {R : FSt × Fs} {Q : Exit → Act → World → Prop} {X c : Code} {m : Nat} {a : Act} {W : World} (l : Nat) (hL : ∀ m a W, JJ w0 q u0 bv bs R l m a W → ∃ rest, findLabel c l = some (Code.seq .skip rest) ∧ rest.wp Tryd.prog (jumps (fun l' a' w' => ∃ m', m' < m ∧ JJ w0 q u0 bv bs R l' m' a' w') Q) a W)
    (hX : findLabel c l = some (Code.seq .skip X)) (hJ : ∃ m', m' < m ∧ JJ w0 q u0 bv bs R l m' a W) : X.wp Tryd.prog (jumps (fun l' a' w' => ∃ m', m' < m ∧ JJ w0 q u0 bv bs R l' m' a' w') Q) a W := by
  obtain ⟨m', hm, hJ⟩ := hJ
  obtain ⟨rest, hr, hw⟩ := hL m' a W hJ
  obtain rfl : X = rest := by
    have := Option.some.inj (hX.symm.trans hr)
    injection this
  exact Code.wp_mono (jumps_mono fun l a w ⟨m2, h2, hj⟩ => ⟨m2, Nat.lt_trans h2 hm, hj⟩) hw

set_option maxRecDepth 100000 in
set_option maxHeartbeats 4000000 in
theorem lab4 (r0 c : Code) (hc : Tryd.f8.body = some (.seq r0 (.scope c))) (w0 : World) (q : Nat) (u0 bv : Value) (bs : List Nat) (R : FSt × Fs) (hV : V w0 bv bs) (hA : Apart w0 q u0 bv) (hn : bs.length ≤ 16777216) (m : Nat) (a : Act) (W : World) (h : JJ w0 q u0 bv bs R 4 m a W) :
    ∃ rest, findLabel c 4 = some (Code.seq .skip rest) ∧ rest.wp Tryd.prog (jumps (fun l' a' w' => ∃ m', m' < m ∧ JJ w0 q u0 bv bs R l' m' a' w') (bodyPost Tryd.prog Tryd.f8 (QQ w0 q u0 bs R))) a W := by
  have hc' := hc
  unfold Tryd.f8 at hc
  dsimp only at hc
  injection hc with hc
  injection hc with hc0 hc
  clear hc0
  injection hc with hc
  subst hc
  refine ⟨_, rfl, ?_⟩
  obtain ⟨k, told, u, t, st, tx, lg, fs, rfl, hI, hk, hf, hR, rfl⟩ := h
  obtain ⟨hk0, hR⟩ : 0 < k ∧ tk (bs.drop k) (lk (bs.getD (k - 1) 0) tx lg) fs = R := hR
  have HT : Hid (TI w0 q u0 W u told st tx lg fs) := hI
  have HV : Hid (V W bv bs) := hV.ch HT.out.ch hA
  obtain ⟨ao, cap, rfl, hform, hbytes⟩ := HV.out.form
  have HR : Hid (tk (bs.drop k) (lk (bs.getD (k - 1) 0) tx lg) fs = R) := hR
  have HB : Hid (∀ x ∈ bs, x < 256) := hbytes
  clear hI hR hV hbytes
  obtain ⟨j, rfl⟩ : ∃ j, k = j + 1 := ⟨k - 1, by omega⟩
  rw [Nat.add_sub_cancel] at HR
  unfold fr
  have hj : j < bs.length := by omega
  obtain ⟨b, off, rfl, hat⟩ := hform (by omega)
  obtain ⟨x, hx⟩ : ∃ x, bs.getD j 0 = x := ⟨_, rfl⟩
  have hcell := hat.1 j hj
  rw [hx] at hcell HR
  have hx8 : x < 256 := by rw [← hx, List.getD_eq_getElem?_getD, List.getElem?_eq_getElem hj]; exact HB.out _ (List.getElem_mem hj)
  clear hform hat hc'
  have ej : ((j + 1 : Nat) : Int) = (j : Int) + 1 := by omega
  rw [ej]
  by_cases h11 : x = 11
  · subst h11
    go_wp2
    go_step3
    refine JJ.mk (k := j + 1) fr_ex (by omega) HT.out (by omega) (by omega) ?_ (by simp only [rk]; omega)
    show tk (bs.drop (j + 1)) (2, [], false) fs = R
    rw [← HR.out, lk11]
  · have e1 : ((x : Int) == 11) = false := by simp; omega
    by_cases h28 : x = 28
    · subst h28
      go_wp2
      go_step3
      refine JJ.mk (k := j + 1) fr_ex (by omega) HT.out (by omega) (by omega) ?_ (by simp only [rk]; omega)
      show tk (bs.drop (j + 1)) (3, tx, lg) fs = R
      rw [← HR.out, lk28]
    · have e2 : ((x : Int) == 28) = false := by simp; omega
      have kk := keep_any HT.out.fr x hx8
      go_wp2_with (go_at_call 22; refine Stop.mk ?_)
      refine Stop.out (kk.mono ?_)
      rintro e W2 ⟨rfl, ⟨u', hf2, hu2⟩, hc2⟩
      have HT2 : Hid (TI w0 q u0 W2 u' told st (kpT tx x) (kpL tx lg) fs) := HT.out.step hf2 hc2 hu2
      clear hf2 hu2 hc2 kk hcell
      go_wp2
      go_step3
      refine JJ.mk (k := j + 1) fr_ex (by omega) HT2.out (by omega) (by omega) ?_ (by simp only [rk]; omega)
      show tk (bs.drop (j + 1)) (2, kpT tx x, kpL tx lg) fs = R
      rw [← HR.out, lkn h11 h28]

set_option maxRecDepth 100000 in
set_option maxHeartbeats 4000000 in
theorem lab0 (r0 c : Code) (hc : Tryd.f8.body = some (.seq r0 (.scope c))) (w0 : World) (q : Nat) (u0 bv : Value) (bs : List Nat) (R : FSt × Fs) (hV : V w0 bv bs) (hA : Apart w0 q u0 bv) (hn : bs.length ≤ 16777216) (m : Nat) (a : Act) (W : World) (h : JJ w0 q u0 bv bs R 0 m a W) :
    ∃ rest, findLabel c 0 = some (Code.seq .skip rest) ∧ rest.wp Tryd.prog (jumps (fun l' a' w' => ∃ m', m' < m ∧ JJ w0 q u0 bv bs R l' m' a' w') (bodyPost Tryd.prog Tryd.f8 (QQ w0 q u0 bs R))) a W := by
  have hc' := hc
  unfold Tryd.f8 at hc
  dsimp only at hc
  injection hc with hc
  injection hc with hc0 hc
  clear hc0
  injection hc with hc
  subst hc
  refine ⟨_, rfl, ?_⟩
  obtain ⟨k, told, u, t, st, tx, lg, fs, rfl, hI, hk, hf, hR, rfl⟩ := h
  have hR : tk (bs.drop k) (2, tx, lg) fs = R := hR
  have HT : Hid (TI w0 q u0 (W.setCell ⟨q, 0, none⟩ (.int .i64 2)) u told 2 tx lg fs) := hI.st 2
  obtain ⟨ao, cap, rfl, hform, hbytes⟩ := hV.form
  obtain ⟨c0, c1, c2, cf⟩ := rowIs_cells hI.fr.row
  have HR : Hid (tk (bs.drop k) (2, tx, lg) fs = R) := hR
  have HL : Hid _ := lab4 r0 _ hc' w0 q u0 _ bs R hV hA hn
  clear hI hR hV hbytes hc' hA
  unfold fr
  by_cases hkn : k < bs.length
  · have e0 : ((k : Int) == (bs.length : Int)) = false := by simp; omega
    go_wp2
    go_step3
    rename_i K hK
    show K _ _
    refine hK _ _ ?_
    refine fall 4 HL.out rfl ?_
    refine JJ.mk (k := k + 1) fr_ex (by omega) HT.out (by omega) (by omega) ⟨by omega, ?_⟩ (by simp only [rk]; omega)
    rw [← HR.out, tk_at hkn, Nat.add_sub_cancel, sp2, ot2, List.append_nil]
  · have hk' : k = bs.length := by omega
    subst hk'
    go_wp2
    rw [jumps_ret]
    go_ret
    exact ⟨told, u, 2, tx, lg, fs, rfl, HT.out, hf, by rw [← HR.out, tk_end (Nat.le_refl _)]⟩

set_option maxRecDepth 100000 in
set_option maxHeartbeats 4000000 in
theorem lab3 (r0 c : Code) (hc : Tryd.f8.body = some (.seq r0 (.scope c))) (w0 : World) (q : Nat) (u0 bv : Value) (bs : List Nat) (R : FSt × Fs) (hV : V w0 bv bs) (hA : Apart w0 q u0 bv) (hn : bs.length ≤ 16777216) (m : Nat) (a : Act) (W : World) (h : JJ w0 q u0 bv bs R 3 m a W) :
    ∃ rest, findLabel c 3 = some (Code.seq .skip rest) ∧ rest.wp Tryd.prog (jumps (fun l' a' w' => ∃ m', m' < m ∧ JJ w0 q u0 bv bs R l' m' a' w') (bodyPost Tryd.prog Tryd.f8 (QQ w0 q u0 bs R))) a W := by
  have hc' := hc
  unfold Tryd.f8 at hc
  dsimp only at hc
  injection hc with hc
  injection hc with hc0 hc
  clear hc0
  injection hc with hc
  subst hc
  refine ⟨_, rfl, ?_⟩
  obtain ⟨k, told, u, t, st, tx, lg, fs, rfl, hI, hk, hf, hR, rfl⟩ := h
  have hR : tk (bs.drop k) (2, [], false) fs = R := hR
  have HT : Hid (TI w0 q u0 W u told st tx lg fs) := hI
  have HR : Hid (tk (bs.drop k) (2, [], false) fs = R) := hR
  have HL : Hid _ := lab0 r0 _ hc' w0 q u0 _ bs R hV hA hn
  have kk := drop_any hI.fr 2
  clear hI hR hV hc' hA
  unfold fr
  go_wp2_with (go_at_call 21; refine Stop.mk ?_)
  refine Stop.out (kk.mono ?_)
  rintro e W2 ⟨rfl, hf2, hc2⟩
  have HT2 : Hid (TI w0 q u0 W2 (.slice none 0 0) told 2 [] false fs) := HT.out.drop hf2 hc2
  clear hf2 hc2 kk
  go_wp2
  go_step3
  rename_i K hK
  show K _ _
  refine hK _ _ ?_
  refine fall 0 HL.out rfl ?_
  exact JJ.mk (k := k) fr_ex rfl HT2.out hk hf HR.out (by simp only [rk]; omega)

set_option maxRecDepth 100000 in
set_option maxHeartbeats 4000000 in
theorem lab2 (r0 c : Code) (hc : Tryd.f8.body = some (.seq r0 (.scope c))) (w0 : World) (q : Nat) (u0 bv : Value) (bs : List Nat) (R : FSt × Fs) (hV : V w0 bv bs) (hA : Apart w0 q u0 bv) (hn : bs.length ≤ 16777216) (m : Nat) (a : Act) (W : World) (h : JJ w0 q u0 bv bs R 2 m a W) :
    ∃ rest, findLabel c 2 = some (Code.seq .skip rest) ∧ rest.wp Tryd.prog (jumps (fun l' a' w' => ∃ m', m' < m ∧ JJ w0 q u0 bv bs R l' m' a' w') (bodyPost Tryd.prog Tryd.f8 (QQ w0 q u0 bs R))) a W := by
  have hc' := hc
  unfold Tryd.f8 at hc
  dsimp only at hc
  injection hc with hc
  injection hc with hc0 hc
  clear hc0
  injection hc with hc
  subst hc
  refine ⟨_, rfl, ?_⟩
  obtain ⟨k, told, u, t, st, tx, lg, fs, rfl, hI, hk, hf, hR, rfl⟩ := h
  have hR : tk (bs.drop k) (1, [], false) fs = R := hR
  have HT : Hid (TI w0 q u0 W u told st tx lg fs) := hI
  have HR : Hid (tk (bs.drop k) (1, [], false) fs = R) := hR
  have HL : Hid _ := lab3 r0 _ hc' w0 q u0 _ bs R hV hA hn
  have HV0 : Hid (V w0 bv bs) := hV
  have HA0 : Hid (Apart w0 q u0 bv) := hA
  obtain ⟨ao, cap, rfl, _, _⟩ := hV.form
  have kk := drop_any hI.fr 1
  clear hI hR hV hc' hA
  unfold fr
  go_wp2_with (go_at_call 21; refine Stop.mk ?_)
  refine Stop.out (kk.mono ?_)
  rintro e W2 ⟨rfl, hf2, hc2⟩
  have HT2 : Hid (TI w0 q u0 W2 (.slice none 0 0) told 1 [] false fs) := HT.out.drop hf2 hc2
  clear hf2 hc2 kk HT
  by_cases hkn : k < bs.length
  · have e0 : ((k : Int) == (bs.length : Int)) = false := by simp; omega
    obtain ⟨ao', cap', he, hform, hbytes⟩ := (HV0.out.ch HT2.out.ch HA0.out).form
    cases he
    obtain ⟨b, off, rfl, hat⟩ := hform (by omega)
    obtain ⟨x, hx⟩ : ∃ x, bs.getD k 0 = x := ⟨_, rfl⟩
    have hcell := hat.1 k hkn
    rw [hx] at hcell
    clear hform hat hbytes
    by_cases h11 : x = 11
    · subst h11
      go_wp2
      go_step3
      rename_i K hK
      show K _ _
      refine hK _ _ ?_
      refine fall 3 HL.out rfl ?_
      refine JJ.mk (k := k + 1) fr_ex (by omega) HT2.out (by omega) (by omega) ?_ (by simp only [rk]; omega)
      show tk (bs.drop (k + 1)) (2, [], false) fs = R
      rw [← HR.out, tk_at hkn, hx, sp1y, ot1, List.append_nil]
    · have e1 : ((x : Int) != 11) = true := by simp; omega
      go_wp2
      go_step3
      refine JJ.mk (k := k + 1) fr_ex (by omega) HT2.out (by omega) (by omega) ?_ (by simp only [rk]; omega)
      show tk (bs.drop (k + 1)) (1, [], false) fs = R
      rw [← HR.out, tk_at hkn, hx, sp1n h11, ot1, List.append_nil]
  · have hk' : k = bs.length := by omega
    subst hk'
    go_wp2
    rw [jumps_ret]
    go_ret
    exact ⟨told, _, 1, [], false, fs, rfl, HT2.out, hf, by rw [← HR.out, tk_end (Nat.le_refl _)]⟩
end Go.Proofs.YtnheeenkdjmhoaaDoor
