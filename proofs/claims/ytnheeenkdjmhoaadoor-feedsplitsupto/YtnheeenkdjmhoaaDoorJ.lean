
import Derived.Test.YtnheeenkdjmhoaaDoorI
/-
  DERIVED. Take.
-/
namespace Go.Proofs.YtnheeenkdjmhoaaDoor
open Go Go.Proofs Go.RowKit Go.Deep

theorem skip_seq {P : Program} {Q : Exit → Act → World → Prop} {c : Code} {a : Act} {w : World} (h : c.wp P Q a w) : (Code.seq .skip c).wp P Q a w := by
  refine wp_seq (wp_skip ?_)
  exact h

theorem fall0 {w0 : World} {q : Nat} {u0 bv : Value} {bs : List Nat} {R : FSt × Fs} {Q : Exit → Act → World → Prop} {X c : Code} {a : Act} {W : World} (l : Nat) (hL : ∀ m a W, JJ w0 q u0 bv bs R l m a W → ∃ rest, findLabel c l = some (Code.seq .skip rest) ∧ rest.wp Tryd.prog (jumps (fun l' a' w' => ∃ m', m' < m ∧ JJ w0 q u0 bv bs R l' m' a' w') Q) a W)
    (hX : findLabel c l = some (Code.seq .skip X)) (hJ : ∃ m', JJ w0 q u0 bv bs R l m' a W) : X.wp Tryd.prog (jumps (fun l' a' w' => ∃ m', JJ w0 q u0 bv bs R l' m' a' w') Q) a W := by
  obtain ⟨m', hJ⟩ := hJ
  obtain ⟨rest, hr, hw⟩ := hL m' a W hJ
  obtain rfl : X = rest := by
    have := Option.some.inj (hX.symm.trans hr)
    injection this
  exact Code.wp_mono (jumps_mono fun l a w ⟨m2, _, hj⟩ => ⟨m2, hj⟩) hw

theorem pass7 (r0 c : Code) (hc : Tryd.f8.body = some (.seq r0 (.scope c))) (w0 : World) (q : Nat) (u0 bv : Value) (bs : List Nat) (R : FSt × Fs) (hV : V w0 bv bs) (hA : Apart w0 q u0 bv) (hn : bs.length ≤ 16777216) (l m : Nat) (a : Act) (W : World) (h : JJ w0 q u0 bv bs R l m a W) :
    ∃ rest, findLabel c l = some rest ∧ rest.wp Tryd.prog (jumps (fun l' a' w' => ∃ m', m' < m ∧ JJ w0 q u0 bv bs R l' m' a' w') (bodyPost Tryd.prog Tryd.f8 (QQ w0 q u0 bs R))) a W := by
  rcases (show l = 0 ∨ l = 1 ∨ l = 2 ∨ l = 3 ∨ l = 4 ∨ 5 ≤ l by omega) with rfl | rfl | rfl | rfl | rfl | h5
  · obtain ⟨rest, hf, hw⟩ := lab0 r0 c hc w0 q u0 bv bs R hV hA hn m a W h
    exact ⟨_, hf, skip_seq hw⟩
  · obtain ⟨rest, hf, hw⟩ := lab1 r0 c hc w0 q u0 bv bs R hV hA hn m a W h
    exact ⟨_, hf, skip_seq hw⟩
  · obtain ⟨rest, hf, hw⟩ := lab2 r0 c hc w0 q u0 bv bs R hV hA hn m a W h
    exact ⟨_, hf, skip_seq hw⟩
  · obtain ⟨rest, hf, hw⟩ := lab3 r0 c hc w0 q u0 bv bs R hV hA hn m a W h
    exact ⟨_, hf, skip_seq hw⟩
  · obtain ⟨rest, hf, hw⟩ := lab4 r0 c hc w0 q u0 bv bs R hV hA hn m a W h
    exact ⟨_, hf, skip_seq hw⟩
  · obtain ⟨k, told, u, t, st, tx, lg, fs, _, _, _, _, hR, _⟩ := h
    exfalso
    unfold JR at hR
    split at hR <;> first | omega | exact hR

set_option maxRecDepth 100000 in
set_option maxHeartbeats 4000000 in
theorem take_any {w0 : World} {q : Nat} {u0 bv : Value} {s : Nat} {tx : List Nat} {lg : Bool} {bs : List Nat} (hF : FR w0 q u0 (s : Int) tx lg) (hs : (s = 1 ∧ tx = [] ∧ lg = false) ∨ s = 2 ∨ s = 3) (hV : V w0 bv bs) (hA : Apart w0 q u0 bv) (hn : bs.length ≤ 16777216) :
    Calls Tryd.prog 8 #[.pointer (some ⟨q, 0, none⟩), bv] w0 (QQ w0 q u0 bs (tk bs (s, tx, lg) [])) := by
  have HI : Hid (TI w0 q u0 w0 u0 (.slice none 0 0) (s : Int) tx lg []) := ⟨hF, Ch.refl _ _, .inl rfl, World.ownsRow_nil _ _ _ _⟩
  obtain ⟨c0, c1, c2, cf⟩ := rowIs_cells hF.row
  obtain ⟨R, hR⟩ : ∃ R, tk bs (s, tx, lg) [] = R := ⟨_, rfl⟩
  rw [hR]
  go_enter Tryd.func8, Tryd.ntmps8
  go_wp2
  refine wp_scope_many (JJ w0 q u0 bv bs R) ?_ (pass7 _ _ (by unfold Tryd.f8; rfl) w0 q u0 bv bs R hV hA hn)
  have HL : Hid _ := fun r0 c (hc : Tryd.f8.body = some (.seq r0 (.scope c))) => lab2 r0 c hc w0 q u0 bv bs R hV hA hn
  clear hV hA
  rcases hs with ⟨rfl, rfl, rfl⟩ | rfl | rfl
  · go_wp2
    go_step3
    rename_i K hK
    show K _ _
    refine hK _ _ ?_
    refine fall0 2 (HL.out _ _ (by unfold Tryd.f8; rfl)) rfl ?_
    obtain ⟨m, _, hJ⟩ := JJ.mk (m := 5 * (bs.length - 0) + rk 2 + 1) (k := 0) (l := 2) (bv := bv) (bs := bs) (R := R) fr_ex rfl HI.out (Nat.zero_le _) (by simp) hR (by omega)
    exact ⟨m, hJ⟩
  · go_wp2
    go_step3
    obtain ⟨m, _, hJ⟩ := JJ.mk (m := 5 * (bs.length - 0) + rk 0 + 1) (k := 0) (l := 0) (bv := bv) (bs := bs) (R := R) fr_ex rfl HI.out (Nat.zero_le _) (by simp) hR (by omega)
    exact ⟨m, hJ⟩
  · go_wp2
    go_step3
    obtain ⟨m, _, hJ⟩ := JJ.mk (m := 5 * (bs.length - 0) + rk 1 + 1) (k := 0) (l := 1) (bv := bv) (bs := bs) (R := R) fr_ex rfl HI.out (Nat.zero_le _) (by simp) hR (by omega)
    exact ⟨m, hJ⟩
end Go.Proofs.YtnheeenkdjmhoaaDoor
