import Derived.Test.YtlfmihhnijlpiaaGreatDoorSm
/-
  DERIVED. The program's Join, whole.
-/
namespace Go.Proofs.YtlfmihhnijlpiaaGreatDoor.Sp
open Go Go.Proofs Go.RowKit
open Wk (cell_lt own_keep Stop)

/-- What a join refuses: the code and the place. -/
def jc (v : Int) (xs : List ByteArray) : Int × Int :=
  if okV v = false then (62, 0) else if Rp.mu (Rp.vn v) = false then (if 1 < xs.length then (66, 1) else (0, 0)) else if Rp.tx (Rp.vn v) = true then (if fiR hasS xs = -1 then 0 else 64, fiR hasS xs) else (if fiR (offU (Rp.un (Rp.vn v)).toNat) xs = -1 then 0 else 63, fiR (offU (Rp.un (Rp.vn v)).toNat) xs)
/-- The joined text. -/
def jt (v : Int) (xs : List ByteArray) : ByteArray :=
  if okV v = false then mty else if Rp.mu (Rp.vn v) = false then (if 1 < xs.length then mty else jnB xs mty) else if Rp.tx (Rp.vn v) = true then (if fiR hasS xs = -1 then jnB xs bsl else mty) else (if fiR (offU (Rp.un (Rp.vn v)).toNat) xs = -1 then jnB xs mty else mty)
/-- What is not too great. -/
structure Jz (xs : List ByteArray) : Prop where
  n : xs.length ≤ 9000000
  x : ∀ x ∈ xs, x.size ≤ 90000000
  b : (jnL xs bsl).length ≤ 90000000
  m : (jnL xs mty).length ≤ 90000000

theorem jn_end {B : Nat} {W w w2 : World} {o : Obj} (hb : Below B W w) (h : B ≤ w.heap.size) (h2 : Below (w.alloc o).heap.size (w.alloc o) w2) : Below B W w2 := (hb.alloc h o).trans (h2.mono (by rw [Wk.size_alloc]; omega))

set_option maxRecDepth 100000 in
set_option maxHeartbeats 8000000 in
theorem join_any (W : World) (v : Int) (y : Value) (xs : List ByteArray) (hz : Jz xs) (ha : TxAt W y xs) :
    Calls Tryz.prog 8 #[.int .i64 v, y] W fun e w' => ∃ x, e = .returned (.tuple #[.string (jt v xs), x]) ∧ Hid (PErr w' x (jc v xs).1 (jc v xs).2 ∧ Below W.heap.size W w') := by
  obtain ⟨n, p, u, m, t, c, q, l, cf, ff, ⟨hcf, hff⟩, hv, c12⟩ := values_any W v
  obtain ⟨B, hB⟩ : ∃ B, W.heap.size = B := ⟨_, rfl⟩
  have HA : Hid (∀ w, Below W.heap.size W w → TxAt w y xs) := fun w hb => ha.on hb
  have hS : ∀ J C P, jt v xs = J → jc v xs = (C, P) → Calls Tryz.prog 8 #[.int .i64 v, y] W (fun e w' => ∃ x, e = .returned (.tuple #[.string J, x]) ∧ Hid (PErr w' x C P ∧ Below B W w')) → Calls Tryz.prog 8 #[.int .i64 v, y] W fun e w' => ∃ x, e = .returned (.tuple #[.string (jt v xs), x]) ∧ Hid (PErr w' x (jc v xs).1 (jc v xs).2 ∧ Below W.heap.size W w') := fun J C P h h1 h2 => by rw [h, h1, hB]; exact h2
  rw [hB] at c12
  obtain ⟨a, cap, hy, -, -⟩ := ha.form
  have hnx := hz.n
  by_cases hok : okV v = false
  · refine hS mty 62 0 (by unfold jt; rw [if_pos hok]) (by unfold jc; rw [if_pos hok]) ?_
    rw [hok] at c12
    have c17 := fun w => refuse_any w 62 0 (by decide)
    subst hy
    generalize xs.length = nx at *
    clear hS hv hok HA ha
    rcases hcf with rfl | ⟨j, rfl⟩ <;> rcases hff with rfl | ⟨j2, rfl⟩
    all_goals go_enter Tryz.func8, Tryz.ntmps8
    all_goals go_wp2_with (first | (go_at_call 12; refine c12.mono ?_; rintro e w1 ⟨rfl, hb1⟩) | (go_at_call 17; refine (c17 _).mono ?_; rintro e w2 ⟨x, rfl, hb2⟩))
    all_goals exact bodyPost_ret (v := .tuple #[.string mty, x]) (by simp only [results, Tryz.results8]; simp [go_sem, mty]) rfl ⟨_, rfl, hb2.out.1, jn_end hb1.out (by rw [← hB]; exact hb1.out.size) hb2.out.2⟩
  · replace hok : okV v = true := by simpa using hok
    obtain ⟨hu, ht, hq⟩ := hv hok
    have hokn : ¬ okV v = false := by rw [hok]; simp
    rw [hok] at c12
    cases q with
    | false =>
      by_cases h1 : 1 < xs.length
      · refine hS mty 66 1 (by unfold jt; rw [if_neg hokn, if_pos hq.symm, if_pos h1]) (by unfold jc; rw [if_neg hokn, if_pos hq.symm, if_pos h1]) ?_
        have c17 := fun w => refuse_any w 66 1 (by decide)
        subst hy
        generalize xs.length = nx at *
        have hI : (1 : Int) < (nx : Int) := by omega
        clear hS hv hok HA ha hu ht hq hokn
        rcases hcf with rfl | ⟨j, rfl⟩ <;> rcases hff with rfl | ⟨j2, rfl⟩
        all_goals go_enter Tryz.func8, Tryz.ntmps8
        all_goals go_wp2_with (first | (go_at_call 12; refine c12.mono ?_; rintro e w1 ⟨rfl, hb1⟩) | (go_at_call 17; refine (c17 _).mono ?_; rintro e w2 ⟨x, rfl, hb2⟩))
        all_goals exact bodyPost_ret (v := .tuple #[.string mty, x]) (by simp only [results, Tryz.results8]; simp [go_sem, mty]) rfl ⟨_, rfl, hb2.out.1, jn_end hb1.out (by rw [← hB]; exact hb1.out.size) hb2.out.2⟩
      · refine hS (jnB xs mty) 0 0 (by unfold jt; rw [if_neg hokn, if_pos hq.symm, if_neg h1]) (by unfold jc; rw [if_neg hokn, if_pos hq.symm, if_neg h1]) ?_
        have c18 : ∀ w, Hid (Below B W w) → ∀ o, Calls Tryz.prog 18 #[y, .string { data := #[] }] (w.alloc o) fun e w' => e = .returned (.string (jnB xs mty)) ∧ Hid (Below (w.alloc o).heap.size (w.alloc o) w') := fun w hb o => join_str _ y xs mty (HA.out _ (by rw [hB]; exact hb.out.alloc (by rw [← hB]; exact hb.out.size) o)) hz.n hz.m
        generalize jnB xs mty = J at *
        subst hy
        generalize xs.length = nx at *
        have hI : ¬ (1 : Int) < (nx : Int) := by omega
        clear hS hv hok HA ha hu ht hq hokn
        rcases hcf with rfl | ⟨j, rfl⟩ <;> rcases hff with rfl | ⟨j2, rfl⟩
        all_goals go_enter Tryz.func8, Tryz.ntmps8
        all_goals go_wp2_with (first | (go_at_call 12; refine c12.mono ?_; rintro e w1 ⟨rfl, hb1⟩) | (go_at_call 18; refine (c18 _ hb1 _).mono ?_; rintro e w2 ⟨rfl, hb2⟩))
        all_goals exact bodyPost_ret (v := .tuple #[.string J, .nilIface]) (by simp only [results, Tryz.results8]; simp [go_sem]) rfl ⟨_, rfl, PErr.ok _ _, jn_end hb1.out (by rw [← hB]; exact hb1.out.size) hb2.out⟩
    | true =>
      have hqn : ¬ Rp.mu (Rp.vn v) = false := by rw [← hq]; simp
      cases t with
      | true =>
        refine hS (if fiR hasS xs = -1 then jnB xs bsl else mty) (if fiR hasS xs = -1 then 0 else 64) (fiR hasS xs) (by unfold jt; rw [if_neg hokn, if_neg hqn, if_pos ht.symm]) (by unfold jc; rw [if_neg hokn, if_neg hqn, if_pos ht.symm]) ?_
        have c19 : ∀ w, Hid (Below B W w) → ∀ o, Calls Tryz.prog 19 #[y] (w.alloc o) fun e w' => ∃ x, e = .returned (.tuple #[.string (if fiR hasS xs = -1 then jnB xs bsl else mty), x]) ∧ Hid (PErr w' x (if fiR hasS xs = -1 then 0 else 64) (fiR hasS xs) ∧ Below (w.alloc o).heap.size (w.alloc o) w') := fun w hb o => jtexts_any _ y xs hz.n hz.b (HA.out _ (by rw [hB]; exact hb.out.alloc (by rw [← hB]; exact hb.out.size) o))
        generalize (if fiR hasS xs = -1 then jnB xs bsl else mty) = J at *
        generalize (if fiR hasS xs = -1 then (0 : Int) else 64) = C at *
        generalize fiR hasS xs = P at *
        subst hy
        generalize xs.length = nx at *
        clear hS hv hok HA ha hu ht hq hokn hqn
        rcases hcf with rfl | ⟨j, rfl⟩ <;> rcases hff with rfl | ⟨j2, rfl⟩
        all_goals go_enter Tryz.func8, Tryz.ntmps8
        all_goals go_wp2_with (first | (go_at_call 12; refine c12.mono ?_; rintro e w1 ⟨rfl, hb1⟩) | (go_at_call 19; refine (c19 _ hb1 _).mono ?_; rintro e w2 ⟨x, rfl, hb2⟩))
        all_goals exact bodyPost_ret (v := .tuple #[.string J, x]) (by simp only [results, Tryz.results8]; simp [go_sem]) rfl ⟨_, rfl, hb2.out.1, jn_end hb1.out (by rw [← hB]; exact hb1.out.size) hb2.out.2⟩
      | false =>
        have htn : ¬ Rp.tx (Rp.vn v) = true := by rw [← ht]; simp
        have hun := unit_ok ⟨Rp.vn v, Rp.vn_lt v⟩ hq.symm ht.symm
        simp only at hun
        rw [← hu] at hun
        obtain ⟨k, hk⟩ : ∃ k : Nat, u = (k : Int) := ⟨u.toNat, by omega⟩
        have hkt : (Rp.un (Rp.vn v)).toNat = k := by rw [← hu, hk]; rfl
        refine hS (if fiR (offU k) xs = -1 then jnB xs mty else mty) (if fiR (offU k) xs = -1 then 0 else 63) (fiR (offU k) xs) (by unfold jt; rw [if_neg hokn, if_neg hqn, if_neg htn, hkt]) (by unfold jc; rw [if_neg hokn, if_neg hqn, if_neg htn, hkt]) ?_
        subst hk
        have c20 : ∀ w, Hid (Below B W w) → ∀ o, Calls Tryz.prog 20 #[y, .int .i64 (k : Int)] (w.alloc o) fun e w' => ∃ x, e = .returned (.tuple #[.string (if fiR (offU k) xs = -1 then jnB xs mty else mty), x]) ∧ Hid (PErr w' x (if fiR (offU k) xs = -1 then 0 else 63) (fiR (offU k) xs) ∧ Below (w.alloc o).heap.size (w.alloc o) w') := fun w hb o => junits_any _ y xs k (by omega) hz.x hz.n hz.m (HA.out _ (by rw [hB]; exact hb.out.alloc (by rw [← hB]; exact hb.out.size) o))
        generalize (if fiR (offU k) xs = -1 then jnB xs mty else mty) = J at *
        generalize (if fiR (offU k) xs = -1 then (0 : Int) else 63) = C at *
        generalize fiR (offU k) xs = P at *
        subst hy
        generalize xs.length = nx at *
        clear hS hv hok HA ha hu ht hq hokn hqn htn hkt hun
        rcases hcf with rfl | ⟨j, rfl⟩ <;> rcases hff with rfl | ⟨j2, rfl⟩
        all_goals go_enter Tryz.func8, Tryz.ntmps8
        all_goals go_wp2_with (first | (go_at_call 12; refine c12.mono ?_; rintro e w1 ⟨rfl, hb1⟩) | (go_at_call 20; refine (c20 _ hb1 _).mono ?_; rintro e w2 ⟨x, rfl, hb2⟩))
        all_goals exact bodyPost_ret (v := .tuple #[.string J, x]) (by simp only [results, Tryz.results8]; simp [go_sem]) rfl ⟨_, rfl, hb2.out.1, jn_end hb1.out (by rw [← hB]; exact hb1.out.size) hb2.out.2⟩
end Go.Proofs.YtlfmihhnijlpiaaGreatDoor.Sp
