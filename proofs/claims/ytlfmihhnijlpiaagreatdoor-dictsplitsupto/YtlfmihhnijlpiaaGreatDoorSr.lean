import Derived.Test.YtlfmihhnijlpiaaGreatDoorSqa
import Derived.Test.YtlfmihhnijlpiaaGreatDoorSqb
import Derived.Test.YtlfmihhnijlpiaaGreatDoorSqc
import Derived.Test.YtlfmihhnijlpiaaGreatDoorSqd
/-
  DERIVED. The document's Join.
-/
namespace Go.Proofs.YtlfmihhnijlpiaaGreatDoor.Sp
open Go Go.Proofs Go.RowKit
open Wk (cell_lt own_keep Stop)

theorem un_ok : ∀ k : Fin 29, 0 ≤ Rp.un k.val ∧ Rp.un k.val ≤ 1000 := by decide +kernel
theorem un_nat (v : Fin 29) : ∃ k : Nat, Rp.un v.val = (k : Int) ∧ k ≤ 1000 := by
  have := un_ok v
  exact ⟨(Rp.un v.val).toNat, by omega, by omega⟩
set_option maxRecDepth 100000 in
set_option maxHeartbeats 8000000 in
theorem rjoin_any (W : World) (v : Int) (y : Value) (xs : List ByteArray) (hz : Jz xs) (ha : TxAt W y xs) :
    Calls Tryz.prog 9 #[.int .i64 v, y] W fun e w' => ∃ f, e = .returned (.tuple #[.string (jt v xs), f]) ∧ Hid (RErr w' f (jc v xs).1 (jc v xs).2 ∧ Below W.heap.size W w') := by
  have c15 := fun w => Rp.rabout_open w v
  have hS : ∀ J C P, jt v xs = J → jc v xs = (C, P) → Calls Tryz.prog 9 #[.int .i64 v, y] W (fun e w' => ∃ f, e = .returned (.tuple #[.string J, f]) ∧ Hid (RErr w' f C P ∧ Below W.heap.size W w')) → Calls Tryz.prog 9 #[.int .i64 v, y] W fun e w' => ∃ f, e = .returned (.tuple #[.string (jt v xs), f]) ∧ Hid (RErr w' f (jc v xs).1 (jc v xs).2 ∧ Below W.heap.size W w') := fun J C P h h1 h2 => by rw [h, h1]; exact h2
  have RF0 : Hid _ := RF.start W
  have hunit := unit_ok ⟨Rp.vn v, Rp.vn_lt v⟩
  simp only at hunit
  have hnx := hz.n
  by_cases hok : okV v = false
  · refine hS mty 62 0 (by unfold jt; rw [if_pos hok]) (by unfold jc; rw [if_pos hok]) ?_
    obtain ⟨a, cap, rfl, -, -⟩ := ha.form
    generalize xs.length = nx at *
    generalize Rp.nm (Rp.vn v) = n at *
    generalize Rp.pd (Rp.vn v) = p at *
    generalize Rp.un (Rp.vn v) = u at *
    generalize Rp.mo (Rp.vn v) = m at *
    generalize Rp.tx (Rp.vn v) = t at *
    generalize Rp.ch (Rp.vn v) = c at *
    generalize Rp.mu (Rp.vn v) = q at *
    generalize Rp.lo (Rp.vn v) = l at *
    clear hS hunit ha
    by_cases h1 : 1 ≤ v ∧ v ≤ 28
    · have h18 : v = 18 := by
        unfold okV at hok
        simp at hok
        omega
      subst h18
      simp only [show (decide ((1 : Int) ≤ 18 ∧ (18 : Int) ≤ 28)) = true from by decide] at c15
      clear hok h1
      go_enter Tryz.func9, Tryz.ntmps9
      go_wp2_with (first | (go_at_call 15; refine (c15 _).mono ?_; rintro e w1 ⟨rfl, hb1⟩; have RF1 : Hid (RF W W.heap.size w1) := RF0.out.on hb1; clear hb1) | (go_at_call 21; refine (new_any _ _ _).mono ?_; rintro e w2 ⟨gq, rfl, h2⟩; have RF2 : Hid (RF W W.heap.size w2) := (RF1.out.on ((Below.refl _ _).alloc (Nat.le_refl _) _)).on h2.out.1; have hgn : W.heap.size ≠ gq := (by have h5 := h2.out.2.2.2; have h6 := cell_lt RF1.out.r0; rw [Wk.size_alloc] at h5; simp at h6; omega); have r0 := RF2.out.r0; have r1 := RF2.out.r1; have f0 := RF2.out.f0; have f1 := RF2.out.f1))
      obtain ⟨k1, k2⟩ := RF2.out.fin (c := 62) hgn (by decide) h2.out.2.1 h2.out.2.2.1 (.slice (some ⟨gq, 0, none⟩) 1 1) (.int .i64 62)
      exact bodyPost_ret (v := .tuple #[.string mty, .agg #[.slice (some ⟨gq, 0, none⟩) 1 1, .int .i64 62]]) (by simp only [results, Tryz.results9]; simp [go_sem, mty, *]) rfl ⟨_, rfl, k1, k2⟩
    · rw [decide_eq_false h1] at c15
      clear hok h1
      go_enter Tryz.func9, Tryz.ntmps9
      go_wp2_with (first | (go_at_call 15; refine (c15 _).mono ?_; rintro e w1 ⟨rfl, hb1⟩; have RF1 : Hid (RF W W.heap.size w1) := RF0.out.on hb1; clear hb1) | (go_at_call 21; refine (new_any _ _ _).mono ?_; rintro e w2 ⟨gq, rfl, h2⟩; have RF2 : Hid (RF W W.heap.size w2) := (RF1.out.on ((Below.refl _ _).alloc (Nat.le_refl _) _)).on h2.out.1; have hgn : W.heap.size ≠ gq := (by have h5 := h2.out.2.2.2; have h6 := cell_lt RF1.out.r0; rw [Wk.size_alloc] at h5; simp at h6; omega); have r0 := RF2.out.r0; have r1 := RF2.out.r1; have f0 := RF2.out.f0; have f1 := RF2.out.f1))
      obtain ⟨k1, k2⟩ := RF2.out.fin (c := 62) hgn (by decide) h2.out.2.1 h2.out.2.2.1 (.slice (some ⟨gq, 0, none⟩) 1 1) (.int .i64 62)
      exact bodyPost_ret (v := .tuple #[.string mty, .agg #[.slice (some ⟨gq, 0, none⟩) 1 1, .int .i64 62]]) (by simp only [results, Tryz.results9]; simp [go_sem, mty, *]) rfl ⟨_, rfl, k1, k2⟩
  · have hok1 : okV v = true := by simpa using hok
    have hv : 1 ≤ v ∧ v ≤ 28 ∧ v ≠ 18 := by unfold okV at hok1; simpa using hok1
    have h18 : (v == 18) = false := by simpa using hv.2.2
    rw [decide_eq_true (show 1 ≤ v ∧ v ≤ 28 from ⟨hv.1, hv.2.1⟩)] at c15
    have hT : jt v xs = if Rp.mu (Rp.vn v) = false then (if 1 < xs.length then mty else jnB xs mty) else if Rp.tx (Rp.vn v) = true then (if fiR hasS xs = -1 then jnB xs bsl else mty) else (if fiR (offU (Rp.un (Rp.vn v)).toNat) xs = -1 then jnB xs mty else mty) := by unfold jt; rw [if_neg hok]
    have hC : jc v xs = if Rp.mu (Rp.vn v) = false then (if 1 < xs.length then (66, 1) else (0, 0)) else if Rp.tx (Rp.vn v) = true then (if fiR hasS xs = -1 then 0 else 64, fiR hasS xs) else (if fiR (offU (Rp.un (Rp.vn v)).toNat) xs = -1 then 0 else 63, fiR (offU (Rp.un (Rp.vn v)).toNat) xs) := by unfold jc; rw [if_neg hok]
    have hub : ∃ k : Nat, Rp.un (Rp.vn v) = (k : Int) ∧ k ≤ 1000 := un_nat ⟨Rp.vn v, Rp.vn_lt v⟩
    generalize Rp.nm (Rp.vn v) = n at *
    generalize Rp.pd (Rp.vn v) = p at *
    generalize Rp.un (Rp.vn v) = u at *
    generalize Rp.mo (Rp.vn v) = m at *
    generalize Rp.tx (Rp.vn v) = t at *
    generalize Rp.ch (Rp.vn v) = c at *
    generalize Rp.mu (Rp.vn v) = q at *
    generalize Rp.lo (Rp.vn v) = l at *
    obtain ⟨k, rfl, hk⟩ := hub
    cases q with
    | false =>
      by_cases h1 : 1 < xs.length
      · refine hS mty 66 1 (by rw [hT, if_pos rfl, if_pos h1]) (by rw [hC, if_pos rfl, if_pos h1]) ?_
        obtain ⟨a, cap, rfl, -, -⟩ := ha.form
        have hI : (1 : Int) < (xs.length : Int) := by omega
        generalize xs.length = nx at *
        clear hS hunit ha hT hC hok hok1 hv
        go_enter Tryz.func9, Tryz.ntmps9
        go_wp2_with (first | (go_at_call 15; refine (c15 _).mono ?_; rintro e w1 ⟨rfl, hb1⟩; have RF1 : Hid (RF W W.heap.size w1) := RF0.out.on hb1; clear hb1) | (go_at_call 21; refine (new_any _ _ _).mono ?_; rintro e w2 ⟨gq, rfl, h2⟩; have RF2 : Hid (RF W W.heap.size w2) := (RF1.out.on ((Below.refl _ _).alloc (Nat.le_refl _) _)).on h2.out.1; have hgn : W.heap.size ≠ gq := (by have h5 := h2.out.2.2.2; have h6 := cell_lt RF1.out.r0; rw [Wk.size_alloc] at h5; simp at h6; omega); have r0 := RF2.out.r0; have r1 := RF2.out.r1; have f0 := RF2.out.f0; have f1 := RF2.out.f1))
        obtain ⟨k1, k2⟩ := RF2.out.fin (c := 66) hgn (by decide) h2.out.2.1 h2.out.2.2.1 (.slice (some ⟨gq, 0, none⟩) 1 1) (.int .i64 66)
        exact bodyPost_ret (v := .tuple #[.string mty, .agg #[.slice (some ⟨gq, 0, none⟩) 1 1, .int .i64 66]]) (by simp only [results, Tryz.results9]; simp [go_sem, mty, *]) rfl ⟨_, rfl, k1, k2⟩
      · refine hS (jnB xs mty) 0 0 (by rw [hT, if_pos rfl, if_neg h1]) (by rw [hC, if_pos rfl, if_neg h1]) ?_
        cases t with
        | true => exact rj_st W v y xs hz ha n p m c l k hk h18 c15 h1 _ _ _ (fun _ => ⟨(jnB_short xs h1).symm, rfl⟩) (fun i x _ h => by cases h)
        | false => exact rj_su W v y xs hz ha n p m c l k hk h18 c15 h1 _ _ _ (fun _ => ⟨rfl, rfl⟩) (fun i x _ h => by cases h)
    | true =>
      cases t with
      | true =>
        refine hS _ _ _ (by rw [hT, if_neg (by simp), if_pos rfl]) (by rw [hC, if_neg (by simp), if_pos rfl]) ?_
        refine rj_mt W v y xs hz ha n p m c l k hk h18 c15 _ _ _ (fun h => ?_) (fun i x hx hf hj => ?_)
        · have := fiR_none h
          rw [if_pos this, if_pos this]
          exact ⟨rfl, rfl⟩
        · have := fiR_at hx hf hj
          rw [if_neg (by omega), if_neg (by omega)]
          exact ⟨rfl, rfl, this⟩
      | false =>
        refine hS _ _ _ (by rw [hT, if_neg (by simp), if_neg (by simp)]) (by rw [hC, if_neg (by simp), if_neg (by simp)]) ?_
        refine rj_mu W v y xs hz ha n p m c l k hk h18 c15 _ _ _ (fun h => ?_) (fun i x hx hf hj => ?_)
        · have := fiR_none h
          rw [Int.toNat_natCast, if_pos this, if_pos this]
          exact ⟨rfl, rfl⟩
        · have := fiR_at hx hf hj
          rw [Int.toNat_natCast, if_neg (by omega), if_neg (by omega)]
          exact ⟨rfl, rfl, this⟩
end Go.Proofs.YtlfmihhnijlpiaaGreatDoor.Sp
