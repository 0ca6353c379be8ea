import Derived.Test.YtoikdpjjcnmgeaaGreatDoorLa
/-
  DERIVED. Lists that are data sets: each level ends where the next node at it begins.
-/
namespace Go.Proofs.YtoikdpjjcnmgeaaGreatDoor
open Go Go.Proofs
open Wk (Nd goN)

theorem goN_add : ∀ (L : List Nd) (u v : Nat), goN L (u + v) = goN L u + goN (L.drop (goN L u)) v
  | [], u, v => by cases u <;> cases v <;> simp [goN]
  | a :: L, 0, v => by simp [Wk.goN_zero]
  | a :: L, u + 1, v => by
    have h1 : goN (a :: L) (u + 1 + v) = 1 + goN L (u + v + a.n.toNat) := by
      rw [show u + 1 + v = (u + v) + 1 by omega]; rfl
    have h2 : goN (a :: L) (u + 1) = 1 + goN L (u + a.n.toNat) := rfl
    rw [h1, h2, show u + v + a.n.toNat = (u + a.n.toNat) + v by omega, goN_add L (u + a.n.toNat) v, show 1 + goN L (u + a.n.toNat) = goN L (u + a.n.toNat) + 1 by omega, List.drop_succ_cons]
    omega
/-- A run that ends well comes to the end of each level that is open. -/
theorem run_level {E I : Nd → Bool} (hE : ∀ a, E a = true → 0 ≤ a.n ∧ (a.v = 18 ∨ a.n = 0)) (hI : ∀ a, I a = true → 0 ≤ a.n) : ∀ (f : Nat) (L : List Nd) (i : Nat) (c t : Int) (rest : List Lv), L.length ≤ f → 0 ≤ c → rest ≠ [] → (runL E I i (popL ((c, t) :: rest)) L).2 = true →
    runL E I i (popL ((c, t) :: rest)) L = runL E I (i + goN L c.toNat) (popL rest) (L.drop (goN L c.toNat)) := by
  intro f
  induction f with
  | zero =>
    intro L i c t rest hf hc hr hok
    obtain rfl : L = [] := List.length_eq_zero_iff.1 (by omega)
    by_cases h0 : c = 0
    · subst h0
      rw [popL_zero _ hr]
      simp [goN]
    · rw [popL_some _ h0, runL] at hok
      simp at hok
      exact absurd hok hr
  | succ f ih =>
    intro L i c t rest hf hc hr hok
    by_cases h0 : c = 0
    · subst h0
      rw [popL_zero _ hr, show (0 : Int).toNat = 0 from rfl, Wk.goN_zero]
      simp
    · cases L with
      | nil =>
        rw [popL_some _ h0, runL] at hok
        simp at hok
        exact absurd hok hr
      | cons a r =>
        rw [popL_some _ h0, runL] at hok ⊢
        by_cases hb : i = 4096 ∨ rightL E I a ((c, t) :: rest) = false
        · rw [if_pos hb] at hok; cases hok
        · rw [if_neg hb] at hok ⊢
          have hgo : rightL E I a ((c, t) :: rest) = true := by
            rcases hq : rightL E I a ((c, t) :: rest) with _ | _
            · exact absurd (.inr hq) hb
            · rfl
          have hn : 0 ≤ a.n ∧ ((rest.length + 1) % 2 = 0 ∨ a.v = 18 ∨ a.n = 0) := by
            unfold rightL at hgo
            simp only [List.length_cons] at hgo
            split at hgo
            · rename_i hev
              simp only [Bool.and_eq_true] at hgo
              exact ⟨hI a hgo.1, .inl hev⟩
            · simp only [Bool.and_eq_true] at hgo
              exact ⟨(hE a hgo.1).1, .inr (hE a hgo.1).2⟩
          have hcn : c.toNat = (c - 1).toNat + 1 := by omega
          have hg : goN (a :: r) c.toNat = 1 + (goN r a.n.toNat + goN (r.drop (goN r a.n.toNat)) (c - 1).toNat) := by
            rw [hcn, ← goN_add, Nat.add_comm a.n.toNat]
            rfl
          have hstep : runL E I (i + 1) (stepL a ((c, t) :: rest)) r = runL E I (i + 1 + goN r a.n.toNat) (popL ((c - 1, a.t) :: rest)) (r.drop (goN r a.n.toNat)) := by
            have hpu : stepL a ((c, t) :: rest) = popL (if (rest.length + 1) % 2 = 0 ∨ a.v = 18 then (a.n, 0) :: (c - 1, a.t) :: rest else (c - 1, a.t) :: rest) := rfl
            rw [hpu] at hok ⊢
            by_cases hp : (rest.length + 1) % 2 = 0 ∨ a.v = 18
            · rw [if_pos hp] at hok ⊢
              exact ih r (i + 1) a.n 0 ((c - 1, a.t) :: rest) (by simp at hf; omega) hn.1 (by simp) hok
            · rw [if_neg hp] at hok ⊢
              have h0n : a.n = 0 := by
                rcases hn.2 with h | h | h
                · exact absurd (.inl h) hp
                · exact absurd (.inr h) hp
                · exact h
              rw [h0n, show (0 : Int).toNat = 0 from rfl, Wk.goN_zero]
              simp
          rw [hstep] at hok ⊢
          rw [ih (r.drop (goN r a.n.toNat)) _ (c - 1) a.t rest (by simp at hf ⊢; omega) (by omega) hr hok, hg, List.drop_drop]
          congr 1
          · omega
          · rw [Nat.add_comm 1, List.drop_succ_cons]
/-- So many nodes of a list that is cut behind them. -/
theorem goN_take : ∀ (L : List Nd) (w k : Nat), goN L w ≤ k → goN (L.take k) w = goN L w
  | [], w, k, _ => by simp
  | a :: L, 0, k, _ => by rw [Wk.goN_zero, Wk.goN_zero]
  | a :: L, w + 1, 0, h => by
    have : goN (a :: L) (w + 1) = 1 + goN L (w + a.n.toNat) := rfl
    omega
  | a :: L, w + 1, k + 1, h => by
    have h1 : goN (a :: L) (w + 1) = 1 + goN L (w + a.n.toNat) := rfl
    rw [List.take_succ_cons, h1]
    show 1 + goN (L.take k) (w + a.n.toNat) = _
    rw [goN_take L _ k (by omega)]
theorem goN_mono : ∀ (L : List Nd) (u v : Nat), u ≤ v → goN L u ≤ goN L v := fun L u v h => by
  obtain ⟨d, rfl⟩ : ∃ d, v = u + d := ⟨v - u, by omega⟩
  rw [goN_add]
  omega
/-- Nodes that stand beside one another, each with what is in it: items, or elements. -/
def wf (E I : Nd → Bool) : Nat → Bool → List Nd → Prop
  | 0, _, M => M = []
  | _ + 1, _, [] => True
  | f + 1, b, a :: r => (if b = true then I a else E a) = true ∧ wf E I f (!b) (r.take (goN r a.n.toNat)) ∧ wf E I f b (r.drop (goN r a.n.toNat))
theorem wf_nil (E I : Nd → Bool) (f : Nat) (b : Bool) : wf E I f b [] := by
  cases f with
  | zero => rfl
  | succ f => trivial
theorem right_wf {E I : Nd → Bool} {a : Nd} {x : Lv} {rest : List Lv} (h : rightL E I a (x :: rest) = true) : (if decide ((rest.length + 1) % 2 = 0) = true then I a else E a) = true := by
  unfold rightL at h
  simp only [List.length_cons] at h
  by_cases hp : (rest.length + 1) % 2 = 0
  · rw [if_pos hp] at h
    simp only [Bool.and_eq_true] at h
    rw [if_pos (by simpa using hp)]
    exact h.1
  · rw [if_neg hp] at h
    simp only [Bool.and_eq_true] at h
    rw [if_neg (by simpa using hp)]
    exact h.1
theorem right_n {E I : Nd → Bool} (hE : ∀ a, E a = true → 0 ≤ a.n ∧ (a.v = 18 ∨ a.n = 0)) (hI : ∀ a, I a = true → 0 ≤ a.n) {a : Nd} {x : Lv} {rest : List Lv} (h : rightL E I a (x :: rest) = true) : 0 ≤ a.n ∧ (((rest.length + 1) % 2 = 0 ∨ a.v = 18) ∨ a.n = 0) := by
  have h1 := right_wf h
  split at h1
  · rename_i hp
    exact ⟨hI a h1, .inl (.inl (by simpa using hp))⟩
  · rcases (hE a h1).2 with h2 | h2
    · exact ⟨(hE a h1).1, .inl (.inr h2)⟩
    · exact ⟨(hE a h1).1, .inr h2⟩
/-- What a level holds of a run that ends well. -/
theorem run_wf {E I : Nd → Bool} (hE : ∀ a, E a = true → 0 ≤ a.n ∧ (a.v = 18 ∨ a.n = 0)) (hI : ∀ a, I a = true → 0 ≤ a.n) : ∀ (f : Nat) (L : List Nd) (i : Nat) (c t : Int) (rest : List Lv), L.length ≤ f → 0 ≤ c → rest ≠ [] → (runL E I i (popL ((c, t) :: rest)) L).2 = true →
    wf E I f (decide ((rest.length + 1) % 2 = 0)) (L.take (goN L c.toNat)) := by
  intro f
  induction f with
  | zero =>
    intro L i c t rest hf hc hr hok
    obtain rfl : L = [] := List.length_eq_zero_iff.1 (by omega)
    rw [List.take_nil]
    exact wf_nil _ _ _ _
  | succ f ih =>
    intro L i c t rest hf hc hr hok
    by_cases h0 : c = 0
    · subst h0
      rw [show (0 : Int).toNat = 0 from rfl, Wk.goN_zero]
      exact wf_nil _ _ _ _
    · cases L with
      | nil => rw [List.take_nil]; exact wf_nil _ _ _ _
      | cons a r =>
        rw [popL_some _ h0, runL] at hok
        by_cases hb : i = 4096 ∨ rightL E I a ((c, t) :: rest) = false
        · rw [if_pos hb] at hok; cases hok
        · rw [if_neg hb] at hok
          have hgo : rightL E I a ((c, t) :: rest) = true := by
            rcases hq : rightL E I a ((c, t) :: rest) with _ | _
            · exact absurd (.inr hq) hb
            · rfl
          have hn := right_n hE hI hgo
          have hcn : c.toNat = (c - 1).toNat + 1 := by omega
          have hg : goN (a :: r) c.toNat = (goN r a.n.toNat + goN (r.drop (goN r a.n.toNat)) (c - 1).toNat) + 1 := by
            rw [hcn, ← goN_add, Nat.add_comm a.n.toNat]
            exact Nat.add_comm 1 _
          have hpu : stepL a ((c, t) :: rest) = popL (if (rest.length + 1) % 2 = 0 ∨ a.v = 18 then (a.n, 0) :: (c - 1, a.t) :: rest else (c - 1, a.t) :: rest) := rfl
          rw [hpu] at hok
          have hlr : r.length ≤ f := by simp at hf; omega
          have key : wf E I f (!decide ((rest.length + 1) % 2 = 0)) (r.take (goN r a.n.toNat)) ∧ (runL E I (i + 1 + goN r a.n.toNat) (popL ((c - 1, a.t) :: rest)) (r.drop (goN r a.n.toNat))).2 = true := by
            by_cases hp : (rest.length + 1) % 2 = 0 ∨ a.v = 18
            · rw [if_pos hp] at hok
              refine ⟨?_, ?_⟩
              · have := ih r (i + 1) a.n 0 ((c - 1, a.t) :: rest) hlr hn.1 (by simp) hok
                rw [List.length_cons] at this
                have e : decide ((rest.length + 1 + 1) % 2 = 0) = !decide ((rest.length + 1) % 2 = 0) := by
                  by_cases hq : (rest.length + 1) % 2 = 0
                  · rw [decide_eq_true hq, decide_eq_false (by omega)]; rfl
                  · rw [decide_eq_false hq, decide_eq_true (by omega)]; rfl
                rw [← e]
                exact this
              · rw [run_level hE hI f r (i + 1) a.n 0 ((c - 1, a.t) :: rest) hlr hn.1 (by simp) hok] at hok
                exact hok
            · rw [if_neg hp] at hok
              have h0n : a.n = 0 := hn.2.resolve_left hp
              rw [h0n, show (0 : Int).toNat = 0 from rfl, Wk.goN_zero]
              exact ⟨wf_nil _ _ _ _, by simpa using hok⟩
          have hw := ih (r.drop (goN r a.n.toNat)) _ (c - 1) a.t rest (by simp; omega) (by omega) hr key.2
          rw [hg, List.take_succ_cons]
          have ht : goN (r.take (goN r a.n.toNat + goN (r.drop (goN r a.n.toNat)) (c - 1).toNat)) a.n.toNat = goN r a.n.toNat := goN_take r _ _ (by omega)
          refine ⟨right_wf hgo, ?_, ?_⟩
          · rw [ht, List.take_take, Nat.min_eq_left (by omega)]
            exact key.1
          · rw [ht, List.drop_take, Nat.add_sub_cancel_left]
            exact hw
/-- The whole list. -/
theorem run_wf0 {E I : Nd → Bool} (hE : ∀ a, E a = true → 0 ≤ a.n ∧ (a.v = 18 ∨ a.n = 0)) (hI : ∀ a, I a = true → 0 ≤ a.n) : ∀ (f : Nat) (L : List Nd) (i : Nat) (c t : Int), L.length ≤ f → (runL E I i [(c, t)] L).2 = true → wf E I f false L := by
  intro f
  induction f with
  | zero =>
    intro L i c t hf _
    exact List.length_eq_zero_iff.1 (by omega)
  | succ f ih =>
    intro L i c t hf hok
    cases L with
    | nil => exact wf_nil _ _ _ _
    | cons a r =>
      rw [runL] at hok
      by_cases hb : i = 4096 ∨ rightL E I a [(c, t)] = false
      · rw [if_pos hb] at hok; cases hok
      · rw [if_neg hb] at hok
        have hgo : rightL E I a [(c, t)] = true := by
          rcases hq : rightL E I a [(c, t)] with _ | _
          · exact absurd (.inr hq) hb
          · rfl
        have hn := right_n hE hI hgo
        have hpu : stepL a [(c, t)] = popL (if (0 + 1) % 2 = 0 ∨ a.v = 18 then [(a.n, 0), (c - 1, a.t)] else [(c - 1, a.t)]) := rfl
        rw [hpu] at hok
        have hlr : r.length ≤ f := by simp at hf; omega
        have key : wf E I f true (r.take (goN r a.n.toNat)) ∧ (runL E I (i + 1 + goN r a.n.toNat) [(c - 1, a.t)] (r.drop (goN r a.n.toNat))).2 = true := by
          by_cases hp : (0 + 1) % 2 = 0 ∨ a.v = 18
          · rw [if_pos hp] at hok
            refine ⟨by simpa using run_wf hE hI f r (i + 1) a.n 0 [(c - 1, a.t)] hlr hn.1 (by simp) hok, ?_⟩
            rw [run_level hE hI f r (i + 1) a.n 0 [(c - 1, a.t)] hlr hn.1 (by simp) hok, popL_one] at hok
            exact hok
          · rw [if_neg hp, popL_one] at hok
            have h0n : a.n = 0 := hn.2.resolve_left hp
            rw [h0n, show (0 : Int).toNat = 0 from rfl, Wk.goN_zero]
            exact ⟨wf_nil _ _ _ _, by simpa using hok⟩
        exact ⟨right_wf hgo, key.1, ih _ _ _ _ (by simp; omega) key.2⟩
end Go.Proofs.YtoikdpjjcnmgeaaGreatDoor
