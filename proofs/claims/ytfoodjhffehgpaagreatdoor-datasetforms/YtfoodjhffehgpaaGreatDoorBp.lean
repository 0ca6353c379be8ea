import Derived.Test.YtfoodjhffehgpaaGreatDoorLa
import Derived.Lib.AppendStr
section
/-
  DERIVED. Lists that are data sets: each level ends where the next node at it begins.
-/
namespace Go.Proofs.YtfoodjhffehgpaaGreatDoor
open Go Go.Proofs
open Wk (Nd goN)

theorem goN_add : ∀ (L : List Nd) (u v : Nat), goN L (u + v) = goN L u + goN (L.drop (goN L u)) v
  | [], u, v => by cases u <;> cases v <;> simp [goN]
  | a :: L, 0, v => by simp [Wk.goN_zero]
  | a :: L, u + 1, v => by
    have h1 : goN (a :: L) (u + 1 + v) = 1 + goN L (u + v + a.n.toNat) := by
      rw [show u + 1 + v = (u + v) + 1 by omega]; rfl
    have h2 : goN (a :: L) (u + 1) = 1 + goN L (u + a.n.toNat) := rfl
    rw [h1, h2, show u + v + a.n.toNat = (u + a.n.toNat) + v by omega, goN_add L (u + a.n.toNat) v, show 1 + goN L (u + a.n.toNat) = goN L (u + a.n.toNat) + 1 by omega, List.drop_succ_cons]
    omega
/-- A run that ends well comes to the end of each level that is open. -/
theorem run_level {E I : Nd → Bool} (hE : ∀ a, E a = true → 0 ≤ a.n ∧ (a.v = 18 ∨ a.n = 0)) (hI : ∀ a, I a = true → 0 ≤ a.n) : ∀ (f : Nat) (L : List Nd) (i : Nat) (c t : Int) (rest : List Lv), L.length ≤ f → 0 ≤ c → rest ≠ [] → (runL E I i (popL ((c, t) :: rest)) L).2 = true →
    runL E I i (popL ((c, t) :: rest)) L = runL E I (i + goN L c.toNat) (popL rest) (L.drop (goN L c.toNat)) := by
  intro f
  induction f with
  | zero =>
    intro L i c t rest hf hc hr hok
    obtain rfl : L = [] := List.length_eq_zero_iff.1 (by omega)
    by_cases h0 : c = 0
    · subst h0
      rw [popL_zero _ hr]
      simp [goN]
    · rw [popL_some _ h0, runL] at hok
      simp at hok
      exact absurd hok hr
  | succ f ih =>
    intro L i c t rest hf hc hr hok
    by_cases h0 : c = 0
    · subst h0
      rw [popL_zero _ hr, show (0 : Int).toNat = 0 from rfl, Wk.goN_zero]
      simp
    · cases L with
      | nil =>
        rw [popL_some _ h0, runL] at hok
        simp at hok
        exact absurd hok hr
      | cons a r =>
        rw [popL_some _ h0, runL] at hok ⊢
        by_cases hb : i = 4096 ∨ rightL E I a ((c, t) :: rest) = false
        · rw [if_pos hb] at hok; cases hok
        · rw [if_neg hb] at hok ⊢
          have hgo : rightL E I a ((c, t) :: rest) = true := by
            rcases hq : rightL E I a ((c, t) :: rest) with _ | _
            · exact absurd (.inr hq) hb
            · rfl
          have hn : 0 ≤ a.n ∧ ((rest.length + 1) % 2 = 0 ∨ a.v = 18 ∨ a.n = 0) := by
            unfold rightL at hgo
            simp only [List.length_cons] at hgo
            split at hgo
            · rename_i hev
              simp only [Bool.and_eq_true] at hgo
              exact ⟨hI a hgo.1, .inl hev⟩
            · simp only [Bool.and_eq_true] at hgo
              exact ⟨(hE a hgo.1).1, .inr (hE a hgo.1).2⟩
          have hcn : c.toNat = (c - 1).toNat + 1 := by omega
          have hg : goN (a :: r) c.toNat = 1 + (goN r a.n.toNat + goN (r.drop (goN r a.n.toNat)) (c - 1).toNat) := by
            rw [hcn, ← goN_add, Nat.add_comm a.n.toNat]
            rfl
          have hstep : runL E I (i + 1) (stepL a ((c, t) :: rest)) r = runL E I (i + 1 + goN r a.n.toNat) (popL ((c - 1, a.t) :: rest)) (r.drop (goN r a.n.toNat)) := by
            have hpu : stepL a ((c, t) :: rest) = popL (if (rest.length + 1) % 2 = 0 ∨ a.v = 18 then (a.n, 0) :: (c - 1, a.t) :: rest else (c - 1, a.t) :: rest) := rfl
            rw [hpu] at hok ⊢
            by_cases hp : (rest.length + 1) % 2 = 0 ∨ a.v = 18
            · rw [if_pos hp] at hok ⊢
              exact ih r (i + 1) a.n 0 ((c - 1, a.t) :: rest) (by simp at hf; omega) hn.1 (by simp) hok
            · rw [if_neg hp] at hok ⊢
              have h0n : a.n = 0 := by
                rcases hn.2 with h | h | h
                · exact absurd (.inl h) hp
                · exact absurd (.inr h) hp
                · exact h
              rw [h0n, show (0 : Int).toNat = 0 from rfl, Wk.goN_zero]
              simp
          rw [hstep] at hok ⊢
          rw [ih (r.drop (goN r a.n.toNat)) _ (c - 1) a.t rest (by simp at hf ⊢; omega) (by omega) hr hok, hg, List.drop_drop]
          congr 1
          · omega
          · rw [Nat.add_comm 1, List.drop_succ_cons]
/-- So many nodes of a list that is cut behind them. -/
theorem goN_take : ∀ (L : List Nd) (w k : Nat), goN L w ≤ k → goN (L.take k) w = goN L w
  | [], w, k, _ => by simp
  | a :: L, 0, k, _ => by rw [Wk.goN_zero, Wk.goN_zero]
  | a :: L, w + 1, 0, h => by
    have : goN (a :: L) (w + 1) = 1 + goN L (w + a.n.toNat) := rfl
    omega
  | a :: L, w + 1, k + 1, h => by
    have h1 : goN (a :: L) (w + 1) = 1 + goN L (w + a.n.toNat) := rfl
    rw [List.take_succ_cons, h1]
    show 1 + goN (L.take k) (w + a.n.toNat) = _
    rw [goN_take L _ k (by omega)]
theorem goN_mono : ∀ (L : List Nd) (u v : Nat), u ≤ v → goN L u ≤ goN L v := fun L u v h => by
  obtain ⟨d, rfl⟩ : ∃ d, v = u + d := ⟨v - u, by omega⟩
  rw [goN_add]
  omega
/-- Nodes that stand beside one another, each with what is in it: items, or elements. -/
def wf (E I : Nd → Bool) : Nat → Bool → List Nd → Prop
  | 0, _, M => M = []
  | _ + 1, _, [] => True
  | f + 1, b, a :: r => (if b = true then I a else E a) = true ∧ wf E I f (!b) (r.take (goN r a.n.toNat)) ∧ wf E I f b (r.drop (goN r a.n.toNat))
theorem wf_nil (E I : Nd → Bool) (f : Nat) (b : Bool) : wf E I f b [] := by
  cases f with
  | zero => rfl
  | succ f => trivial
theorem right_wf {E I : Nd → Bool} {a : Nd} {x : Lv} {rest : List Lv} (h : rightL E I a (x :: rest) = true) : (if decide ((rest.length + 1) % 2 = 0) = true then I a else E a) = true := by
  unfold rightL at h
  simp only [List.length_cons] at h
  by_cases hp : (rest.length + 1) % 2 = 0
  · rw [if_pos hp] at h
    simp only [Bool.and_eq_true] at h
    rw [if_pos (by simpa using hp)]
    exact h.1
  · rw [if_neg hp] at h
    simp only [Bool.and_eq_true] at h
    rw [if_neg (by simpa using hp)]
    exact h.1
theorem right_n {E I : Nd → Bool} (hE : ∀ a, E a = true → 0 ≤ a.n ∧ (a.v = 18 ∨ a.n = 0)) (hI : ∀ a, I a = true → 0 ≤ a.n) {a : Nd} {x : Lv} {rest : List Lv} (h : rightL E I a (x :: rest) = true) : 0 ≤ a.n ∧ (((rest.length + 1) % 2 = 0 ∨ a.v = 18) ∨ a.n = 0) := by
  have h1 := right_wf h
  split at h1
  · rename_i hp
    exact ⟨hI a h1, .inl (.inl (by simpa using hp))⟩
  · rcases (hE a h1).2 with h2 | h2
    · exact ⟨(hE a h1).1, .inl (.inr h2)⟩
    · exact ⟨(hE a h1).1, .inr h2⟩
/-- What a level holds of a run that ends well. -/
theorem run_wf {E I : Nd → Bool} (hE : ∀ a, E a = true → 0 ≤ a.n ∧ (a.v = 18 ∨ a.n = 0)) (hI : ∀ a, I a = true → 0 ≤ a.n) : ∀ (f : Nat) (L : List Nd) (i : Nat) (c t : Int) (rest : List Lv), L.length ≤ f → 0 ≤ c → rest ≠ [] → (runL E I i (popL ((c, t) :: rest)) L).2 = true →
    wf E I f (decide ((rest.length + 1) % 2 = 0)) (L.take (goN L c.toNat)) := by
  intro f
  induction f with
  | zero =>
    intro L i c t rest hf hc hr hok
    obtain rfl : L = [] := List.length_eq_zero_iff.1 (by omega)
    rw [List.take_nil]
    exact wf_nil _ _ _ _
  | succ f ih =>
    intro L i c t rest hf hc hr hok
    by_cases h0 : c = 0
    · subst h0
      rw [show (0 : Int).toNat = 0 from rfl, Wk.goN_zero]
      exact wf_nil _ _ _ _
    · cases L with
      | nil => rw [List.take_nil]; exact wf_nil _ _ _ _
      | cons a r =>
        rw [popL_some _ h0, runL] at hok
        by_cases hb : i = 4096 ∨ rightL E I a ((c, t) :: rest) = false
        · rw [if_pos hb] at hok; cases hok
        · rw [if_neg hb] at hok
          have hgo : rightL E I a ((c, t) :: rest) = true := by
            rcases hq : rightL E I a ((c, t) :: rest) with _ | _
            · exact absurd (.inr hq) hb
            · rfl
          have hn := right_n hE hI hgo
          have hcn : c.toNat = (c - 1).toNat + 1 := by omega
          have hg : goN (a :: r) c.toNat = (goN r a.n.toNat + goN (r.drop (goN r a.n.toNat)) (c - 1).toNat) + 1 := by
            rw [hcn, ← goN_add, Nat.add_comm a.n.toNat]
            exact Nat.add_comm 1 _
          have hpu : stepL a ((c, t) :: rest) = popL (if (rest.length + 1) % 2 = 0 ∨ a.v = 18 then (a.n, 0) :: (c - 1, a.t) :: rest else (c - 1, a.t) :: rest) := rfl
          rw [hpu] at hok
          have hlr : r.length ≤ f := by simp at hf; omega
          have key : wf E I f (!decide ((rest.length + 1) % 2 = 0)) (r.take (goN r a.n.toNat)) ∧ (runL E I (i + 1 + goN r a.n.toNat) (popL ((c - 1, a.t) :: rest)) (r.drop (goN r a.n.toNat))).2 = true := by
            by_cases hp : (rest.length + 1) % 2 = 0 ∨ a.v = 18
            · rw [if_pos hp] at hok
              refine ⟨?_, ?_⟩
              · have := ih r (i + 1) a.n 0 ((c - 1, a.t) :: rest) hlr hn.1 (by simp) hok
                rw [List.length_cons] at this
                have e : decide ((rest.length + 1 + 1) % 2 = 0) = !decide ((rest.length + 1) % 2 = 0) := by
                  by_cases hq : (rest.length + 1) % 2 = 0
                  · rw [decide_eq_true hq, decide_eq_false (by omega)]; rfl
                  · rw [decide_eq_false hq, decide_eq_true (by omega)]; rfl
                rw [← e]
                exact this
              · rw [run_level hE hI f r (i + 1) a.n 0 ((c - 1, a.t) :: rest) hlr hn.1 (by simp) hok] at hok
                exact hok
            · rw [if_neg hp] at hok
              have h0n : a.n = 0 := hn.2.resolve_left hp
              rw [h0n, show (0 : Int).toNat = 0 from rfl, Wk.goN_zero]
              exact ⟨wf_nil _ _ _ _, by simpa using hok⟩
          have hw := ih (r.drop (goN r a.n.toNat)) _ (c - 1) a.t rest (by simp; omega) (by omega) hr key.2
          rw [hg, List.take_succ_cons]
          have ht : goN (r.take (goN r a.n.toNat + goN (r.drop (goN r a.n.toNat)) (c - 1).toNat)) a.n.toNat = goN r a.n.toNat := goN_take r _ _ (by omega)
          refine ⟨right_wf hgo, ?_, ?_⟩
          · rw [ht, List.take_take, Nat.min_eq_left (by omega)]
            exact key.1
          · rw [ht, List.drop_take, Nat.add_sub_cancel_left]
            exact hw
/-- The whole list. -/
theorem run_wf0 {E I : Nd → Bool} (hE : ∀ a, E a = true → 0 ≤ a.n ∧ (a.v = 18 ∨ a.n = 0)) (hI : ∀ a, I a = true → 0 ≤ a.n) : ∀ (f : Nat) (L : List Nd) (i : Nat) (c t : Int), L.length ≤ f → (runL E I i [(c, t)] L).2 = true → wf E I f false L := by
  intro f
  induction f with
  | zero =>
    intro L i c t hf _
    exact List.length_eq_zero_iff.1 (by omega)
  | succ f ih =>
    intro L i c t hf hok
    cases L with
    | nil => exact wf_nil _ _ _ _
    | cons a r =>
      rw [runL] at hok
      by_cases hb : i = 4096 ∨ rightL E I a [(c, t)] = false
      · rw [if_pos hb] at hok; cases hok
      · rw [if_neg hb] at hok
        have hgo : rightL E I a [(c, t)] = true := by
          rcases hq : rightL E I a [(c, t)] with _ | _
          · exact absurd (.inr hq) hb
          · rfl
        have hn := right_n hE hI hgo
        have hpu : stepL a [(c, t)] = popL (if (0 + 1) % 2 = 0 ∨ a.v = 18 then [(a.n, 0), (c - 1, a.t)] else [(c - 1, a.t)]) := rfl
        rw [hpu] at hok
        have hlr : r.length ≤ f := by simp at hf; omega
        have key : wf E I f true (r.take (goN r a.n.toNat)) ∧ (runL E I (i + 1 + goN r a.n.toNat) [(c - 1, a.t)] (r.drop (goN r a.n.toNat))).2 = true := by
          by_cases hp : (0 + 1) % 2 = 0 ∨ a.v = 18
          · rw [if_pos hp] at hok
            refine ⟨by simpa using run_wf hE hI f r (i + 1) a.n 0 [(c - 1, a.t)] hlr hn.1 (by simp) hok, ?_⟩
            rw [run_level hE hI f r (i + 1) a.n 0 [(c - 1, a.t)] hlr hn.1 (by simp) hok, popL_one] at hok
            exact hok
          · rw [if_neg hp, popL_one] at hok
            have h0n : a.n = 0 := hn.2.resolve_left hp
            rw [h0n, show (0 : Int).toNat = 0 from rfl, Wk.goN_zero]
            exact ⟨wf_nil _ _ _ _, by simpa using hok⟩
        exact ⟨right_wf hgo, key.1, ih _ _ _ _ (by simp; omega) key.2⟩
end Go.Proofs.YtfoodjhffehgpaaGreatDoor
end

section
/-
  DERIVED. Lists that are data sets, with their tags, their depth and their counts: what the run of the levels tells of them. Plain functions.
-/
namespace Go.Proofs.YtfoodjhffehgpaaGreatDoor
open Go Go.Proofs
open Wk (Nd goN)

/-- So many nodes beside one another, behind a tag, so deep. -/
def wt (E I : Nd → Bool) : Nat → Bool → Nat → Int → Nat → List Nd → Prop
  | 0, _, _, _, c, M => M = [] ∧ c = 0
  | _ + 1, _, _, _, c, [] => c = 0
  | f + 1, b, d, t, c, a :: r => 0 < c ∧ (if b = true then I a = true ∧ d + 1 ≤ 4 else E a = true ∧ t < a.t) ∧ wt E I f (!b) (if b = true then d + 1 else d) 0 a.n.toNat (r.take (goN r a.n.toNat)) ∧ wt E I f b d a.t (c - 1) (r.drop (goN r a.n.toNat))
theorem wt_nil (E I : Nd → Bool) (f : Nat) (b : Bool) (d : Nat) (t : Int) : wt E I f b d t 0 [] := by
  cases f with
  | zero => exact ⟨rfl, rfl⟩
  | succ f => rfl
theorem wt_wf {E I : Nd → Bool} : ∀ (f : Nat) (b : Bool) (d : Nat) (t : Int) (c : Nat) (M : List Nd), wt E I f b d t c M → wf E I f b M
  | 0, _, _, _, _, _, h => h.1
  | _ + 1, _, _, _, _, [], _ => trivial
  | f + 1, b, d, t, c, a :: r, h => by
    obtain ⟨_, h1, h2, h3⟩ := h
    refine ⟨?_, wt_wf f _ _ _ _ _ h2, wt_wf f _ _ _ _ _ h3⟩
    cases b
    · exact h1.1
    · exact h1.1
theorem right_wt {E I : Nd → Bool} {a : Nd} {c t : Int} {rest : List Lv} {b : Bool} {d : Nat} (hb : rest.length = if b = true then 2 * d + 1 else 2 * d) (h : rightL E I a ((c, t) :: rest) = true) : if b = true then I a = true ∧ d + 1 ≤ 4 else E a = true ∧ t < a.t := by
  unfold rightL at h
  simp only [List.length_cons, List.headD_cons] at h
  cases b with
  | true =>
    have hb : rest.length = 2 * d + 1 := hb
    rw [if_pos (by omega)] at h
    simp only [Bool.and_eq_true, decide_eq_true_eq] at h
    exact ⟨h.1, by omega⟩
  | false =>
    have hb : rest.length = 2 * d := hb
    rw [if_neg (by omega)] at h
    simp only [Bool.and_eq_true] at h
    exact ⟨h.1, of_decide_eq_true h.2⟩
theorem run_wt {E I : Nd → Bool} (hE : ∀ a, E a = true → 0 ≤ a.n ∧ (a.v = 18 ∨ a.n = 0)) (hI : ∀ a, I a = true → 0 ≤ a.n) : ∀ (f : Nat) (L : List Nd) (i : Nat) (c t : Int) (rest : List Lv) (b : Bool) (d : Nat), L.length ≤ f → 0 ≤ c → rest ≠ [] → rest.length = (if b = true then 2 * d + 1 else 2 * d) → (runL E I i (popL ((c, t) :: rest)) L).2 = true →
    wt E I f b d t c.toNat (L.take (goN L c.toNat)) := by
  intro f
  induction f with
  | zero =>
    intro L i c t rest b d hf hc hr hb hok
    obtain rfl : L = [] := List.length_eq_zero_iff.1 (by omega)
    rw [List.take_nil]
    by_cases h0 : c = 0
    · subst h0
      exact wt_nil _ _ _ _ _ _
    · rw [popL_some _ h0, runL] at hok
      simp at hok
      exact absurd hok hr
  | succ f ih =>
    intro L i c t rest b d hf hc hr hb hok
    by_cases h0 : c = 0
    · subst h0
      rw [show (0 : Int).toNat = 0 from rfl, Wk.goN_zero]
      exact wt_nil _ _ _ _ _ _
    · cases L with
      | nil =>
        rw [popL_some _ h0, runL] at hok
        simp at hok
        exact absurd hok hr
      | cons a r =>
        rw [popL_some _ h0, runL] at hok
        by_cases hbd : i = 4096 ∨ rightL E I a ((c, t) :: rest) = false
        · rw [if_pos hbd] at hok; cases hok
        · rw [if_neg hbd] at hok
          have hgo : rightL E I a ((c, t) :: rest) = true := by
            rcases hq : rightL E I a ((c, t) :: rest) with _ | _
            · exact absurd (.inr hq) hbd
            · rfl
          have hn := right_n hE hI hgo
          have hcn : c.toNat = (c - 1).toNat + 1 := by omega
          have hg : goN (a :: r) c.toNat = (goN r a.n.toNat + goN (r.drop (goN r a.n.toNat)) (c - 1).toNat) + 1 := by
            rw [hcn, ← goN_add, Nat.add_comm a.n.toNat]
            exact Nat.add_comm 1 _
          have hpu : stepL a ((c, t) :: rest) = popL (if (rest.length + 1) % 2 = 0 ∨ a.v = 18 then (a.n, 0) :: (c - 1, a.t) :: rest else (c - 1, a.t) :: rest) := rfl
          rw [hpu] at hok
          have hlr : r.length ≤ f := by simp at hf; omega
          have key : wt E I f (!b) (if b = true then d + 1 else d) 0 a.n.toNat (r.take (goN r a.n.toNat)) ∧ (runL E I (i + 1 + goN r a.n.toNat) (popL ((c - 1, a.t) :: rest)) (r.drop (goN r a.n.toNat))).2 = true := by
            by_cases hp : (rest.length + 1) % 2 = 0 ∨ a.v = 18
            · rw [if_pos hp] at hok
              refine ⟨?_, ?_⟩
              · refine ih r (i + 1) a.n 0 ((c - 1, a.t) :: rest) (!b) (if b = true then d + 1 else d) hlr hn.1 (by simp) ?_ hok
                rw [List.length_cons, hb]
                cases b
                · rfl
                · show 2 * d + 1 + 1 = 2 * (d + 1); omega
              · rw [run_level hE hI f r (i + 1) a.n 0 ((c - 1, a.t) :: rest) hlr hn.1 (by simp) hok] at hok
                exact hok
            · rw [if_neg hp] at hok
              have h0n : a.n = 0 := hn.2.resolve_left hp
              rw [h0n, show (0 : Int).toNat = 0 from rfl, Wk.goN_zero]
              exact ⟨wt_nil _ _ _ _ _ _, by simpa using hok⟩
          have hw := ih (r.drop (goN r a.n.toNat)) _ (c - 1) a.t rest b d (by simp; omega) (by omega) hr hb key.2
          rw [hg, List.take_succ_cons]
          have ht : goN (r.take (goN r a.n.toNat + goN (r.drop (goN r a.n.toNat)) (c - 1).toNat)) a.n.toNat = goN r a.n.toNat := goN_take r _ _ (by omega)
          refine ⟨by omega, right_wt hb hgo, ?_, ?_⟩
          · rw [ht, List.take_take, Nat.min_eq_left (by omega)]
            exact key.1
          · rw [ht, List.drop_take, Nat.add_sub_cancel_left, hcn, Nat.add_sub_cancel]
            exact hw
/-- The whole list. -/
theorem run_wt0 {E I : Nd → Bool} (hE : ∀ a, E a = true → 0 ≤ a.n ∧ (a.v = 18 ∨ a.n = 0)) (hI : ∀ a, I a = true → 0 ≤ a.n) : ∀ (f : Nat) (L : List Nd) (i : Nat) (c t : Int), L.length ≤ f → (runL E I i [(c, t)] L).2 = true → ∃ n, wt E I f false 0 t n L := by
  intro f
  induction f with
  | zero =>
    intro L i c t hf _
    exact ⟨0, List.length_eq_zero_iff.1 (by omega), rfl⟩
  | succ f ih =>
    intro L i c t hf hok
    cases L with
    | nil => exact ⟨0, rfl⟩
    | cons a r =>
      rw [runL] at hok
      by_cases hb : i = 4096 ∨ rightL E I a [(c, t)] = false
      · rw [if_pos hb] at hok; cases hok
      · rw [if_neg hb] at hok
        have hgo : rightL E I a [(c, t)] = true := by
          rcases hq : rightL E I a [(c, t)] with _ | _
          · exact absurd (.inr hq) hb
          · rfl
        have hn := right_n hE hI hgo
        have hpu : stepL a [(c, t)] = popL (if (0 + 1) % 2 = 0 ∨ a.v = 18 then [(a.n, 0), (c - 1, a.t)] else [(c - 1, a.t)]) := rfl
        rw [hpu] at hok
        have hlr : r.length ≤ f := by simp at hf; omega
        have key : wt E I f true 0 0 a.n.toNat (r.take (goN r a.n.toNat)) ∧ (runL E I (i + 1 + goN r a.n.toNat) [(c - 1, a.t)] (r.drop (goN r a.n.toNat))).2 = true := by
          by_cases hp : (0 + 1) % 2 = 0 ∨ a.v = 18
          · rw [if_pos hp] at hok
            refine ⟨run_wt hE hI f r (i + 1) a.n 0 [(c - 1, a.t)] true 0 hlr hn.1 (by simp) rfl hok, ?_⟩
            rw [run_level hE hI f r (i + 1) a.n 0 [(c - 1, a.t)] hlr hn.1 (by simp) hok, popL_one] at hok
            exact hok
          · rw [if_neg hp, popL_one] at hok
            have h0n : a.n = 0 := hn.2.resolve_left hp
            rw [h0n, show (0 : Int).toNat = 0 from rfl, Wk.goN_zero]
            exact ⟨wt_nil _ _ _ _ _ _, by simpa using hok⟩
        obtain ⟨n, hw⟩ := ih _ _ _ _ (by simp; omega) key.2
        refine ⟨n + 1, by omega, right_wt (b := false) (d := 0) rfl hgo, key.1, ?_⟩
        rw [Nat.add_sub_cancel]
        exact hw
end Go.Proofs.YtfoodjhffehgpaaGreatDoor
end

section
/-
  DERIVED. Nodes laid down as bytes, the program's way and the document's: pure.
-/
namespace Go.Proofs.YtfoodjhffehgpaaGreatDoor
open Go Go.Proofs
open Wk (Nd goN)

/-- How a syntax lays down: a node's head with a length, an item's head, a padded value; is the length undefined; how long a head is; the mark at a sequence's end. -/
structure Enc where
  hd : Nd → Nat → List UInt8
  ih : Nat → List UInt8
  pv : Nd → List UInt8
  und : Nd → Bool
  hs : Nd → Nat
  em : List UInt8

/-- The program's count: node by node, wherever each ends. -/
def Enc.sz1 (X : Enc) (a : Nd) : Nat := X.hs a + (X.pv a).length + (if X.und a = true then 8 else 0)
def Enc.szP (X : Enc) : List Nd → Nat
  | [] => 0
  | a :: r => X.sz1 a + X.szP r
/-- The program's bytes. -/
def Enc.wrP (X : Enc) : Nat → List Nd → List UInt8
  | 0, _ => []
  | _ + 1, [] => []
  | f + 1, a :: r => X.hd a (if X.und a = true then 4294967295 else (X.pv a).length + X.szP (r.take (goN r a.n.toNat))) ++ X.pv a ++ X.wrP f (r.take (goN r a.n.toNat)) ++ (if X.und a = true then X.em else []) ++ X.wrP f (r.drop (goN r a.n.toNat))
/-- The document's count: of elements, of items. -/
def Enc.szD (X : Enc) : Nat → Bool → List Nd → Nat
  | 0, _, _ => 0
  | _ + 1, _, [] => 0
  | f + 1, false, a :: r => X.hs a + (if a.v ≠ 18 then (X.pv a).length else if X.und a = true then 8 else 0) + X.szD f true (r.take (goN r a.n.toNat)) + X.szD f false (r.drop (goN r a.n.toNat))
  | f + 1, true, b :: s => 8 + X.szD f false (s.take (goN s b.n.toNat)) + X.szD f true (s.drop (goN s b.n.toNat))
/-- The document's bytes. -/
def Enc.layD (X : Enc) : Nat → Bool → List Nd → List UInt8
  | 0, _, _ => []
  | _ + 1, _, [] => []
  | f + 1, false, a :: r =>
    if a.v ≠ 18 then X.hd a (X.pv a).length ++ X.pv a ++ X.layD f false (r.drop (goN r a.n.toNat))
    else X.hd a (if X.und a = true then 4294967295 else X.szD f true (r.take (goN r a.n.toNat))) ++ X.layD f true (r.take (goN r a.n.toNat)) ++ (if X.und a = true then X.em else []) ++ X.layD f false (r.drop (goN r a.n.toNat))
  | f + 1, true, b :: s => X.ih (X.szD f false (s.take (goN s b.n.toNat))) ++ X.layD f false (s.take (goN s b.n.toNat)) ++ X.layD f true (s.drop (goN s b.n.toNat))

/-- What elements and items are, to a syntax. -/
structure Enc.Fit (X : Enc) (E I : Nd → Bool) : Prop where
  el : ∀ a, E a = true → a.v ≠ 18 → a.n = 0 ∧ X.und a = false
  sq : ∀ a, E a = true → a.v = 18 → X.pv a = []
  it : ∀ a, I a = true → X.pv a = [] ∧ X.und a = false ∧ X.hs a = 8 ∧ ∀ n, X.hd a n = X.ih n

theorem Enc.szP_cut (X : Enc) : ∀ (M : List Nd) (j : Nat), X.szP M = X.szP (M.take j) + X.szP (M.drop j)
  | [], j => by simp [Enc.szP]
  | a :: M, 0 => by simp [Enc.szP]
  | a :: M, j + 1 => by
    rw [List.take_succ_cons, List.drop_succ_cons, Enc.szP, Enc.szP, X.szP_cut M j]
    omega
theorem Enc.same {X : Enc} {E I : Nd → Bool} (h : X.Fit E I) : ∀ (f : Nat) (b : Bool) (M : List Nd), wf E I f b M → X.szD f b M = X.szP M ∧ X.layD f b M = X.wrP f M
  | 0, b, M, hw => by
    obtain rfl : M = [] := hw
    exact ⟨rfl, rfl⟩
  | f + 1, b, [], _ => ⟨by cases b <;> rfl, by cases b <;> rfl⟩
  | f + 1, false, a :: r, hw => by
    obtain ⟨h1, h2, h3⟩ := hw
    have hE : E a = true := by simpa using h1
    obtain ⟨s2, l2⟩ := Enc.same h f true _ h2
    obtain ⟨s3, l3⟩ := Enc.same h f false _ h3
    have hc := X.szP_cut r (goN r a.n.toNat)
    by_cases hv : a.v = 18
    · have hp := h.sq a hE hv
      refine ⟨?_, ?_⟩
      · rw [Enc.szD, s2, s3, Enc.szP, Enc.sz1, hc, if_neg (by simp [hv]), hp]
        simp only [List.length_nil]
        omega
      · rw [Enc.layD, Enc.wrP, if_neg (by simp [hv]), s2, l2, l3, hp]
        simp
    · obtain ⟨hn, hu⟩ := h.el a hE hv
      have h0 : goN r a.n.toNat = 0 := by rw [hn]; exact Wk.goN_zero r
      rw [h0] at s3 l3 hc
      rw [h0] at s2
      refine ⟨?_, ?_⟩
      · rw [Enc.szD, Enc.szP, Enc.sz1, h0, s2, s3, if_pos hv, hu]
        simp [Enc.szP]
      · rw [Enc.layD, Enc.wrP, if_pos hv, h0, l3, hu]
        cases f <;> simp [Enc.szP, Enc.wrP]
  | f + 1, true, b :: s, hw => by
    obtain ⟨h1, h2, h3⟩ := hw
    have hI : I b = true := by simpa using h1
    obtain ⟨hp, hu, hh, hd⟩ := h.it b hI
    obtain ⟨s2, l2⟩ := Enc.same h f false _ h2
    obtain ⟨s3, l3⟩ := Enc.same h f true _ h3
    refine ⟨?_, ?_⟩
    · rw [Enc.szD, s2, s3, Enc.szP, Enc.sz1, X.szP_cut s (goN s b.n.toNat), hp, hu, hh]
      simp
      omega
    · rw [Enc.layD, Enc.wrP, s2, l2, l3, hp, hu, hd]
      simp
theorem cut_len (r : List Nd) (w : Nat) : (r.take (goN r w)).length ≤ r.length ∧ (r.drop (goN r w)).length ≤ r.length := by
  rw [List.length_take, List.length_drop]
  omega
/-- More steps than nodes say nothing more. -/
theorem Enc.wrP_fuel (X : Enc) : ∀ (f g : Nat) (M : List Nd), M.length ≤ f → M.length ≤ g → X.wrP f M = X.wrP g M
  | 0, 0, M, _, _ => rfl
  | 0, g + 1, M, hf, _ => by
    obtain rfl : M = [] := List.length_eq_zero_iff.1 (by omega)
    rfl
  | f + 1, 0, M, _, hg => by
    obtain rfl : M = [] := List.length_eq_zero_iff.1 (by omega)
    rfl
  | f + 1, g + 1, [], _, _ => rfl
  | f + 1, g + 1, a :: r, hf, hg => by
    obtain ⟨h1, h2⟩ := cut_len r a.n.toNat
    simp only [List.length_cons] at hf hg
    rw [Enc.wrP, Enc.wrP, X.wrP_fuel f g _ (by omega) (by omega), X.wrP_fuel f g (r.drop _) (by omega) (by omega)]
theorem Enc.szD_fuel (X : Enc) : ∀ (f g : Nat) (b : Bool) (M : List Nd), M.length ≤ f → M.length ≤ g → X.szD f b M = X.szD g b M
  | 0, 0, b, M, _, _ => rfl
  | 0, g + 1, b, M, hf, _ => by
    obtain rfl : M = [] := List.length_eq_zero_iff.1 (by omega)
    cases b <;> rfl
  | f + 1, 0, b, M, _, hg => by
    obtain rfl : M = [] := List.length_eq_zero_iff.1 (by omega)
    cases b <;> rfl
  | f + 1, g + 1, b, [], _, _ => by cases b <;> rfl
  | f + 1, g + 1, b, a :: r, hf, hg => by
    obtain ⟨h1, h2⟩ := cut_len r a.n.toNat
    simp only [List.length_cons] at hf hg
    cases b with
    | false => rw [Enc.szD, Enc.szD, X.szD_fuel f g true _ (by omega) (by omega), X.szD_fuel f g false _ (by omega) (by omega)]
    | true => rw [Enc.szD, Enc.szD, X.szD_fuel f g false _ (by omega) (by omega), X.szD_fuel f g true _ (by omega) (by omega)]
theorem Enc.layD_fuel (X : Enc) : ∀ (f g : Nat) (b : Bool) (M : List Nd), M.length ≤ f → M.length ≤ g → X.layD f b M = X.layD g b M
  | 0, 0, b, M, _, _ => rfl
  | 0, g + 1, b, M, hf, _ => by
    obtain rfl : M = [] := List.length_eq_zero_iff.1 (by omega)
    cases b <;> rfl
  | f + 1, 0, b, M, _, hg => by
    obtain rfl : M = [] := List.length_eq_zero_iff.1 (by omega)
    cases b <;> rfl
  | f + 1, g + 1, b, [], _, _ => by cases b <;> rfl
  | f + 1, g + 1, b, a :: r, hf, hg => by
    obtain ⟨h1, h2⟩ := cut_len r a.n.toNat
    simp only [List.length_cons] at hf hg
    cases b with
    | false => rw [Enc.layD, Enc.layD, X.layD_fuel f g true _ (by omega) (by omega), X.layD_fuel f g false _ (by omega) (by omega), X.szD_fuel f g true _ (by omega) (by omega)]
    | true => rw [Enc.layD, Enc.layD, X.layD_fuel f g false _ (by omega) (by omega), X.layD_fuel f g true _ (by omega) (by omega), X.szD_fuel f g false _ (by omega) (by omega)]
/-- As many bytes as were counted. -/
theorem Enc.wrP_len {X : Enc} (hh : ∀ a n, (X.hd a n).length = X.hs a) (he : X.em.length = 8) : ∀ (f : Nat) (M : List Nd), M.length ≤ f → (X.wrP f M).length = X.szP M
  | 0, M, hf => by
    obtain rfl : M = [] := List.length_eq_zero_iff.1 (by omega)
    rfl
  | f + 1, [], _ => rfl
  | f + 1, a :: r, hf => by
    obtain ⟨h1, h2⟩ := cut_len r a.n.toNat
    simp only [List.length_cons] at hf
    have e1 := X.wrP_len hh he f (r.take (goN r a.n.toNat)) (by omega)
    have e2 := X.wrP_len hh he f (r.drop (goN r a.n.toNat)) (by omega)
    have hc := X.szP_cut r (goN r a.n.toNat)
    rw [Enc.wrP, Enc.szP, Enc.sz1]
    simp only [List.length_append, hh, e1, e2]
    split <;> simp [he] <;> omega
end Go.Proofs.YtfoodjhffehgpaaGreatDoor
end

section
/-
  DERIVED. Bytes laid down behind others; numbers, tags, heads: plain functions, and what an append leaves as it was.
-/
namespace Go.Proofs.YtfoodjhffehgpaaGreatDoor
open Go Go.Proofs Go.RowKit
open Wk (Nd NV goN)

structure StopB (p : Prop) : Prop where
  out : p
/-- A number, the low byte first. -/
def le : Nat → Nat → List UInt8
  | 0, _ => []
  | k + 1, n => UInt8.ofNat n :: le k (n / 256)
theorem le_len : ∀ k n, (le k n).length = k
  | 0, _ => rfl
  | k + 1, n => by rw [le, List.length_cons, le_len k]
theorem le_snoc : ∀ k n, le (k + 1) n = le k n ++ [UInt8.ofNat (n / 256 ^ k)]
  | 0, n => by simp [le]
  | k + 1, n => by
    rw [le, le_snoc k (n / 256), Nat.div_div_eq_div_mul, ← Nat.pow_succ', le, List.cons_append]
/-- A tag. -/
def tagL (t : Nat) : List UInt8 := le 2 (t / 65536) ++ le 2 t
theorem tagL_len (t : Nat) : (tagL t).length = 4 := by rw [tagL, List.length_append, le_len, le_len]
/-- A head without letters. -/
def plL (t n : Nat) : List UInt8 := tagL t ++ le 4 n
theorem plL_len (t n : Nat) : (plL t n).length = 8 := by rw [plL, List.length_append, tagL_len, le_len]
/-- Bytes, as they lie in memory. -/
def bvs (l : List UInt8) : List Value := l.map fun b => .int .u8 (b.toNat : Int)
theorem bvs_len (l : List UInt8) : (bvs l).length = l.length := List.length_map _
theorem bvs_app (l m : List UInt8) : bvs (l ++ m) = bvs l ++ bvs m := List.map_append
theorem bvs_one (l : List UInt8) : ∀ u ∈ bvs l, u.oneCell' = true := by
  intro u hu
  obtain ⟨b, -, rfl⟩ := List.mem_map.1 hu
  rfl
/-- Bytes of our own. -/
def Ob (base : Nat) (W : World) (u : Value) (ys : List UInt8) : Prop := W.ownsRow base 5 1 u ys.length (bvs ys)
theorem Ob.on {base : Nat} {W W' : World} {u : Value} {ys : List UInt8} (h : Ob base W u ys) (hb : Below W.heap.size W W') : Ob base W' u ys := Wk.ownsRow_below h hb (Nat.le_refl _)
/-- No bytes lie in that block. -/
def NotB (W : World) (k : Nat) : Prop := ∀ cur fr, W.heap[k]? ≠ some (.cells cur 5 fr)
/-- All below is as it was, and all that is no bytes. -/
structure By (base : Nat) (W W' : World) : Prop where
  b : Below base W W'
  k : ∀ k, k < W.heap.size → NotB W k → W'.heap[k]? = W.heap[k]?
theorem By.refl (base : Nat) (W : World) : By base W W := ⟨Below.refl _ _, fun _ _ _ => rfl⟩
theorem By.trans {base : Nat} {W W1 W2 : World} (h : By base W W1) (h2 : By base W1 W2) : By base W W2 :=
  ⟨h.b.trans h2.b, fun k hk hn => (h2.k k (Nat.lt_of_lt_of_le hk h.b.size) (fun c f => by rw [h.k k hk hn]; exact hn c f)).trans (h.k k hk hn)⟩
theorem By.of {base : Nat} {W W1 : World} (h : Below W.heap.size W W1) (hb : base ≤ W.heap.size) : By base W W1 := ⟨h.mono hb, fun k hk _ => h.block k hk⟩
theorem By.grown {base : Nat} {W W1 : World} {v : Value} {n : Nat} {xs : List Value} (ho : W.ownsRow base 5 1 v n xs) (hg : W.grownBy W1 v.ownBlock) (hb : base ≤ W.heap.size) : By base W W1 := by
  refine ⟨⟨hg.os, hg.tape, hg.output, hg.size, fun k hk => hg.block k (by omega) (fun e => ?_)⟩, fun k hk hn => hg.block k hk (fun e => ?_)⟩
  · have := (ho.lt k e.symm).1
    omega
  · rcases ho.2 with ⟨rfl, -⟩ | ⟨g, cap, cur, rfl, -, hh, -⟩
    · cases e
    · cases e
      exact hn cur (0, 0) hh
theorem By.size {base : Nat} {W W1 : World} (h : By base W W1) : W.heap.size ≤ W1.heap.size := h.b.size

theorem info8 : (Tryz.prog.info? 5).map (fun i => (i.zero, i.size, i.bytes)) = some (some (.int .u8 0), 1, 1) := by kernel_rfl
theorem u8_of (m : Nat) : (((UInt8.ofNat m).toNat : Nat) : Int) = (m : Int) % 256 := by
  rw [UInt8.toNat_ofNat']
  omega
theorem news_b {w : World} {B : Nat} (hB : w.heap.size = B) (zs : List UInt8) (cs : Array Value) (hcs : cs.toList = bvs zs) (t : TypeId) : ∀ j u, (bvs zs)[j]? = some u → (w.alloc (.cells cs t)).cell? ((⟨B, 0, none⟩ : Addr).add j) = some u := by
  rw [← hcs]
  exact Wk.news_new hB cs t
/-- Bytes behind bytes of our own. -/
theorem app_bytes {w : World} {ops : Array Oper} {rest : List Oper} {o : Oper} {a : Act} {Q : Exit → Act → World → Prop} (hgd : o.guard = none) (s x : Operand)
    (ho : o.op = .call { callee := .builtin .append, args := #[s, x], argTypes := #[31, 31] }) (base : Nat) (v : Value) (ys : List UInt8) (hs : a.eval s = v) (hown : Ob base w v ys)
    (ad : Addr) (m c : Nat) (zs : List UInt8) (hx : a.eval x = .slice (some ad) m c) (hm : zs.length = m) (hnews : ∀ j u, (bvs zs)[j]? = some u → w.cell? (ad.add j) = some u) (hlen : ys.length + m ≤ 100000000) (hbase : base ≤ w.heap.size)
    (h : ∀ u w', Ob base w' u (ys ++ zs) → By base w w' → wpList Tryz.prog ops Q rest (a.put o.dst u) w') : wpList Tryz.prog ops Q (o :: rest) a w := by
  obtain ⟨i0, hi, hz0, hz1, hz2⟩ := info_parts info8
  refine wpList_append_own w hgd s x 31 ho base 5 i0 (.int .u8 0) 1 1 Tryz.underlying31 hi hz0 hz1 hz2 rfl (by decide) v ys.length (bvs ys) hs hown ad m c (bvs zs) hx (by rw [bvs_len, hm, Nat.mul_one]) hnews (bvs_one zs) (by simp only [maxLen]; omega) (by omega) hbase ?_
  intro u w' h2 h3 _
  refine h u w' ?_ (By.grown hown h3 hbase)
  unfold Ob
  rw [List.length_append, hm, bvs_app]
  exact h2
/-- A text behind bytes of our own. -/
theorem app_text {w : World} {ops : Array Oper} {rest : List Oper} {o : Oper} {a : Act} {Q : Exit → Act → World → Prop} (hgd : o.guard = none) (s x : Operand)
    (ho : o.op = .call { callee := .builtin .append, args := #[s, x], argTypes := #[31, 9] }) (base : Nat) (v : Value) (ys : List UInt8) (hs : a.eval s = v) (hown : Ob base w v ys)
    (t : ByteArray) (hx : a.eval x = .string t) (hlen : ys.length + t.size ≤ 100000000) (hbase : base ≤ w.heap.size)
    (h : ∀ u w', Ob base w' u (ys ++ t.data.toList) → By base w w' → wpList Tryz.prog ops Q rest (a.put o.dst u) w') : wpList Tryz.prog ops Q (o :: rest) a w := by
  obtain ⟨i0, hi, hz0, hz1, hz2⟩ := info_parts info8
  refine Lib.wpList_append_own_string w hgd s x 31 9 ho base 5 i0 Tryz.underlying31 Tryz.underlying9 hi hz0 hz1 hz2 v ys.length (bvs ys) hs hown t hx (by simp only [maxLen]; omega) (by omega) hbase ?_
  intro u w' h2 h3 _
  refine h u w' ?_ (By.grown hown h3 hbase)
  unfold Ob
  rw [List.length_append, Array.length_toList, bvs_app]
  exact h2
/-- The same, as a step of a region that draws its order. -/
theorem step_text {w : World} {ops : Array Oper} {o : Oper} {a : Act} {K : Act → World → Prop} {Q : Exit → Act → World → Prop} {E : Prop} (hgd : o.guard = none) (s x : Operand)
    (ho : o.op = .call { callee := .builtin .append, args := #[s, x], argTypes := #[31, 9] }) (base : Nat) (v : Value) (ys : List UInt8) (hs : a.eval s = v) (hown : Ob base w v ys)
    (t : ByteArray) (hx : a.eval x = .string t) (hlen : ys.length + t.size ≤ 100000000) (hbase : base ≤ w.heap.size)
    (h : ∀ u w', Ob base w' u (ys ++ t.data.toList) → By base w w' → K (a.put o.dst u) w') :
    if Region.wanted o (yielded ops a.tmps) = true then Oper.wp Tryz.prog o a w K Q else E := by
  have hw : Region.wanted o (yielded ops a.tmps) = true := by simp [Region.wanted, hgd]
  rw [if_pos hw]
  obtain ⟨i0, hi, hz0, hz1, hz2⟩ := info_parts info8
  obtain ⟨v', w', hr, h2, h3, _⟩ := Lib.run_append_own_string (P := Tryz.prog) w base 31 9 o.type 5 i0 Tryz.underlying31 Tryz.underlying9 hi hz0 hz1 hz2 v ys.length (bvs ys) hown t (by simp only [maxLen]; omega) (by omega) hbase
  unfold Oper.wp execOp
  simp only [ho, resolve, invoke, builtin, Sem.run_bind, Sem.run_pure, Result.andThen_ok, List.map_toArray, List.map_cons, List.map_nil, hs, hx, hr]
  refine h v' w' ?_ (By.grown hown h3 hbase)
  unfold Ob
  rw [List.length_append, Array.length_toList, bvs_app]
  exact h2
/-- What is no bytes stays. -/
theorem By.cell {base : Nat} {W W' : World} (h : By base W W') {k : Nat} {cs : Array Value} {ty : TypeId} {fr : Nat × Nat} (hk : W.heap[k]? = some (.cells cs ty fr)) (ht : ty ≠ 5) : W'.heap[k]? = W.heap[k]? :=
  h.k k (Array.getElem?_eq_some_iff.1 hk).1 (fun c f e => by rw [hk] at e; cases e; exact ht rfl)
end Go.Proofs.YtfoodjhffehgpaaGreatDoor
end
