
import Derived.Test.YtegfgbcimlacbaaGreatDoorOf
import Derived.Test.YtegfgbcimlacbaaGreatDoorX
/-
  DERIVED. That both say the same of a rune.
-/
namespace Go.Proofs.YtegfgbcimlacbaaGreatDoor
open Go Go.Proofs Go.RowKit Go.Maps

theorem byteL_iff (k : Nat) (r : Int) : ∀ n, byteL k r n ≠ 0 ↔ ∃ d, d < n ∧ mean k d ≠ 0 ∧ r = (mean k d : Nat)
  | 0 => by simp [byteL]
  | n + 1 => by
    rw [byteL]
    by_cases h : r = (mean k n : Nat) ∧ mean k n ≠ 0
    · rw [if_pos h]
      exact ⟨fun _ => ⟨n, by omega, h.2, h.1⟩, fun _ => by omega⟩
    · rw [if_neg h, byteL_iff k r n]
      constructor
      · rintro ⟨d, h1, h2, h3⟩
        exact ⟨d, by omega, h2, h3⟩
      · rintro ⟨d, h1, h2, h3⟩
        refine ⟨d, ?_, h2, h3⟩
        rcases Nat.lt_or_ge d n with hd | hd
        · exact hd
        · obtain rfl : d = n := by omega
          exact absurd ⟨h3, h2⟩ h
theorem wrL_iff (k : Nat) (r : Int) : ∀ n d0, wrL k r n d0 ≠ 0 ↔ ∃ d, d0 ≤ d ∧ d < d0 + n ∧ (mean k d : Int) = r
  | 0, d0 => by simp [wrL]; intro d h1 h2; omega
  | n + 1, d0 => by
    rw [wrL]
    by_cases h : (mean k d0 : Int) = r
    · rw [if_pos h]
      exact ⟨fun _ => ⟨d0, Nat.le_refl _, by omega, h⟩, fun _ => by omega⟩
    · rw [if_neg h, wrL_iff k r n (d0 + 1)]
      constructor
      · rintro ⟨d, h1, h2, h3⟩
        exact ⟨d, by omega, by omega, h3⟩
      · rintro ⟨d, h1, h2, h3⟩
        refine ⟨d, ?_, by omega, h3⟩
        rcases Nat.lt_or_ge d0 d with hd | hd
        · omega
        · obtain rfl : d = d0 := by omega
          exact absurd h3 h

theorem byte_writes (k : Nat) (hk : k < 7) (r : Int) : (byteOf k r ≠ 0) ↔ (160 ≤ r ∧ writesN k r ≠ 0) := by
  unfold byteOf writesN
  rw [byteL_iff, wrL_iff]
  constructor
  · rintro ⟨d, h1, h2, h3⟩
    have := (mean_high ⟨k, hk⟩ ⟨d, h1⟩).resolve_left h2
    simp only at this
    exact ⟨by omega, d, by omega, by omega, h3.symm⟩
  · rintro ⟨h0, d, h1, h2, h3⟩
    exact ⟨d, by omega, by omega, h3.symm⟩

theorem firstB_iff (r : Int) : ∀ R : List Row, firstB r R ≠ 0 ↔ ∃ a ∈ R, byteOf a.1 r ≠ 0
  | [] => by simp [firstB]
  | a :: R => by
    rw [firstB]
    by_cases h : byteOf a.1 r = 0
    · rw [if_pos h, firstB_iff r R]
      constructor
      · rintro ⟨b, hb, h2⟩; exact ⟨b, by simp [hb], h2⟩
      · rintro ⟨b, hb, h2⟩
        rcases List.mem_cons.1 hb with rfl | hb
        · exact absurd h h2
        · exact ⟨b, hb, h2⟩
    · rw [if_neg h]
      exact ⟨fun _ => ⟨a, by simp, h⟩, fun _ => h⟩

theorem has_same (a : Row) (R : List Row) (r : Int) (h7 : ∀ b ∈ a :: R, b.1 < 7) (h6 : R = [] ∨ ∀ b ∈ a :: R, b.1 ≠ 6) : hasS a R r = rhasS (namesOf (a :: R)) r := by
  have hz : ∀ k, k < 7 → ((decide (160 ≤ r) && !(writesN k r == 0)) = true ↔ byteOf k r ≠ 0) := fun k hk => by
    rw [byte_writes k hk r]
    simp
  have h60 : byteOf 6 r = 0 := by
    by_cases h : byteOf 6 r = 0
    · exact h
    · unfold byteOf at h
      obtain ⟨d, _, h2, _⟩ := (byteL_iff 6 r 96).1 h
      exact absurd (by simp [mean]) h2
  unfold hasS rhasS
  congr 1
  by_cases ha : a.1 = 6
  · have hR : R = [] := h6.resolve_right (fun h => h a (by simp) ha)
    subst hR
    have hb : (a.1 == 6) = true := by simpa using ha
    have hx : (decide (160 ≤ r) && !(writesN 6 r == 0)) = false := by
      cases h : (decide (160 ≤ r) && !(writesN 6 r == 0)) with
      | false => rfl
      | true => exact absurd h60 ((hz 6 (by decide)).1 h)
    rw [if_pos hb]
    show wid r = (hitR r (a.1, a.2.1) || false)
    unfold hitR
    simp only
    rw [ha, hx]
    simp
  · have hb : ¬ ((a.1 == 6) = true) := by simpa using ha
    have hno : ∀ b ∈ a :: R, b.1 ≠ 6 := by
      rcases h6 with rfl | h
      · intro b hb2; simp at hb2; rw [hb2]; exact ha
      · exact h
    rw [if_neg hb]
    have hit : ∀ b ∈ a :: R, hitR r (b.1, b.2.1) = true ↔ byteOf b.1 r ≠ 0 := fun b hb2 => by
      unfold hitR
      have h1 : (b.1 == 6) = false := by simpa using hno b hb2
      simp only
      rw [h1, Bool.false_and, Bool.false_or]
      exact hz b.1 (h7 b hb2)
    rw [Bool.eq_iff_iff]
    unfold namesOf
    rw [List.any_map, List.any_eq_true]
    have hf := firstB_iff r (a :: R)
    constructor
    · intro h
      obtain ⟨b, hb2, hb3⟩ := hf.1 (by simpa using h)
      exact ⟨b, hb2, (hit b hb2).2 hb3⟩
    · rintro ⟨b, hb2, hb3⟩
      have := hf.2 ⟨b, hb2, (hit b hb2).1 hb3⟩
      simpa using this

theorem newL_nodup : ∀ (T : List ByteArray) (cnt i : Nat) (N : List (Nat × ByteArray)) (x : Bool) (N' : List (Nat × ByteArray)) (x' : Bool), (N.map (·.1)).Nodup → newL cnt T i N x = .inr (N', x') → (N'.map (·.1)).Nodup
  | [], _, _, _, _, _, _, hN, h => by simp [newL] at h; rw [← h.1]; exact hN
  | s :: T, cnt, i, N, x, N', x', hN, h => by
    rw [newL] at h
    split at h
    · simp at h
    · rename_i k y hk
      split at h
      · simp at h
      · split at h
        · simp at h
        · rename_i hany
          refine newL_nodup T cnt (i + 1) _ _ N' x' ?_ h
          rw [List.map_append, List.nodup_append]
          refine ⟨hN, by simp, ?_⟩
          intro a ha b hb e
          simp at hb
          subst hb
          subst e
          rw [List.mem_map] at ha
          obtain ⟨r, hr, hr2⟩ := ha
          exact hany (List.any_eq_true.2 ⟨r, hr, by simp [hr2]⟩)

theorem newL_six (cnt : Nat) (hc : 1 < cnt) : ∀ (T : List ByteArray) (i : Nat) (N : List (Nat × ByteArray)) (x : Bool) (N' : List (Nat × ByteArray)) (x' : Bool), (∀ r ∈ N, r.1 ≠ 6) → newL cnt T i N x = .inr (N', x') → ∀ r ∈ N', r.1 ≠ 6
  | [], _, _, _, _, _, hN, h => by simp [newL] at h; rw [← h.1]; exact hN
  | s :: T, i, N, x, N', x', hN, h => by
    rw [newL] at h
    split at h
    · simp at h
    · rename_i k y hk
      split at h
      · simp at h
      · rename_i hy
        have hy1 : y = true := by
          cases y with
          | true => rfl
          | false => simp [hc] at hy
        subst hy1
        split at h
        · simp at h
        · refine newL_six cnt hc T (i + 1) _ true N' x' (fun r hr => ?_) h
          rw [List.mem_append, List.mem_singleton] at hr
          rcases hr with hr | rfl
          · exact hN r hr
          · rintro rfl
            have := (nmd_is 7 0 _ _ _ hk).2 rfl
            rw [sp_list] at this
            simp [spL] at this

theorem newS_apart {T : List ByteArray} {N : List (Nat × ByteArray)} {x : Bool} (h : newS T = .inr (N, x)) : (N.map (·.1)).Nodup ∧ (N.length = 1 ∨ ∀ r ∈ N, r.1 ≠ 6) := by
  unfold newS at h
  split at h
  · simp at h
  · split at h
    · simp at h
      obtain ⟨rfl, rfl⟩ := h
      exact ⟨by simp, .inl rfl⟩
    · rename_i h0
      refine ⟨newL_nodup T _ _ _ _ _ _ (by simp) h, ?_⟩
      by_cases h1 : 1 < T.length
      · exact .inr (newL_six _ h1 T 0 [] false N x (by simp) h)
      · have hl := newL_len T T.length 0 [] false N x h
        simp at hl
        exact .inl (by omega)

theorem mfN_inj : ∀ a b : Fin 6, mfN a.val = mfN b.val → a = b := by decide

/-- A set that New gave, ready to be asked. -/
theorem SetAt.ask {w : World} {q : Nat} {v : Value} {R : List Row} {x : Bool} (h : SetAt w q v R x) (h7 : ∀ r ∈ R, r.1 < 7) (hn : ((namesOf R).map (·.1)).Nodup) (h6 : R.length = 1 ∨ ∀ r ∈ R, r.1 ≠ 6) : SetIn w q v R x := by
  refine ⟨h.c0, h.own, fun r hr => ⟨.inl (h.fresh r hr).1, (h.fresh r hr).2⟩, fun i j a b ha hb hij e => ?_⟩
  have hma := List.mem_of_getElem? ha
  have hmb := List.mem_of_getElem? hb
  rcases h6 with h1 | h6
  · have := (List.getElem?_eq_some_iff.1 ha).1
    have := (List.getElem?_eq_some_iff.1 hb).1
    omega
  · have e2 := mfN_inj ⟨a.1, by have := h7 a hma; have := h6 a hma; omega⟩ ⟨b.1, by have := h7 b hmb; have := h6 b hmb; omega⟩ e
    simp only [Fin.mk.injEq] at e2
    have hm : (namesOf R).map (·.1) = R.map (·.1) := by unfold namesOf; simp
    rw [hm] at hn
    have hi : (R.map (·.1))[i]? = some a.1 := by rw [List.getElem?_map, ha]; rfl
    have hj : (R.map (·.1))[j]? = some b.1 := by rw [List.getElem?_map, hb]; rfl
    have hil := (List.getElem?_eq_some_iff.1 hi)
    have hjl := (List.getElem?_eq_some_iff.1 hj)
    obtain ⟨l1, g1⟩ := hil
    obtain ⟨l2, g2⟩ := hjl
    have hp := List.pairwise_iff_getElem.1 hn
    rcases Nat.lt_or_ge i j with hlt | hge
    · exact hp i j l1 l2 hlt (g1.trans (e2.trans g2.symm))
    · exact hp j i l2 l1 (by omega) (g2.trans (e2.symm.trans g1.symm))

/-- The first sixteen blocks are the tables'; a set lies behind them. -/
theorem RTabs.below {q : Nat} {w w' : World} (h : RTabs w) (hb : Below q w w') (hq : 5 < q) : RTabs w' :=
  ⟨fun i hi => (hb.cell (p := ⟨2, i, none⟩) (show 2 < q by omega)).trans (h.p1 i hi), fun i hi => (hb.cell (p := ⟨3, i, none⟩) (show 3 < q by omega)).trans (h.p2 i hi)⟩
theorem Tabs.below {q : Nat} {w w' : World} (h : Tabs w) (hb : Below q w w') (hq : 5 < q) : Tabs w' :=
  ⟨fun i hi => (hb.cell (p := ⟨4, i, none⟩) (show 4 < q by omega)).trans (h.p1 i hi), fun i hi => (hb.cell (p := ⟨5, i, none⟩) (show 5 < q by omega)).trans (h.p2 i hi)⟩

/-- The document's set is not touched when the program's ways back are asked. -/
theorem RSetAt.kept {w w' : World} {H p q : Nat} {v u : Value} {N : List (Nat × ByteArray)} {x y : Bool} {R : List Row} (h : RSetAt w H p v N x) (hN : N ≠ []) (hs : SetIn w q u R y) (hk : Keep R w w') : RSetAt w' H p v N x := by
  obtain ⟨ao, cap, rfl⟩ := h.val
  have np : ∀ r ∈ R, p ≠ r.2.2 + 1 := fun r hr e => by
    obtain ⟨z, hz⟩ := (hs.st r hr).1.word
    have := h.c0
    rw [e, hz] at this
    cases this
  have hl : p < w.heap.size := cell_lt h.c0
  refine ⟨hk.cell h.c0 np, hk.cell h.c1 np, fun i => (World.frozen?_of_block (hk.block p hl np)).trans (h.cf i), own_keep h.own (fun g hg => hk.block g (h.own.lt g hg).2 (fun r hr e => ?_))⟩
  obtain ⟨z, hz⟩ := (hs.st r hr).1.word
  obtain ⟨a, N', rfl⟩ : ∃ a N', N = a :: N' := by
    cases N with
    | nil => exact absurd rfl hN
    | cons a b => exact ⟨a, b, rfl⟩
  obtain ⟨g2, e2, _, hc⟩ := h.cell 0 a rfl
  subst e2
  simp [Value.ownBlock] at hg
  subst hg
  rw [e, hz] at hc
  cases hc
end Go.Proofs.YtegfgbcimlacbaaGreatDoor
